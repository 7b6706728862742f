/-
  The law ExpandChain walked: each block behind the first one is the sum of the begin, mixed with the block ahead, its number, and the tag's end. Conditions: as the theorem says.
-/
import Derived.Test.YtkkhpjcfojgggaaDoorExC
import Derived.Test.YtkkhpjcfojgggaaDoorLate
namespace Go.Proofs.YtkkhpjcfojgggaaDoor.Br.Ex
open Go.RowKit
set_option linter.unusedVariables false
set_option linter.unusedSimpArgs false

theorem own_open {base : Nat} {W : World} {v : Value} {l : List Nat} (h : Own8 base W v l) (hn : 0 < l.length) : ∃ g c R, v = .slice (some ⟨g, 0, none⟩) l.length c ∧ base ≤ g ∧ l.length + R.length = c ∧ c ≤ maxLen ∧ At 5 W g (bv8 l ++ R) := by
  obtain ⟨h1, h2⟩ := h
  rcases h2 with ⟨e, e0⟩ | ⟨g, cap, cur, e, hg, hh, hn', hm, hc, ht⟩
  · omega
  · refine ⟨g, cap, cur.toList.drop l.length, e, hg, by simp; omega, hm, ?_⟩
    rw [Nat.mul_one] at ht
    have e2 : bv8 l ++ cur.toList.drop l.length = cur.toList := by rw [← ht]; exact List.take_append_drop _ _
    unfold At
    rw [e2]
    exact hh
theorem own_shut {base g c : Nat} {W : World} {l : List Nat} {R : List Value} (h : At 5 W g (bv8 l ++ R)) (hb : base ≤ g) (hc : l.length + R.length = c) (hm : c ≤ maxLen) : Own8 base W (.slice (some ⟨g, 0, none⟩) l.length c) l := by
  refine ⟨by rw [bv8_length]; omega, Or.inr ⟨g, c, (bv8 l ++ R).toArray, rfl, hb, h, by omega, hm, by simp [bv8_length]; omega, ?_⟩⟩
  simp only [Nat.mul_one]
  rw [List.take_append_of_le_length (by rw [bv8_length]; omega), List.take_of_length_le (by rw [bv8_length]; omega)]
theorem blks_more (B E : List Nat) (K : Nat) : ∀ d, ∃ r, blks B E (K + d) = blks B E K ++ r
  | 0 => ⟨[], by simp⟩
  | d + 1 => by
    obtain ⟨r, h⟩ := blks_more B E K d
    exact ⟨r ++ blk B E (K + d + 1), by rw [← Nat.add_assoc, blks, h, List.append_assoc]⟩
/-- The part of what comes that one block gives. -/
theorem what_part (m t : List Nat) (n K mm : Nat) (hK : 64 * K < n) (hmm : mm = min 64 (n - 64 * K)) : ((what m t n).drop (64 * K)).take mm = (blk (begin_ m n (tend t)) (tend t) (K + 1)).take mm := by
  unfold what
  generalize begin_ m n (tend t) = B
  generalize tend t = E
  have hH : K + 1 ≤ howMany n := by unfold howMany; omega
  obtain ⟨r, hr⟩ := blks_more B E (K + 1) (howMany n - (K + 1))
  rw [show K + 1 + (howMany n - (K + 1)) = howMany n by omega] at hr
  rw [hr, blks, List.drop_take, List.append_assoc, List.drop_left' (blks_length B E K), List.take_take, show min mm (n - 64 * K) = mm by omega]
  exact List.take_append_of_le_length (by rw [blk_length]; omega)
theorem mid_cut (mB mO N c i mm : Nat) (h1 : i + mm ≤ N) (h2 : N ≤ c) (hm : 0 < mm) (W : World) : (Instr.sliceAt 22 (.slice (some ⟨mB, mO, none⟩) N c) (some (.int .i64 (i : Int))) (some (.int .i64 ((i : Int) + (mm : Int)))) none).run Tryd.prog W = .ok (.slice (some ⟨mB, mO + i, none⟩) mm (c - i)) W := by
  have k0 : (0 : Int) ≤ i := by omega
  have k1 : (i : Int) ≤ (i : Int) + mm := by omega
  have k2 : (i : Int) + mm ≤ c := by omega
  have k3 : ((i : Int) + mm).toNat = i + mm := by omega
  have k4 : ¬ c = i := by omega
  have k5 : (0 : Int) ≤ (i : Int) + mm := by omega
  have k6 : i + mm - i = mm := by omega
  have k7 : i + mm ≤ c := by omega
  simp [go_sem, k0, k1, k2, k3, k4, k5, k6, k7]
theorem first_part (a : Option Addr) (n c h : Nat) (h1 : h ≤ n) (h2 : n ≤ c) (W : World) : (Instr.sliceAt 22 (.slice a n c) none (some (.int .i64 (h : Int))) none).run Tryd.prog W = .ok (.slice a h c) W := by
  have k0 : (0 : Int) ≤ h := by omega
  have k1 : (h : Int) ≤ c := by omega
  simp [go_sem, k0, k1]
theorem part_sk {W : World} {mB mO N c i mm : Nat} {M : List Nat} (h : SK .u8 W (.slice (some ⟨mB, mO, none⟩) N c) M) (hN : M.length = N) (h1 : i + mm ≤ N) (hm : 0 < mm) : SK .u8 W (.slice (some ⟨mB, mO + i, none⟩) mm (c - i)) ((M.drop i).take mm) := by
  obtain ⟨mB', mO', c', e, hb, hc, hcell⟩ := h.words hN (by omega)
  simp only [Value.slice.injEq, Option.some.injEq, Addr.mk.injEq, and_true, true_and] at e
  obtain ⟨⟨rfl, rfl⟩, rfl⟩ := e
  have hl : ((M.drop i).take mm).length = mm := by rw [List.length_take, List.length_drop]; omega
  refine ⟨some ⟨mB, mO + i, none⟩, c - i, by rw [hl], by rw [hl]; omega, fun e => by simp at e, fun j hj => ⟨mB, mO + i, rfl, hb, ?_⟩⟩
  rw [hl] at hj
  rw [Nat.add_assoc, hcell (i + j) (by omega)]
  simp [List.getD_eq_getElem?_getD, List.getElem?_take, List.getElem?_drop, hj]
theorem chain_set (B L : List Nat) (hB : B.length = 64) (R : List Value) (i y : Nat) (hi : i < 64) (hy : B.getD i 0 ^^^ L.getD i 0 = y) : (bv8 (mixL (xorL B L) B i) ++ R).set i (.int .u8 (y : Int)) = bv8 (mixL (xorL B L) B (i + 1)) ++ R := by
  have hl : (mixL (xorL B L) B i).length = 64 := by rw [mixL_length _ _ _ (by rw [xorL_length]; omega) (by rw [xorL_length, hB]), xorL_length]
  rw [List.set_append_left _ _ (by rw [bv8_length, hl]; exact hi), ← mixL_set (xorL B L) B i (by rw [xorL_length]; exact hi) (by rw [xorL_length, hB]), xorL_get B L i hi, hy]
  simp [bv8, List.map_set]
theorem chain_get (B L : List Nat) (hB : B.length = 64) (R : List Value) (i : Nat) (hi : i < 64) : (bv8 (mixL (xorL B L) B i) ++ R)[i]? = some (.int .u8 (B.getD i 0 : Int)) := by
  have hl : (mixL (xorL B L) B i).length = 64 := by rw [mixL_length _ _ _ (by rw [xorL_length]; omega) (by rw [xorL_length, hB]), xorL_length]
  rw [List.getElem?_append_left (by rw [bv8_length, hl]; exact hi), bv8_get _ _ (by rw [hl]; exact hi), mixL_get _ _ _ (by rw [xorL_length]; exact hi) (by rw [xorL_length, hB])]
theorem chain_end (B L : List Nat) (hB : B.length = 64) : mixL (xorL B L) B 64 = xorL B L := by
  unfold mixL
  rw [List.take_of_length_le (by rw [xorL_length]; omega), List.drop_eq_nil_of_le (by omega), List.append_nil]
theorem chain_start (B L : List Nat) : mixL (xorL B L) B 0 = B := by simp [mixL]

set_option maxRecDepth 1000000 in
set_option maxHeartbeats 8000000 in
theorem chain_any (v1 v2 : Value) (l1 l2 : List Nat) (n : Nat) (hn : n < 65536) (w : World) (hg : Gl6 w) (h1 : SK .u8 w v1 l1) (h2 : SK .u8 w v2 l2) (hb1 : Bb l1) (hb2 : Bb l2) :
    Calls Tryd.prog 4 #[v1, v2, .int .u16 (n : Int)] w fun e w' => e = .returned (.bool true) ∧ Below w.heap.size w w' := by
  have kW : Hid (Calls Tryd.prog 5 #[] w fun e w' => e = .returned (.bool true) ∧ Below w.heap.size w w') := awake9 w hg
  obtain ⟨a1, c1, e1⟩ := h1.shape
  obtain ⟨a2, c2, e2⟩ := h2.shape
  subst e1 e2
  have H1 : Hid (SK .u8 w (.slice a1 l1.length c1) l1) := h1
  have H2 : Hid (SK .u8 w (.slice a2 l2.length c2) l2) := h2
  have HG : Hid (Gl6 w) := hg
  have HB1 : Hid (Bb l1) := hb1
  have HB2 : Hid (Bb l2) := hb2
  have hte : Hid (l2 ++ [l2.length] = tend l2) := rfl
  obtain ⟨n1, hn1⟩ : ∃ n, Hid (l1.length = n) := ⟨_, rfl⟩
  obtain ⟨n2, hn2⟩ : ∃ n, Hid (l2.length = n) := ⟨_, rfl⟩
  rw [hn1.out] at H1 ⊢
  rw [hn2.out] at H2 hte ⊢
  have hnI : (n : Int) < 65536 := by omega
  clear h1 h2 hg hb1 hb2
  go_enter Tryd.func4, Tryd.ntmps4
  go_wp2_with fail
  refine kW.out.mono ?_
  rintro e W1 ⟨rfl, hB1⟩
  have B1 : Hid (Below w.heap.size w W1) := hB1
  clear hB1 kW
  by_cases hlong1 : 1000 < n1
  · have hlong1' : (1000 : Int) < n1 := by omega
    go_wp2_with fail
    go_ret
    exact ⟨rfl, B1.out⟩
  by_cases hlong2 : 255 < n2
  · have hlong1' : ¬ (1000 : Int) < n1 := by omega
    have hlong2' : (255 : Int) < n2 := by omega
    go_wp2_with fail
    go_ret
    exact ⟨rfl, B1.out⟩
  by_cases hlong3 : 3000 < n
  · have hlong1' : ¬ (1000 : Int) < n1 := by omega
    have hlong2' : ¬ (255 : Int) < n2 := by omega
    have hlong3' : (3000 : Int) < n := by omega
    go_wp2_with fail
    go_ret
    exact ⟨rfl, B1.out⟩
  have hlong1' : ¬ (1000 : Int) < n1 := by omega
  have hlong2' : ¬ (255 : Int) < n2 := by omega
  have hlong3' : ¬ (3000 : Int) < n := by omega
  have hl13 : Hid (n1 ≤ 1000 ∧ n2 ≤ 255 ∧ n ≤ 3000) := by unfold Hid; omega
  have kX : Hid (Calls Tryd.prog 6 #[.slice a1 n1 c1, .slice a2 n2 c2, .int .i64 (n : Int)] W1 fun e w' => ∃ v, e = .returned (.tuple #[v, .int .i64 0]) ∧ Own8 W1.heap.size w' v (what l1 l2 n) ∧ Below W1.heap.size W1 w') :=
    expand_own l1 l2 HB1.out (by rw [hn1.out]; omega) HB2.out (by rw [hn2.out]; omega) n (by omega) _ _ W1 (HG.out.grown B1.out) (H1.out.below B1.out) (H2.out.below B1.out)
  have hwl : Hid ((what l1 l2 n).length = n) := what_length _ _ _
  have hwp : Hid (∀ K mm, 64 * K < n → mm = min 64 (n - 64 * K) → ((what l1 l2 n).drop (64 * K)).take mm = (blk (begin_ l1 n (tend l2)) (tend l2) (K + 1)).take mm) := fun K mm h1 h2 => what_part l1 l2 n K mm h1 h2
  have hbg : Hid ([] ++ List.replicate 128 0 ++ l1 ++ [n / 256, n % 256, 0] ++ tend l2 = List.replicate 128 0 ++ l1 ++ [n / 256, n % 256, 0] ++ tend l2) := by unfold Hid; rw [List.nil_append]
  have hbgd : Hid (begin_ l1 n (tend l2) = sumB (List.replicate 128 0 ++ l1 ++ [n / 256, n % 256, 0] ++ tend l2)) := rfl
  have hEb : Hid (Bb (tend l2)) := tend_bb l2 HB2.out (by rw [hn2.out]; omega)
  have hEl : Hid ((tend l2).length = n2 + 1) := by unfold Hid; rw [tend_length, hn2.out]
  obtain ⟨E, hEq⟩ : ∃ E, tend l2 = E := ⟨_, rfl⟩
  rw [hEq] at hte hwp hbg hbgd hEb hEl
  clear hlong1 hlong2 hlong3 hEq
  go_wp2_with fail
  refine kX.out.mono ?_
  rintro e W2 ⟨v2, rfl, ho2, g⟩
  have B2 : Hid (Below w.heap.size w W2) := B1.out.trans (g.mono B1.out.size)
  have S2 : Hid (SK .u8 W2 v2 (what l1 l2 n)) := ho2.sk
  obtain ⟨bA, bC, e2⟩ := ho2.sk.shape
  rw [hwl.out] at e2
  subst e2
  clear ho2 g kX B1
  obtain ⟨b2, hb2⟩ : ∃ b, Hid (W2.heap.size = b) := ⟨_, rfl⟩
  have OE : Hid (Own8 b2 (W2.alloc (.cells #[] 5)) (.slice (some ⟨W2.heap.size, 0, none⟩) 0 0) []) := by unfold Hid; rw [← hb2.out]; exact own_empty W2
  have gE : Hid (Below b2 W2 (W2.alloc (.cells #[] 5))) := by unfold Hid; rw [← hb2.out]; exact (Below.refl _ _).alloc (Nat.le_refl _) _
  have SE : Hid (SK .u8 (W2.alloc (.cells #[] 5)) (.slice a2 n2 c2) l2) := H2.out.below (B2.out.trans (gE.out.mono (by rw [← hb2.out]; exact B2.out.size)))
  have zE : Hid (b2 ≤ (W2.alloc (.cells #[] 5)).heap.size) := by unfold Hid; rw [← hb2.out]; simp
  have hl2' : Hid (l2.length ≤ 1000000) := by unfold Hid; rw [hn2.out]; omega
  have hw2 : IntKind.u8.wrap (n2 : Int) = (n2 : Int) := by rw [IntKind.wrap_u8]; omega
  go_upto_region 9 with fail
  go_upto_region 10 with (first
    | (at_builtin; refine wpList_app8S rfl _ _ rfl b2 (.slice (some ⟨W2.heap.size, 0, none⟩) 0 0) [] l2 (.slice a2 n2 c2) rfl OE.out rfl SE.out (by simp) hl2'.out zE.out ?_; intro x3 W3 hown3 hb3; have O3 : Hid (Own8 b2 W3 x3 l2) := (by unfold Hid; simpa using hown3); have F3 : Hid (Below b2 W2 W3) := gE.out.trans hb3; have Z3 : Hid (b2 ≤ W3.heap.size) := Nat.le_trans zE.out hb3.size; obtain ⟨xa3, xn3, xc3, hx3⟩ : ∃ a n c, x3 = .slice a n c := (by obtain ⟨a, c, e⟩ := O3.out.sk.shape; exact ⟨_, _, _, e⟩); subst hx3; clear hown3 hb3 OE)
    | (at_builtin; refine wpList_app8 rfl _ _ rfl b2 (.slice xa3 xn3 xc3) l2 n2 rfl O3.out rfl hl2'.out Z3.out ?_; intro x4 W4 hown4 hb4; obtain ⟨xa4, xc4, hx4⟩ : ∃ a c, x4 = .slice a (n2 + 1) c := (by obtain ⟨a, c, e⟩ := hown4.sk.shape; rw [hte.out, hEl.out] at e; exact ⟨_, _, e⟩); subst hx4))
  have SE4 : Hid (SK .u8 W4 (.slice xa4 (n2 + 1) xc4) E) := by rw [← hte.out]; exact hown4.sk
  have F4 : Hid (Below b2 W2 W4) := F3.out.trans hb4
  have B4 : Hid (Below w.heap.size w W4) := B2.out.trans (F4.out.mono (by rw [← hb2.out]; exact B2.out.size))
  have S4 : Hid (SK .u8 W4 (.slice bA n bC) (what l1 l2 n)) := S2.out.below (by rw [hb2.out]; exact F4.out)
  have M4 : Hid (SK .u8 W4 (.slice a1 n1 c1) l1) := H1.out.below B4.out
  clear hown4 hb4 O3 F3 Z3 F4 B2 S2 gE SE zE H1 H2
  have kN : Hid (Calls Tryd.prog 9 #[] W4 fun e w' => ∃ b, e = .returned (.pointer (some ⟨b, 0, none⟩)) ∧ W4.heap.size ≤ b ∧ HH w' b [] ∧ Below W4.heap.size W4 w') := new_any W4 (HG.out.grown B4.out)
  go_wp2_with fail
  refine kN.out.mono ?_
  rintro e W6 ⟨b1, rfl, hb1, hH6, g6⟩
  have H6 : Hid (HH W6 b1 []) := hH6
  have F6 : Hid (Below W4.heap.size W4 W6) := g6
  have hb14 : Hid (W4.heap.size ≤ b1) := hb1
  have hbc : Hid (1 < b1) := by have h1 := HG.out.lt; have h2 := B4.out.size; unfold Hid; omega
  have hmk : ∀ w : World, (Instr.makeSlice 22 (.int .i64 128) (.int .i64 128)).run Tryd.prog w = .ok (.slice (some ⟨w.heap.size, 0, none⟩) 128 128) (w.alloc (.cells (bv8 (List.replicate 128 0)).toArray 5)) := made_bytes 128 128 (by omega) (by omega)
  have hS0 : Hid (SK .u8 (W6.alloc (.cells (bv8 (List.replicate 128 0)).toArray 5)) (.slice (some ⟨W6.heap.size, 0, none⟩) 128 128) (List.replicate 128 0)) := sk_made W6 _ _ _ rfl (by simp)
  have hRb : Hid (Bb (List.replicate 128 0)) := rep_bb 128
  have hRl : Hid ((List.replicate 128 0).length = 128) := by unfold Hid; simp
  obtain ⟨Z, hZ⟩ : ∃ Z, Hid (bv8 (List.replicate 128 0) = Z) := ⟨_, rfl⟩
  rw [hZ.out] at hmk hS0
  obtain ⟨R0, hR⟩ : ∃ R, List.replicate 128 0 = R := ⟨_, rfl⟩
  rw [hR] at hS0 hRb hRl hbg hbgd
  have gZ : Hid (Below W6.heap.size W6 (W6.alloc (.cells Z.toArray 5))) := (Below.refl _ _).alloc (Nat.le_refl _) _
  have F6z : Hid (Below W4.heap.size W4 (W6.alloc (.cells Z.toArray 5))) := F6.out.trans (gZ.out.mono F6.out.size)
  have hb16 : Hid (b1 < W6.heap.size) := by obtain ⟨r, _, _, hA⟩ := hH6; exact hA.lt
  have kW1 : Hid (Calls Tryd.prog 10 #[.pointer (some ⟨b1, 0, none⟩), .slice (some ⟨W6.heap.size, 0, none⟩) 128 128] (W6.alloc (.cells Z.toArray 5)) fun e w' => e = .returned (.tuple #[]) ∧ HH w' b1 ([] ++ R0) ∧ Oth b1 (W6.alloc (.cells Z.toArray 5)) w') :=
    write_any [] R0 Bb.nil hRb.out (by rw [hRl.out]; simp) _ _ (HG.out.grown (B4.out.trans (F6z.out.mono B4.out.size))) b1 hbc.out (H6.out.under gZ.out hb16.out) hS0.out (by
      intro a n c e _ y hy
      cases e
      cases hy
      have := hb16.out
      show W6.heap.size ≠ b1
      omega)
  clear hH6 g6 hb1 kN hR
  go_wp2_with fail
  refine kW1.out.mono ?_
  rintro e W7 ⟨rfl, hH7, hO7⟩
  have H7 : Hid (HH W7 b1 ([] ++ R0)) := hH7
  have F7 : Hid (Below W4.heap.size W4 W7) := Oth.bel F6z.out hO7 hb14.out
  have kW2 : Hid (Calls Tryd.prog 10 #[.pointer (some ⟨b1, 0, none⟩), .slice a1 n1 c1] W7 fun e w' => e = .returned (.tuple #[]) ∧ HH w' b1 ([] ++ R0 ++ l1) ∧ Oth b1 W7 w') :=
    write_any ([] ++ R0) l1 (Bb.nil.app hRb.out) HB1.out (by rw [List.length_append, hRl.out, hn1.out]; simp; omega) _ W7 (HG.out.grown (B4.out.trans (F7.out.mono B4.out.size))) b1 hbc.out hH7 (M4.out.below F7.out) (M4.out.off hb14.out)
  clear hH7 hO7 kW1 F6z gZ hS0 H6 F6
  go_wp2_with fail
  refine kW2.out.mono ?_
  rintro e W8 ⟨rfl, hH8, hO8⟩
  have H8 : Hid (HH W8 b1 ([] ++ R0 ++ l1)) := hH8
  have F8 : Hid (Below W4.heap.size W4 W8) := Oth.bel F7.out hO8 hb14.out
  have hb18 : Hid (b1 < W8.heap.size) := by obtain ⟨r, _, _, hA⟩ := hH8; exact hA.lt
  have hq1 : IntKind.u8.wrap ((n : Int) / 256) = ((n / 256 : Nat) : Int) := by rw [IntKind.wrap_u8]; omega
  have hq2 : IntKind.u8.wrap (n : Int) = ((n % 256 : Nat) : Int) := by rw [IntKind.wrap_u8]; omega
  have hq1b : Hid (n / 256 < 256) := by unfold Hid; omega
  have hq2b : Hid (n % 256 < 256) := by unfold Hid; omega
  obtain ⟨q1, hqq1⟩ : ∃ q, n / 256 = q := ⟨_, rfl⟩
  obtain ⟨q2, hqq2⟩ : ∃ q, n % 256 = q := ⟨_, rfl⟩
  rw [hqq1] at hq1 hq1b hbg hbgd
  rw [hqq2] at hq2 hq2b hbg hbgd
  have hS3 : Hid (SK .u8 (W8.alloc (.cells #[.int .u8 (q1 : Int), .int .u8 (q2 : Int), .int .u8 0] 5)) (.slice (some ⟨W8.heap.size, 0, none⟩) 3 3) [q1, q2, 0]) := sk_made W8 [q1, q2, 0] _ 3 rfl rfl
  have g3 : Hid (Below W8.heap.size W8 (W8.alloc (.cells #[.int .u8 (q1 : Int), .int .u8 (q2 : Int), .int .u8 0] 5))) := (Below.refl _ _).alloc (Nat.le_refl _) _
  have F8t : Hid (Below W4.heap.size W4 (W8.alloc (.cells #[.int .u8 (q1 : Int), .int .u8 (q2 : Int), .int .u8 0] 5))) := F8.out.trans (g3.out.mono F8.out.size)
  have kW3 : Hid (Calls Tryd.prog 10 #[.pointer (some ⟨b1, 0, none⟩), .slice (some ⟨W8.heap.size, 0, none⟩) 3 3] (W8.alloc (.cells #[.int .u8 (q1 : Int), .int .u8 (q2 : Int), .int .u8 0] 5)) fun e w' => e = .returned (.tuple #[]) ∧ HH w' b1 ([] ++ R0 ++ l1 ++ [q1, q2, 0]) ∧ Oth b1 (W8.alloc (.cells #[.int .u8 (q1 : Int), .int .u8 (q2 : Int), .int .u8 0] 5)) w') :=
    write_any ([] ++ R0 ++ l1) [q1, q2, 0] ((Bb.nil.app hRb.out).app HB1.out) (three_bb _ _ _ hq1b.out hq2b.out (by omega)) (by rw [List.length_append, List.length_append, hRl.out, hn1.out]; simp; omega) _ _ (HG.out.grown (B4.out.trans (F8t.out.mono B4.out.size))) b1 hbc.out (H8.out.under g3.out hb18.out) hS3.out (by
      intro a n c e _ y hy
      cases e
      cases hy
      have := hb18.out
      show W8.heap.size ≠ b1
      omega)
  clear hH8 hO8 kW2 F7 H7 hqq1 hqq2
  go_wp2_with fail
  refine kW3.out.mono ?_
  rintro e W9 ⟨rfl, hH9, hO9⟩
  have F9 : Hid (Below W4.heap.size W4 W9) := Oth.bel F8t.out hO9 hb14.out
  have kW4 : Hid (Calls Tryd.prog 10 #[.pointer (some ⟨b1, 0, none⟩), .slice xa4 (n2 + 1) xc4] W9 fun e w' => e = .returned (.tuple #[]) ∧ HH w' b1 ([] ++ R0 ++ l1 ++ [q1, q2, 0] ++ E) ∧ Oth b1 W9 w') :=
    write_any ([] ++ R0 ++ l1 ++ [q1, q2, 0]) E (((Bb.nil.app hRb.out).app HB1.out).app (three_bb _ _ _ hq1b.out hq2b.out (by omega))) hEb.out (by rw [List.length_append, List.length_append, List.length_append, hRl.out, hn1.out, hEl.out]; simp; omega) _ W9 (HG.out.grown (B4.out.trans (F9.out.mono B4.out.size))) b1 hbc.out hH9 (SE4.out.below F9.out) (SE4.out.off hb14.out)
  clear hH9 hO9 kW3 F8t g3 hS3 H8 F8
  go_wp2_with fail
  refine kW4.out.mono ?_
  rintro e W10 ⟨rfl, hH10, hO10⟩
  have F10 : Hid (Below W4.heap.size W4 W10) := Oth.bel F9.out hO10 hb14.out
  have kSm : Hid (Calls Tryd.prog 11 #[.pointer (some ⟨b1, 0, none⟩)] W10 fun e w' => ∃ v', e = .returned v' ∧ Own8 W10.heap.size w' v' (begin_ l1 n E) ∧ Below W10.heap.size W10 w') := by
    rw [hbgd.out, ← hbg.out]
    exact hsum_own _ ((((Bb.nil.app hRb.out).app HB1.out).app (three_bb _ _ _ hq1b.out hq2b.out (by omega))).app hEb.out) (by rw [List.length_append, List.length_append, List.length_append, List.length_append, hRl.out, hn1.out, hEl.out]; simp; omega) W10 (HG.out.grown (B4.out.trans (F10.out.mono B4.out.size))) b1 hbc.out hH10
  clear hH10 hO10 kW4 F9
  go_wp2_with fail
  refine kSm.out.mono ?_
  rintro e W11 ⟨v11, rfl, ho11, g11⟩
  have F11 : Hid (Below W4.heap.size W4 W11) := F10.out.trans (g11.mono F10.out.size)
  have hBl : Hid ((begin_ l1 n E).length = 64) := begin_length _ _ _
  have hBb : Hid (Bb (begin_ l1 n E)) := sumB_bb _
  have SB : Hid (SK .u8 W11 v11 (begin_ l1 n E)) := ho11.sk
  obtain ⟨aB, cB, eB⟩ := ho11.sk.shape
  rw [hBl.out] at eB
  subst eB
  obtain ⟨B, hBq⟩ : ∃ B, begin_ l1 n E = B := ⟨_, rfl⟩
  rw [hBq] at hwp hBl hBb SB
  have B11 : Hid (Below w.heap.size w W11) := B4.out.trans (F11.out.mono B4.out.size)
  have SE11 : Hid (SK .u8 W11 (.slice xa4 (n2 + 1) xc4) E) := SE4.out.below F11.out
  have S11 : Hid (SK .u8 W11 (.slice bA n bC) (what l1 l2 n)) := S4.out.below F11.out
  have hmk2 : ∀ w : World, (Instr.makeSlice 22 (.int .i64 64) (.int .i64 64)).run Tryd.prog w = .ok (.slice (some ⟨w.heap.size, 0, none⟩) 64 64) (w.alloc (.cells (bv8 (List.replicate 64 0)).toArray 5)) := made_bytes 64 64 (by omega) (by omega)
  have LZ : Hid (SK .u8 (W11.alloc (.cells (bv8 (List.replicate 64 0)).toArray 5)) (.slice (some ⟨W11.heap.size, 0, none⟩) 64 64) (blk B E 0)) := sk_made W11 (blk B E 0) _ 64 rfl (blk_length B E 0)
  obtain ⟨Y, hY⟩ : ∃ Y, Hid (bv8 (List.replicate 64 0) = Y) := ⟨_, rfl⟩
  rw [hY.out] at hmk2 LZ
  obtain ⟨b11, hb11⟩ : ∃ b, Hid (W11.heap.size = b) := ⟨_, rfl⟩
  have gY : Hid (Below b11 W11 (W11.alloc (.cells Y.toArray 5))) := by unfold Hid; rw [← hb11.out]; exact (Below.refl _ _).alloc (Nat.le_refl _) _
  have hw11 : Hid (w.heap.size ≤ b11) := by unfold Hid; rw [← hb11.out]; exact B11.out.size
  clear ho11 g11 kSm F10 F11 B4 SE4 S4 M4 hBq hbg hbgd hmk
  go_wp2_with fail
  go_loopw [13, 14] (fun y u W => ∃ K : Nat, u = .int .i64 ((64 * K : Nat) : Int) ∧ (K = 0 ∨ 64 * (K - 1) < n) ∧ (∃ la lc, y = .slice la 64 lc) ∧ Hid (SK .u8 W y (blk B E K)) ∧ Hid (Below b11 W11 W)) (fun _ u _ => 4000 - (intOf u).toNat)
  case atStart => exact ⟨0, rfl, Or.inl rfl, ⟨_, _, rfl⟩, LZ.out, gY.out⟩
  case round =>
    obtain ⟨K, rfl, hK, ⟨la, lc, rfl⟩, LW, FW⟩ := hrel
    clear LZ gY hmk2
    obtain ⟨V, hV⟩ : ∃ V, V = wr := ⟨_, rfl⟩
    subst hV
    have hn3 := hl13.out.2.2
    obtain ⟨q, hq⟩ : ∃ q, Hid (64 * K = q) := ⟨_, rfl⟩
    have hK48 : K ≤ 48 := by omega
    have BW : Hid (Below w.heap.size w V) := B11.out.trans (FW.out.mono hw11.out)
    rw [hq.out]
    by_cases hlt : q < n
    · have hlt' : (q : Int) < n := by omega
      obtain ⟨b2', o2, c2', e2, l2', hc2, k2⟩ := LW.out.words (blk_length B E K) (by omega)
      simp only [Value.slice.injEq, true_and] at e2
      obtain ⟨rfl, rfl⟩ := e2
      have K2 : Hid (∀ j, j < 64 → V.cell? ⟨b2', o2 + j, none⟩ = some (.int .u8 ((blk B E K).getD j 0 : Int))) := k2
      obtain ⟨b5, hb5⟩ : ∃ b, Hid (V.heap.size = b) := ⟨_, rfl⟩
      have hl2 : Hid (b2' < b5) := by have h2 := hb5.out; unfold Hid; omega
      have HLb : Hid (Bb (blk B E K)) := blk_bb B E K
      have hnx : Hid (blk B E (K + 1) = sumB (xorL B (blk B E K) ++ [K + 1] ++ E)) := rfl
      have hnl : Hid ((blk B E (K + 1)).length = 64) := blk_length B E (K + 1)
      have hb115 : Hid (b11 ≤ b5) := by have h1 := FW.out.size; have h2 := hb11.out; have h3 := hb5.out; unfold Hid; omega
      have OE5 : Hid (Own8 b5 (V.alloc (.cells #[] 5)) (.slice (some ⟨V.heap.size, 0, none⟩) 0 0) []) := by unfold Hid; rw [← hb5.out]; exact own_empty V
      have gE5 : Hid (Below b5 V (V.alloc (.cells #[] 5))) := by unfold Hid; rw [← hb5.out]; exact (Below.refl _ _).alloc (Nat.le_refl _) _
      have SB5 : Hid (SK .u8 (V.alloc (.cells #[] 5)) (.slice aB 64 cB) B) := SB.out.below (by rw [hb11.out]; exact FW.out.trans (gE5.out.mono hb115.out))
      have zE5 : Hid (b5 ≤ (V.alloc (.cells #[] 5)).heap.size) := by unfold Hid; rw [← hb5.out]; simp
      have hBl1 : Hid (B.length ≤ 1000000) := by unfold Hid; rw [hBl.out]; omega
      clear k2 LW l2'
      go_upto_region 20 with fail
      go_upto_region 21 with (at_builtin; refine wpList_app8S rfl _ _ rfl b5 (.slice (some ⟨V.heap.size, 0, none⟩) 0 0) [] B (.slice aB 64 cB) rfl OE5.out rfl SB5.out (by simp) hBl1.out zE5.out ?_; intro x1 V1 hown1 hv1; obtain ⟨g, gc, R, hx1, hbg5, hRc, hcm, hAt⟩ := own_open (base := b5) (l := B) (by simpa using hown1) (by rw [hBl.out]; omega); rw [hBl.out] at hx1 hRc; subst hx1)
      have A1 : Hid (At 5 V1 g (bv8 (mixL (xorL B (blk B E K)) B 0) ++ R)) := by rw [chain_start]; exact hAt
      have F1 : Hid (Below b5 V V1) := gE5.out.trans hv1
      have hG5 : Hid (b5 ≤ g) := hbg5
      have hRc' : Hid (64 + R.length = gc ∧ gc ≤ maxLen) := ⟨hRc, hcm⟩
      have hgc : 64 ≤ gc := by omega
      obtain ⟨L, hL⟩ : ∃ L, blk B E K = L := ⟨_, rfl⟩
      rw [hL] at K2 HLb hnx A1
      clear hown1 hv1 hAt hbg5 hRc hcm OE5 gE5 SB5 zE5 hL
      go_wp2_with fail
      go_loopw [88] (fun y W => ∃ j : Nat, j ≤ 64 ∧ y = .int .i64 (j : Int) ∧ Hid (At 5 W g (bv8 (mixL (xorL B L) B j) ++ R)) ∧ Hid (Below b5 V W)) (fun y _ => 64 - (intOf y).toNat)
      case atStart => exact ⟨0, by omega, rfl, A1, F1⟩
      case round =>
        obtain ⟨j, hj, rfl, AJ, FJ⟩ := hrel
        clear A1 F1
        by_cases hlt2 : j < 64
        · have hlt2' : (j : Int) < 64 := by omega
          have q1' := hBb.out j
          have q2' := HLb.out j
          have d2 := (FJ.out.cell (p := ⟨b2', o2 + j, none⟩) hl2.out).trans (K2.out j hlt2)
          have c := AJ.out.cell j
          rw [chain_get B L hBl.out R j hlt2] at c
          have f := AJ.out.free j
          have hset := fun y => chain_set B L hBl.out R j y hlt2
          obtain ⟨z1, hz1⟩ : ∃ z, B.getD j 0 = z := ⟨_, rfl⟩
          obtain ⟨z2, hz2⟩ : ∃ z, L.getD j 0 = z := ⟨_, rfl⟩
          rw [hz1] at c q1' hset
          rw [hz2] at d2 q2' hset
          have hX := u8_xor_nat z1 z2 q1' q2'
          obtain ⟨y, hy⟩ : ∃ y, z1 ^^^ z2 = y := ⟨_, rfl⟩
          rw [hy] at hX hset
          have hs1 : Hid ((bv8 (mixL (xorL B L) B j) ++ R).set j (.int .u8 (y : Int)) = bv8 (mixL (xorL B L) B (j + 1)) ++ R) := hset y rfl
          have n1' : ¬ b2' = g := by have h1 := hl2.out; have h2 := hG5.out; omega
          clear hset hz1 hz2 hy q1' q2'
          go_wp2_with fail
          go_region
          all_goals
            go_wp2_with fail
            go_roundw
            case rel => exact ⟨j + 1, by omega, by go_num, by rw [← hs1.out]; exact AJ.out.drew.set j _, FJ.out.drew.setCell hG5.out _⟩
            case measure => simp [intOf]; omega
        · obtain rfl : j = 64 := by omega
          have OJ : Hid (Own8 b5 wr (.slice (some ⟨g, 0, none⟩) 64 gc) (xorL B L)) := by
            have h := AJ.out
            rw [chain_end B L hBl.out] at h
            have h2 := own_shut (base := b5) (c := gc) h hG5.out (by rw [xorL_length]; exact hRc'.out.1) hRc'.out.2
            rw [xorL_length] at h2
            exact h2
          have hXl : Hid ((xorL B L).length ≤ 1000000) := by unfold Hid; rw [xorL_length]; omega
          have zw : Hid (b5 ≤ wr.heap.size) := by have h1 := FJ.out.size; have h2 := hb5.out; unfold Hid; omega
          obtain ⟨d, hd⟩ : ∃ d, Hid (K + 1 = d) := ⟨_, rfl⟩
          have hnx2 : Hid (blk B E (K + 1) = sumB (xorL B L ++ [d] ++ E)) := by rw [← hd.out]; exact hnx.out
          have hq64 : (q : Int) / 64 = (K : Int) := by have := hq.out; omega
          have hwd : IntKind.u8.wrap ((K : Int) + 1) = (d : Int) := by have := hd.out; rw [IntKind.wrap_u8]; omega
          have hwK : IntKind.i64.wrap ((K : Int) + 1) = (K : Int) + 1 := wrapI _ (by omega) (by omega)
          have hp1' : Hid ((xorL B L ++ [d]).length ≤ 1000000) := by unfold Hid; rw [List.length_append, xorL_length]; simp
          have hEl1 : Hid (E.length ≤ 1000000) := by have := hl13.out.2.1; unfold Hid; rw [hEl.out]; omega
          clear AJ
          go_upto_region 26 with fail
          go_upto_region 27 with (first
            | (at_builtin; refine wpList_app8 rfl _ _ rfl b5 (.slice (some ⟨g, 0, none⟩) 64 gc) (xorL B L) d rfl OJ.out rfl hXl.out zw.out ?_; intro y1 Y1 hy1 hz1; have P1 : Hid (Own8 b5 Y1 y1 (xorL B L ++ [d])) := hy1; have G1 : Hid (Below b5 V Y1) := FJ.out.trans hz1; have zw1 : Hid (b5 ≤ Y1.heap.size) := Nat.le_trans zw.out hz1.size; have SE1 : Hid (SK .u8 Y1 (.slice xa4 (n2 + 1) xc4) E) := SE11.out.below (by rw [hb11.out]; exact FW.out.trans (G1.out.mono hb115.out)); obtain ⟨ya1, yn1, yc1, hye1⟩ : ∃ a n c, y1 = .slice a n c := (by obtain ⟨a, c, e⟩ := hy1.sk.shape; exact ⟨_, _, _, e⟩); subst hye1; clear hy1 hz1)
            | (at_builtin; refine wpList_app8S rfl _ _ rfl b5 (.slice ya1 yn1 yc1) (xorL B L ++ [d]) E (.slice xa4 (n2 + 1) xc4) rfl P1.out rfl SE1.out hp1'.out hEl1.out zw1.out ?_; intro y2 Y2 hy2 hz2; obtain ⟨ya2, yn2, yc2, hye2⟩ : ∃ a n c, y2 = .slice a n c := (by obtain ⟨a, c, e⟩ := hy2.sk.shape; exact ⟨_, _, _, e⟩); subst hye2))
          have G2 : Hid (Below b5 V Y2) := G1.out.trans hz2
          have BY2 : Hid (Below w.heap.size w Y2) := B11.out.trans ((FW.out.trans (G2.out.mono hb115.out)).mono hw11.out)
          have kS2 : Hid (Calls Tryd.prog 12 #[.slice ya2 yn2 yc2] Y2 fun e w' => ∃ v', e = .returned v' ∧ Own8 Y2.heap.size w' v' (blk B E (K + 1)) ∧ Below Y2.heap.size Y2 w') := by
            rw [hnx2.out]
            refine sum_own _ ?_ ?_ _ Y2 (HG.out.grown BY2.out) hy2.sk
            · exact Bb.app (Bb.app (xorL_bb _ _ hBb.out HLb.out) (one_bb d (by have := hd.out; omega))) hEb.out
            · have := hl13.out.2.1
              rw [List.length_append, List.length_append, xorL_length, hEl.out]; simp; omega
          clear hy2 hz2 P1 G1 SE1 OJ FJ zw zw1
          go_wp2_with fail
          refine kS2.out.mono ?_
          rintro e V6 ⟨v6, rfl, ho6, g6⟩
          have F6 : Hid (Below b5 V V6) := G2.out.trans (g6.mono (by have h1 := G2.out.size; have h2 := hb5.out; omega))
          obtain ⟨p3, c3, hv3, hp3, hp3'⟩ := ho6.lt (by rw [hnl.out]; omega)
          rw [hnl.out] at hv3
          subst hv3
          have L6 : Hid (SK .u8 V6 (.slice (some ⟨p3, 0, none⟩) 64 c3) (blk B E (K + 1))) := ho6.sk
          have hc3 := (ho6.sk.cap).1
          obtain ⟨bB, bO, bC', eb, lb, hbc', kb⟩ := S11.out.words hwl.out (by omega)
          simp only [Value.slice.injEq, true_and] at eb
          obtain ⟨rfl, rfl⟩ := eb
          have S6 : Hid (SK .u8 V6 (.slice (some ⟨bB, bO, none⟩) n bC) (what l1 l2 n)) := S11.out.below (by rw [hb11.out]; exact FW.out.trans (F6.out.mono hb115.out))
          have hqK := hq.out
          obtain ⟨mm, hmm⟩ : ∃ mm, Hid (mm = min 64 (n - 64 * K)) := ⟨_, rfl⟩
          have hm1 : 0 < mm ∧ mm ≤ 64 ∧ q + mm ≤ n := by have := hmm.out; omega
          obtain ⟨hm0, hm64, hmn⟩ := hm1
          have hpart := hwp.out K mm (by omega) hmm.out
          rw [hqK] at hpart
          have SP : Hid (SK .u8 V6 (.slice (some ⟨bB, bO + q, none⟩) mm (bC - q)) ((blk B E (K + 1)).take mm)) := by
            rw [← hpart]
            exact part_sk S6.out hwl.out hmn hm0
          have SL : Hid (SK .u8 V6 (.slice (some ⟨p3, 0, none⟩) mm c3) ((blk B E (K + 1)).take mm)) :=
            SK.take (a := some ⟨p3, 0, none⟩) (cap := c3) (cap' := c3) (n := mm) (l := blk B E (K + 1)) (by rw [hnl.out]; exact L6.out) (by rw [hnl.out]; exact hm64) (by omega) (fun e => by cases e)
          have kSame : Hid (∀ W, Below V6.heap.size V6 W → Calls Tryd.prog 7 #[.slice (some ⟨bB, bO + q, none⟩) mm (bC - q), .slice (some ⟨p3, 0, none⟩) mm c3] W fun e w' => e = .returned (.bool true) ∧ Below W.heap.size W w') := fun W h => same_sk _ (by rw [List.length_take, hnl.out]; omega) _ _ W (SP.out.below h) (SL.out.below h)
          have hs1 : IntKind.i64.wrap ((n : Int) - (q : Int)) = ((n - q : Nat) : Int) := by rw [IntKind.wrap_i64]; omega
          have hs2 : min 64 ((n - q : Nat) : Int) = (mm : Int) := by have := hmm.out; omega
          obtain ⟨rm, hrm⟩ : ∃ r, n - q = r := ⟨_, rfl⟩
          rw [hrm] at hs1 hs2
          have hs3 : IntKind.i64.wrap ((q : Int) + (mm : Int)) = (q : Int) + (mm : Int) := wrapI _ (by omega) (by omega)
          have hs4 : IntKind.i64.wrap ((q : Int) + 64) = (q : Int) + 64 := wrapI _ (by omega) (by omega)
          have hc1 : ∀ W, (Instr.sliceAt 22 (.slice (some ⟨bB, bO, none⟩) n bC) (some (.int .i64 (q : Int))) (some (.int .i64 ((q : Int) + (mm : Int)))) none).run Tryd.prog W = .ok (.slice (some ⟨bB, bO + q, none⟩) mm (bC - q)) W := mid_cut bB bO n bC q mm hmn hbc' hm0
          have hc2' : ∀ W, (Instr.sliceAt 22 (.slice (some ⟨p3, 0, none⟩) 64 c3) none (some (.int .i64 (mm : Int))) none).run Tryd.prog W = .ok (.slice (some ⟨p3, 0, none⟩) mm c3) W := first_part _ 64 c3 mm hm64 hc3
          clear ho6 g6 kS2 G2 BY2 kb lb S6 SP SL hpart hrm hqK hwd hwK hq64
          go_wp2_with fail
          refine wp_region_held_drew (S := fun w' => True) (by kernel_rfl) trivial (fun hHeld => ?_)
          refine h_take 0 (v := ?v0) rfl (by kernel_rfl) (by kernel_rfl) (by kernel_rfl) (fun _ _ _ h => h) (by rfl) ?hy0 (by assumption) ?_
          case hy0 =>
            intro w' hSw
            try dsimp only at hSw
            go_simp
            try with_reducible rfl
          try simp only [Act.put, List.setIfInBounds_toArray, List.set_cons_zero, List.set_cons_succ]
          refine h_take 1 (v := ?v1) rfl (by kernel_rfl) (by kernel_rfl) (by kernel_rfl) (fun _ _ _ h => h) (by rfl) ?hy1 (by assumption) ?_
          case hy1 =>
            intro w' hSw
            try dsimp only at hSw
            go_simp
            try with_reducible rfl
          try simp only [Act.put, List.setIfInBounds_toArray, List.set_cons_zero, List.set_cons_succ]
          refine h_take 2 (v := ?v2) rfl (by kernel_rfl) (by kernel_rfl) (by kernel_rfl) (fun _ _ _ h => h) (by rfl) ?hy2 (by assumption) ?_
          case hy2 =>
            intro w' hSw
            try dsimp only at hSw
            go_simp
            try with_reducible rfl
          try simp only [Act.put, List.setIfInBounds_toArray, List.set_cons_zero, List.set_cons_succ]
          refine h_take 3 (v := ?v3) rfl (by kernel_rfl) (by kernel_rfl) (by kernel_rfl) (fun _ _ _ h => h) (by rfl) ?hy3 (by assumption) ?_
          case hy3 =>
            intro w' hSw
            try dsimp only at hSw
            go_simp
            try with_reducible rfl
          try simp only [Act.put, List.setIfInBounds_toArray, List.set_cons_zero, List.set_cons_succ]
          refine h_take 4 (v := ?v4) rfl (by kernel_rfl) (by kernel_rfl) (by kernel_rfl) (fun _ _ _ h => h) (by rfl) ?hy4 (by assumption) ?_
          case hy4 =>
            intro w' hSw
            try dsimp only at hSw
            go_simp
            try with_reducible rfl
          try simp only [Act.put, List.setIfInBounds_toArray, List.set_cons_zero, List.set_cons_succ]
          refine h_take 5 (v := ?v5) rfl (by kernel_rfl) (by kernel_rfl) (by kernel_rfl) (fun _ _ _ h => h) (by rfl) ?hy5 (by assumption) ?_
          case hy5 =>
            intro w' hSw
            try dsimp only at hSw
            go_simp
            try with_reducible rfl
          try simp only [Act.put, List.setIfInBounds_toArray, List.set_cons_zero, List.set_cons_succ]
          refine h_take 6 (v := ?v6) rfl (by kernel_rfl) (by kernel_rfl) (by kernel_rfl) (fun _ _ _ h => h) (by rfl) ?hy6 (by assumption) ?_
          case hy6 =>
            intro w' hSw
            try dsimp only at hSw
            go_simp
            try with_reducible rfl
          try simp only [Act.put, List.setIfInBounds_toArray, List.set_cons_zero, List.set_cons_succ]
          refine h_take 7 (v := ?v7) rfl (by kernel_rfl) (by kernel_rfl) (by kernel_rfl) (fun _ _ _ h => h) (by rfl) ?hy7 (by assumption) ?_
          case hy7 =>
            intro w' hSw
            try dsimp only at hSw
            go_simp
            try with_reducible rfl
          try simp only [Act.put, List.setIfInBounds_toArray, List.set_cons_zero, List.set_cons_succ]
          refine h_take 8 (v := ?v8) rfl (by kernel_rfl) (by kernel_rfl) (by kernel_rfl) (fun _ _ _ h => h) (by rfl) ?hy8 (by assumption) ?_
          case hy8 =>
            intro w' hSw
            try dsimp only at hSw
            go_simp
            try with_reducible rfl
          try simp only [Act.put, List.setIfInBounds_toArray, List.set_cons_zero, List.set_cons_succ]
          refine h_call 9 rfl (by kernel_rfl) (by rfl) (fun Kk hK => ?_)
          go_simp
          refine (kSame.out _ (Below.refl _ _).drew).mono ?_
          rintro e V7 ⟨rfl, g7⟩
          have F7 : Hid (Below b5 V V7) := F6.out.drew.trans (g7.mono (show b5 ≤ V6.heap.size by have h1 := F6.out.size; have h2 := hb5.out; omega))
          have L7 : Hid (SK .u8 V7 (.slice (some ⟨p3, 0, none⟩) 64 c3) (blk B E (K + 1))) := L6.out.below ((Below.refl _ V6).drew.trans g7)
          clear g7 kSame
          clear hHeld
          refine hK.out _ _ trivial (fun hHeld => ?_)
          clear hK Kk
          try simp only [Act.put, List.setIfInBounds_toArray, List.set_cons_zero, List.set_cons_succ]
          refine h_take 10 (v := ?v10) rfl (by kernel_rfl) (by kernel_rfl) (by kernel_rfl) (fun _ _ _ h => h) (by rfl) ?hy10 (by assumption) ?_
          case hy10 =>
            intro w' hSw
            try dsimp only at hSw
            go_simp
            try with_reducible rfl
          try simp only [Act.put, List.setIfInBounds_toArray, List.set_cons_zero, List.set_cons_succ]
          refine wpAnyH_done (by kernel_rfl) ?_ _
          go_wp2_with fail
          have hq'' := hq.out
          have hd'' := hd.out
          go_roundw
          case rel => exact ⟨K + 1, by rw [show 64 * (K + 1) = q + 64 by omega]; go_num, Or.inr (by omega), ⟨_, _, rfl⟩, L7, FW.out.trans (F7.out.mono hb115.out)⟩
          case measure => simp [intOf]; omega
    · have hlt' : ¬ (q : Int) < n := by omega
      go_wp2_with fail
      go_ret
      exact ⟨rfl, BW.out⟩
end Go.Proofs.YtkkhpjcfojgggaaDoor.Br.Ex
