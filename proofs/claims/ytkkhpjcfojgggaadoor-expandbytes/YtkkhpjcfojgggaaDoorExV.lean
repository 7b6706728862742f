/-
  Layer 9 as plain functions of bytes: a tag's end, the begin, the blocks, what comes; bytes that a call owns; slices of slices that it has just made. Conditions: as each theorem says.
-/
import Derived.Test.YtkkhpjcfojgggaaDoorBrM
import Derived.Laws.BitsAllLaws
import Derived.Lib.LazyBuf
import Derived.Laws.MakeOwn
import Derived.Deep.RegionHeld3
namespace Go.Proofs.YtkkhpjcfojgggaaDoor.Br.Ex
open Go.RowKit
set_option linter.unusedVariables false
set_option linter.unusedSimpArgs false

/-- A tag's end. -/
def tend (t : List Nat) : List Nat := t ++ [t.length]
/-- The begin, of a message, a number of bytes, and a tag's end. -/
def begin_ (m : List Nat) (n : Nat) (E : List Nat) : List Nat := sumB (List.replicate 128 0 ++ m ++ [n / 256, n % 256, 0] ++ E)
/-- 64 bytes, each by exclusive or with another one. -/
def xorL (a b : List Nat) : List Nat := (List.range 64).map fun i => a.getD i 0 ^^^ b.getD i 0
/-- The i-th block; ahead of the first one noughts. -/
def blk (B E : List Nat) : Nat → List Nat
  | 0 => List.replicate 64 0
  | i + 1 => sumB (xorL B (blk B E i) ++ [i + 1] ++ E)
/-- The first k blocks. -/
def blks (B E : List Nat) : Nat → List Nat
  | 0 => []
  | k + 1 => blks B E k ++ blk B E (k + 1)
/-- How many blocks there are. -/
def howMany (n : Nat) : Nat := (n + 63) / 64
/-- What comes. -/
def what (m t : List Nat) (n : Nat) : List Nat := (blks (begin_ m n (tend t)) (tend t) (howMany n)).take n

theorem xorL_length (a b : List Nat) : (xorL a b).length = 64 := by simp [xorL]
theorem xorL_get (a b : List Nat) (j : Nat) (h : j < 64) : (xorL a b).getD j 0 = a.getD j 0 ^^^ b.getD j 0 := by
  simp [xorL, List.getD_eq_getElem?_getD, h]
theorem blk_length (B E : List Nat) : ∀ i, (blk B E i).length = 64
  | 0 => by simp [blk]
  | i + 1 => sumB_length _
theorem blks_length (B E : List Nat) : ∀ k, (blks B E k).length = 64 * k
  | 0 => rfl
  | k + 1 => by rw [blks, List.length_append, blks_length B E k, blk_length]; omega
theorem what_length (m t : List Nat) (n : Nat) : (what m t n).length = n := by
  rw [what, List.length_take, blks_length]; unfold howMany; omega
theorem begin_length (m : List Nat) (n : Nat) (E : List Nat) : (begin_ m n E).length = 64 := sumB_length _

theorem byL_bb (l : List Nat) : ∀ t, Bb (byL l t)
  | 0 => Bb.nil
  | t + 1 => (byL_bb l t).app (beB_bb _ _)
theorem sumB_bb (m : List Nat) : Bb (sumB m) := byL_bb _ 8
theorem rep_bb (n : Nat) : Bb (List.replicate n 0) := fun j => by
  rw [List.getD_eq_getElem?_getD, List.getElem?_replicate]; split <;> decide
theorem xor_lt (a b : Nat) (ha : a < 256) (hb : b < 256) : a ^^^ b < 256 := Nat.xor_lt_two_pow (n := 8) ha hb
theorem xorL_bb (a b : List Nat) (ha : Bb a) (hb : Bb b) : Bb (xorL a b) := fun j => by
  by_cases h : j < 64
  · rw [xorL_get a b j h]; exact xor_lt _ _ (ha j) (hb j)
  · rw [List.getD_eq_getElem?_getD, List.getElem?_eq_none (by rw [xorL_length]; omega)]; decide
theorem one_bb (d : Nat) (h : d < 256) : Bb [d] := fun j => by
  match j with
  | 0 => exact h
  | n + 1 => exact (by decide : (0 : Nat) < 256)
theorem three_bb (a b c : Nat) (ha : a < 256) (hb : b < 256) (hc : c < 256) : Bb [a, b, c] := fun j => by
  match j with
  | 0 => exact ha
  | 1 => exact hb
  | 2 => exact hc
  | n + 3 => exact (by decide : (0 : Nat) < 256)
theorem tend_bb (t : List Nat) (h : Bb t) (hl : t.length ≤ 255) : Bb (tend t) := h.app (one_bb _ (by omega))
theorem tend_length (t : List Nat) : (tend t).length = t.length + 1 := by simp [tend]
theorem blk_bb (B E : List Nat) : ∀ i, Bb (blk B E i)
  | 0 => rep_bb 64
  | i + 1 => sumB_bb _

/-- The blocks as far as k, cut at n, and what the next one adds. -/
theorem take_next (B E : List Nat) (n k : Nat) (hk : 64 * k ≤ n) : (blks B E (k + 1)).take n = blks B E k ++ (blk B E (k + 1)).take (min 64 (n - 64 * k)) := by
  rw [blks, List.take_append, blks_length, List.take_of_length_le (by rw [blks_length]; omega)]
  congr 1
  have := blk_length B E (k + 1)
  rcases Nat.le_total 64 (n - 64 * k) with h | h
  · rw [List.take_of_length_le (by omega), List.take_of_length_le (by omega)]
  · rw [Nat.min_eq_right h]
/-- What has come behind k blocks. -/
theorem take_low (B E : List Nat) (n k : Nat) (hk : 64 * k ≤ n) : (blks B E k).take n = blks B E k := List.take_of_length_le (by rw [blks_length]; omega)

theorem cat_len (ls : List (List Nat)) : ∀ j d, (cat ls j).length ≤ (cat ls (j + d)).length
  | j, 0 => Nat.le_refl _
  | j, d + 1 => Nat.le_trans (cat_len ls j d) (by show _ ≤ (cat ls (j + d) ++ _).length; simp)
theorem cat3 (a b c : List Nat) : cat [a, b, c] 3 = a ++ b ++ c := by simp [cat]
theorem cat4 (a b c d : List Nat) : cat [a, b, c, d] 4 = a ++ b ++ c ++ d := by simp [cat]

theorem ll_made (W : World) (vs : List Value) (ls : List (List Nat)) (cs : Array Value) (T : TypeId) (n : Nat) (hcs : cs = vs.toArray) (hv : vs.length = n) (hl : ls.length = n)
    (h : ∀ j, j < n → ∃ u, vs[j]? = some u ∧ SK .u8 W u (ls.getD j []) ∧ Bb (ls.getD j [])) : LL (W.alloc (.cells cs T)) (.slice (some ⟨W.heap.size, 0, none⟩) n n) ls := by
  subst hcs
  subst hl
  refine ⟨some ⟨W.heap.size, 0, none⟩, ls.length, rfl, Nat.le_refl _, fun j hj => ?_⟩
  obtain ⟨u, h1, h2, h3⟩ := h j hj
  refine ⟨W.heap.size, 0, u, rfl, by simp, ?_, h2.below ((Below.refl _ _).alloc (Nat.le_refl _) _), h3⟩
  rw [Nat.zero_add, (at_new T W vs).cell j, h1]
theorem LL.under {W W' : World} {v : Value} {ls : List (List Nat)} (h : LL W v ls) (hb : Below W.heap.size W W') : LL W' v ls := by
  obtain ⟨a, c, e, hc, k⟩ := h
  refine ⟨a, c, e, hc, fun j hj => ?_⟩
  obtain ⟨b, o, u, h1, h2, h3, h4, h5⟩ := k j hj
  exact ⟨b, o, u, h1, Nat.lt_of_lt_of_le h2 hb.size, (hb.cell (p := ⟨b, o + j, none⟩) h2).trans h3, h4.below hb, h5⟩

theorem own_empty (w : World) : Own8 w.heap.size (w.alloc (.cells #[] 5)) (.slice (some ⟨w.heap.size, 0, none⟩) 0 0) [] := by
  refine ⟨rfl, Or.inr ⟨w.heap.size, 0, #[], rfl, Nat.le_refl _, ?_, by simp, by unfold maxLen; omega, by simp, rfl⟩⟩
  show (w.heap.push _)[w.heap.size]? = _
  simp
/-- A block of bytes as the call's own slice, all of it or its begin. -/
theorem own_of_at {base g c n : Nat} {W : World} {m l : List Nat} (h : At 5 W g (bv8 m)) (hm : m.length = c) (hb : base ≤ g) (hn : n ≤ c) (hc : c ≤ maxLen) (hl : l = m.take n) : Own8 base W (.slice (some ⟨g, 0, none⟩) n c) l := by
  have e : l.length = n := by rw [hl, List.length_take]; omega
  refine ⟨by rw [bv8_length, e]; omega, Or.inr ⟨g, c, (bv8 m).toArray, by rw [e], hb, h, by omega, hc, by simp [bv8_length, hm], ?_⟩⟩
  rw [e, hl]
  simp [bv8]
theorem bytes_made (w : World) (n cap : Nat) (hn : n ≤ cap) (hc : cap ≤ 1000000) : Own8 w.heap.size (w.alloc (.cells (bv8 (List.replicate cap 0)).toArray 5)) (.slice (some ⟨w.heap.size, 0, none⟩) n cap) (List.replicate n 0) :=
  own_of_at (at_new 5 w (bv8 (List.replicate cap 0))) (by simp) (Nat.le_refl _) hn (by unfold maxLen; omega) (by simp [List.take_replicate]; omega)
theorem bv8_zeros (n : Nat) : (bv8 (List.replicate n 0)).toArray = Array.replicate n (.int .u8 0) := by simp [bv8]
/-- What is where the call's own slice lies, and what is there is so of every later world that keeps it. -/
theorem _root_.Go.Proofs.YtkkhpjcfojgggaaDoor.Own8.lt {base : Nat} {w : World} {v : Value} {l : List Nat} (h : Own8 base w v l) (hn : 0 < l.length) : ∃ g c, v = .slice (some ⟨g, 0, none⟩) l.length c ∧ base ≤ g ∧ g < w.heap.size := by
  obtain ⟨h1, h2⟩ := h
  rcases h2 with ⟨e, e0⟩ | ⟨g, cap, cur, e, hg, hh, hn', hm, hc, ht⟩
  · omega
  · refine ⟨g, cap, e, hg, ?_⟩
    rcases Nat.lt_or_ge g w.heap.size with h' | h'
    · exact h'
    · rw [Array.getElem?_eq_none h'] at hh; cases hh
end Go.Proofs.YtkkhpjcfojgggaaDoor.Br.Ex

/-
  The contracts of bytes.Clone and of expand's endOf, sum, mixed, beginOf. Conditions: as each theorem says.
-/
namespace Go.Proofs.YtkkhpjcfojgggaaDoor.Br.Ex
open Go.RowKit
set_option linter.unusedVariables false
set_option linter.unusedSimpArgs false

theorem eql_nil (a : Option Addr) (n c : Nat) (w : World) : (binOp .eql 22 (.slice a n c) (.slice none 0 0)).run Tryd.prog w = .ok (.bool a.isNone) w := by
  exact run_eql_slice_nil w _ _ a n c Tryd.underlying22
theorem clone_own (l : List Nat) (hl : l.length ≤ 1000000) (v : Value) (w : World) (hs : SK .u8 w v l) :
    Calls Tryd.prog 24 #[v] w fun e w' => ∃ v', e = .returned v' ∧ Own8 w.heap.size w' v' l ∧ Below w.heap.size w w' := by
  obtain ⟨a, c, e⟩ := hs.shape
  subst e
  obtain ⟨hc, hnc⟩ := hs.cap
  have HS : Hid (SK .u8 w (.slice a l.length c) l) := hs
  cases a with
  | none =>
    obtain rfl := hnc rfl
    have h0 : l.length = 0 := by omega
    obtain rfl : l = [] := List.eq_nil_of_length_eq_zero h0
    have hE : ∀ W : World, (binOp .eql 22 (.slice none 0 0) (.slice none 0 0)).run Tryd.prog W = .ok (.bool true) W := eql_nil none 0 0
    clear hs HS hc hnc
    go_enter Tryd.func24, Tryd.ntmps24
    go_wp2_with fail
    go_ret
    exact ⟨_, rfl, Own8.nil _ _, Below.refl _ _⟩
  | some p =>
    have O2 : Hid (Own8 w.heap.size (w.alloc (.cells #[] 5)) (.slice (some ⟨w.heap.size, 0, none⟩) 0 0) []) := own_empty w
    have g2 : Hid (Below w.heap.size w (w.alloc (.cells #[] 5))) := (Below.refl _ _).alloc (Nat.le_refl _) _
    have S2 : Hid (SK .u8 (w.alloc (.cells #[] 5)) (.slice (some p) l.length c) l) := hs.below g2.out
    have hll : Hid (l.length ≤ 1000000) := hl
    have Z2 : Hid (w.heap.size ≤ (w.alloc (.cells #[] 5)).heap.size) := g2.out.size
    obtain ⟨n, hn⟩ : ∃ n, Hid (l.length = n) := ⟨_, rfl⟩
    rw [hn.out] at S2 ⊢
    have hE : ∀ W : World, (binOp .eql 22 (.slice (some p) n c) (.slice none 0 0)).run Tryd.prog W = .ok (.bool false) W := eql_nil (some p) n c
    clear hs HS hc hnc hl
    go_enter Tryd.func24, Tryd.ntmps24
    go_wp2_with (at_builtin; refine wpList_app8S rfl _ _ rfl w.heap.size (.slice (some ⟨w.heap.size, 0, none⟩) 0 0) [] l (.slice (some p) n c) rfl O2.out rfl S2.out (by simp) hll.out Z2.out ?_; intro v3 W3 hown3 hb3)
    go_ret
    exact ⟨_, rfl, by simpa using hown3, g2.out.trans hb3⟩

theorem endOf_own (t : List Nat) (hl : t.length ≤ 255) (v : Value) (w : World) (hs : SK .u8 w v t) :
    Calls Tryd.prog 13 #[v] w fun e w' => ∃ v', e = .returned v' ∧ Own8 w.heap.size w' v' (tend t) ∧ Below w.heap.size w w' := by
  have kC : Hid (Calls Tryd.prog 24 #[v] w fun e w' => ∃ v', e = .returned v' ∧ Own8 w.heap.size w' v' t ∧ Below w.heap.size w w') := clone_own t (by omega) v w hs
  obtain ⟨a, c, e⟩ := hs.shape
  subst e
  have hte : Hid (tend t = t ++ [t.length]) := rfl
  rw [hte.out]
  have hll : Hid (t.length ≤ 1000000) := by unfold Hid; omega
  obtain ⟨n, hn⟩ : ∃ n, Hid (t.length = n) := ⟨_, rfl⟩
  rw [hn.out] at kC hl ⊢
  have hw : (n : Int) % 256 = n := by omega
  have hw2 : IntKind.u8.wrap (n : Int) = (n : Int) := by rw [IntKind.wrap_u8]; omega
  clear hs
  go_enter Tryd.func13, Tryd.ntmps13
  go_wp2_with fail
  refine kC.out.mono ?_
  rintro e w1 ⟨v1, rfl, ho, g⟩
  have O1 : Hid (Own8 w.heap.size w1 v1 t) := ho
  have B1 : Hid (Below w.heap.size w w1) := g
  have Z1 : Hid (w.heap.size ≤ w1.heap.size) := g.size
  obtain ⟨a1, c1, e1⟩ := ho.sk.shape
  rw [hn.out] at e1
  subst e1
  clear ho g kC
  go_wp2_with (at_builtin; refine wpList_app8 rfl _ _ rfl w.heap.size (.slice a1 n c1) t n rfl O1.out rfl hll.out Z1.out ?_; intro v2 W2 hown2 hb2)
  go_ret
  exact ⟨_, rfl, hown2, B1.out.trans hb2⟩

set_option maxHeartbeats 1000000 in
theorem sum_parts (v : Value) (ls : List (List Nat)) (hn : ls.length ≤ 1000000) (hl : (cat ls ls.length).length ≤ 99999000) (w : World) (hg : Gl6 w) (h : LL w v ls) :
    Calls Tryd.prog 25 #[v] w fun e w' => ∃ v', e = .returned v' ∧ Own8 w.heap.size w' v' (sumB (cat ls ls.length)) ∧ Below w.heap.size w w' := by
  have kN : Hid (Calls Tryd.prog 9 #[] w fun e w' => ∃ b, e = .returned (.pointer (some ⟨b, 0, none⟩)) ∧ w.heap.size ≤ b ∧ HH w' b [] ∧ Below w.heap.size w w') := new_any w hg
  obtain ⟨a2, c2, rfl, hc2, K2⟩ := h
  have HK : Hid (∀ j, j < ls.length → ∃ b o u, a2 = some ⟨b, o, none⟩ ∧ b < w.heap.size ∧ w.cell? ⟨b, o + j, none⟩ = some u ∧ SK .u8 w u (ls.getD j []) ∧ Bb (ls.getD j [])) := K2
  have HBB : Hid (∀ j, j ≤ ls.length → Bb (cat ls j)) := cat_bb ls (fun j hj => by obtain ⟨b, o, u, _, _, _, _, h⟩ := K2 j hj; exact h)
  have HLE : Hid (∀ j, j ≤ ls.length → (cat ls j).length ≤ 99999000) := fun j hj => by
    have := cat_len ls j (ls.length - j)
    rw [show j + (ls.length - j) = ls.length by omega] at this
    omega
  have HG : Hid (Gl6 w) := hg
  have hw1 : Hid (1 < w.heap.size) := hg.lt
  obtain ⟨N, hN⟩ : ∃ n, Hid (ls.length = n) := ⟨_, rfl⟩
  rw [hN.out] at hc2 hl hn HK HBB HLE ⊢
  clear hg K2
  go_enter Tryd.func25, Tryd.ntmps25
  go_wp2_with fail
  refine kN.out.mono ?_
  rintro e w1 ⟨b1, rfl, hb1, hH1, g1⟩
  have H1 : Hid (HH w1 b1 []) := hH1
  have B1 : Hid (Below w.heap.size w w1) := g1
  have hb1w : Hid (w.heap.size ≤ b1) := hb1
  clear hH1 g1 kN hb1
  go_wp2_with fail
  go_loopw [9] (fun y W => ∃ j : Nat, j ≤ N ∧ y = .int .i64 j ∧ HH W b1 (cat ls j) ∧ Below w.heap.size w W) (fun y _ => N - (intOf y).toNat)
  case atStart => exact ⟨0, by omega, rfl, H1.out, B1.out⟩
  case round =>
    clear H1 B1
    obtain ⟨j, hj, rfl, hH, hB⟩ := hrel
    have HW : Hid (HH wr b1 (cat ls j)) := hH
    have BW : Hid (Below w.heap.size w wr) := hB
    clear hH hB
    by_cases hlt : j < N
    · have hlt' : (j : Int) < N := by omega
      have hj6 : (j : Int) < 1000000 := by omega
      obtain ⟨b0, o0, u, rfl, hb0, hcell, hsu, hbu⟩ := HK.out j hlt
      have hcell' := (BW.out.cell (p := ⟨b0, o0 + j, none⟩) hb0).trans hcell
      have ecat : Hid (cat ls (j + 1) = cat ls j ++ ls.getD j []) := rfl
      have hL1 := HLE.out (j + 1) (by omega)
      obtain ⟨p, hp⟩ : ∃ p, Hid (ls.getD j [] = p) := ⟨_, rfl⟩
      rw [hp.out] at hsu hbu ecat
      rw [ecat.out, List.length_append] at hL1
      obtain ⟨ua, uc, hue⟩ := hsu.shape
      subst hue
      have kWr : Hid (Calls Tryd.prog 10 #[.pointer (some ⟨b1, 0, none⟩), .slice ua p.length uc] wr fun e w' => e = .returned (.tuple #[]) ∧ HH w' b1 (cat ls j ++ p) ∧ Oth b1 wr w') :=
        write_any (cat ls j) p (HBB.out j (by omega)) hbu (by omega) _ wr (HG.out.grown BW.out) b1 (by have := hw1.out; have := hb1w.out; omega) HW.out (hsu.below BW.out) (hsu.off hb1w.out)
      clear hcell hsu hbu hL1 HW
      go_wp2_with fail
      refine kWr.out.mono ?_
      rintro e V1 ⟨rfl, hH, hO⟩
      have BV1 : Hid (Below w.heap.size w V1) := Oth.bel BW.out hO hb1w.out
      have HV1 : Hid (HH V1 b1 (cat ls (j + 1))) := by rw [ecat.out]; exact hH
      clear hH hO kWr BW hcell'
      go_wp2_with fail
      go_roundw
      case rel => exact ⟨j + 1, by omega, by go_num, HV1.out, BV1.out⟩
      case measure => simp [intOf]; omega
    · obtain rfl : j = N := by omega
      have hL1 := HLE.out j (by omega)
      have hBc : Hid (Bb (cat ls j)) := HBB.out j (by omega)
      obtain ⟨M, hM⟩ : ∃ M, Hid (cat ls j = M) := ⟨_, rfl⟩
      rw [hM.out] at HW hBc hL1
      have kS : Hid (Calls Tryd.prog 11 #[.pointer (some ⟨b1, 0, none⟩)] wr fun e w' => ∃ v', e = .returned v' ∧ Own8 wr.heap.size w' v' (sumB M) ∧ Below wr.heap.size wr w') :=
        hsum_own M hBc.out (by omega) wr (HG.out.grown BW.out) b1 (by have := hw1.out; have := hb1w.out; omega) HW.out
      clear hL1
      go_wp2_with fail
      refine kS.out.mono ?_
      rintro e W5 ⟨v5, rfl, ho5, g5⟩
      have B5 : Hid (Below w.heap.size w W5) := BW.out.trans (g5.mono BW.out.size)
      have O5 : Hid (Own8 w.heap.size W5 v5 (sumB M)) := ho5.wider BW.out.size
      obtain ⟨a5, c5, e5⟩ := ho5.sk.shape
      subst e5
      clear ho5 g5 kS
      go_wp2_with fail
      go_ret
      exact ⟨_, rfl, by rw [hM.out]; exact O5.out, B5.out⟩
end Go.Proofs.YtkkhpjcfojgggaaDoor.Br.Ex

/-
  The contracts of expand's mixed and beginOf. Conditions: as each theorem says.
-/
namespace Go.Proofs.YtkkhpjcfojgggaaDoor.Br.Ex
open Go.RowKit
set_option linter.unusedVariables false
set_option linter.unusedSimpArgs false

theorem made_bytes (n cap : Nat) (hn : n ≤ cap) (hc : cap ≤ 1000000) (w : World) : (Instr.makeSlice 22 (.int .i64 (n : Int)) (.int .i64 (cap : Int))).run Tryd.prog w = .ok (.slice (some ⟨w.heap.size, 0, none⟩) n cap) (w.alloc (.cells (bv8 (List.replicate cap 0)).toArray 5)) := by
  obtain ⟨i0, hi, hz0, hz1, hz2⟩ := info_parts info_u8'
  have h := run_make (P := Tryd.prog) (w := w) 22 5 i0 (.int .u8 0) Tryd.underlying22 hi hz0 .i64 .i64 n cap (by omega) (by omega) (by rw [hz2]; omega) (by omega)
  rw [h, hz1, bv8_zeros]
  have e : madeCells (Value.int .u8 0).cells cap = Array.replicate cap (.int .u8 0) := by
    refine Array.ext (by simp [madeCells]) (fun j h1 h2 => ?_)
    simp [madeCells, Value.cells, Nat.mod_one]
  simp only [Int.toNat_natCast, Nat.mul_one, e]

theorem mix_set (a b : List Nat) (i y : Nat) (hi : i < 64) (hy : a.getD i 0 ^^^ b.getD i 0 = y) : (bv8 (mixL (xorL a b) (List.replicate 64 0) i)).set i (.int .u8 (y : Int)) = bv8 (mixL (xorL a b) (List.replicate 64 0) (i + 1)) := by
  rw [← mixL_set (xorL a b) (List.replicate 64 0) i (by rw [xorL_length]; omega) (by rw [xorL_length]; simp), xorL_get a b i hi, hy]
  simp [bv8, List.map_set]

theorem mix_end (a b : List Nat) : mixL (xorL a b) (List.replicate 64 0) 64 = xorL a b := by
  have e1 : (xorL a b).take 64 = xorL a b := List.take_of_length_le (by rw [xorL_length]; omega)
  have e2 : (List.replicate 64 0).drop 64 = ([] : List Nat) := by simp
  unfold mixL
  rw [e1, e2, List.append_nil]

set_option maxRecDepth 100000 in
set_option maxHeartbeats 2000000 in
theorem mixed_own (a b : List Nat) (ha : a.length = 64) (hb : b.length = 64) (hba : Bb a) (hbb : Bb b) (va vb : Value) (w : World) (h1 : SK .u8 w va a) (h2 : SK .u8 w vb b) :
    Calls Tryd.prog 27 #[va, vb] w fun e w' => ∃ v', e = .returned v' ∧ Own8 w.heap.size w' v' (xorL a b) ∧ Below w.heap.size w w' := by
  obtain ⟨b1, o1, c1, rfl, l1, hc1, k1⟩ := h1.words ha (by omega)
  obtain ⟨b2, o2, c2, rfl, l2, hc2, k2⟩ := h2.words hb (by omega)
  have K1 : Hid (∀ j, j < 64 → w.cell? ⟨b1, o1 + j, none⟩ = some (.int .u8 (a.getD j 0 : Int))) := k1
  have K2 : Hid (∀ j, j < 64 → w.cell? ⟨b2, o2 + j, none⟩ = some (.int .u8 (b.getD j 0 : Int))) := k2
  have HA1 : Hid (Bb a) := hba
  have HB1 : Hid (Bb b) := hbb
  have hmk : ∀ w : World, (Instr.makeSlice 22 (.int .i64 64) (.int .i64 64)).run Tryd.prog w = .ok (.slice (some ⟨w.heap.size, 0, none⟩) 64 64) (w.alloc (.cells (bv8 (List.replicate 64 0)).toArray 5)) := made_bytes 64 64 (by omega) (by omega)
  have HA : Hid (At 5 (w.alloc (.cells (bv8 (List.replicate 64 0)).toArray 5)) w.heap.size (bv8 (mixL (xorL a b) (List.replicate 64 0) 0))) := at_new _ _ _
  have HB : Hid (Below w.heap.size w (w.alloc (.cells (bv8 (List.replicate 64 0)).toArray 5))) := (Below.refl _ _).alloc (Nat.le_refl _) _
  obtain ⟨Z, hZ⟩ : ∃ Z, Hid (bv8 (List.replicate 64 0) = Z) := ⟨_, rfl⟩
  rw [hZ.out] at hmk HA HB
  clear h1 h2 k1 k2 hba hbb ha hb
  go_enter Tryd.func27, Tryd.ntmps27
  go_wp2_with fail
  go_loopw [10] (fun y W => ∃ i : Nat, i ≤ 64 ∧ y = .int .i64 i ∧ At 5 W w.heap.size (bv8 (mixL (xorL a b) (List.replicate 64 0) i)) ∧ Below w.heap.size w W) (fun y _ => 64 - (intOf y).toNat)
  case atStart => exact ⟨0, by omega, rfl, HA.out, HB.out⟩
  case round =>
    clear HA HB
    obtain ⟨i, hi, rfl, hA, hB⟩ := hrel
    have AW : Hid (At 5 wr w.heap.size (bv8 (mixL (xorL a b) (List.replicate 64 0) i))) := hA
    have BW : Hid (Below w.heap.size w wr) := hB
    by_cases hlt : i < 64
    · have hlt' : (i : Int) < 64 := by omega
      have d1 := (hB.cell (p := ⟨b1, o1 + i, none⟩) l1).trans (K1.out i hlt)
      have d2 := (hB.cell (p := ⟨b2, o2 + i, none⟩) l2).trans (K2.out i hlt)
      have q1 := HA1.out i
      have q2 := HB1.out i
      have c := hA.cell i
      have f := hA.free i
      rw [bv8_get _ _ (by rw [mixL_length _ _ _ (by rw [xorL_length]; omega) (by rw [xorL_length]; simp), xorL_length]; omega)] at c
      have hset := fun y => mix_set a b i y hlt
      obtain ⟨z1, hz1⟩ : ∃ z, a.getD i 0 = z := ⟨_, rfl⟩
      obtain ⟨z2, hz2⟩ : ∃ z, b.getD i 0 = z := ⟨_, rfl⟩
      rw [hz1] at d1 q1 hset
      rw [hz2] at d2 q2 hset
      have hX := u8_xor_nat z1 z2 q1 q2
      obtain ⟨y, hy⟩ : ∃ y, z1 ^^^ z2 = y := ⟨_, rfl⟩
      rw [hy] at hX hset
      have hs1 : Hid ((bv8 (mixL (xorL a b) (List.replicate 64 0) i)).set i (.int .u8 (y : Int)) = bv8 (mixL (xorL a b) (List.replicate 64 0) (i + 1))) := hset y rfl
      have n1 : ¬ b1 = w.heap.size := by omega
      have n2 : ¬ b2 = w.heap.size := by omega
      clear hA hB hset hz1 hz2 hy q1 q2
      go_wp2_with fail
      go_region
      all_goals
        go_wp2_with fail
        go_roundw
        case rel => exact ⟨i + 1, by omega, by go_num, by rw [← hs1.out]; exact AW.out.drew.set i _, BW.out.drew.setCell (Nat.le_refl _) _⟩
        case measure => simp [intOf]; omega
    · obtain rfl : i = 64 := by omega
      have hO : Hid (Own8 w.heap.size wr (.slice (some ⟨w.heap.size, 0, none⟩) 64 64) (xorL a b)) := by
        refine own_of_at hA ?_ (Nat.le_refl _) (Nat.le_refl _) (by unfold maxLen; omega) ?_
        · rw [mixL_length _ _ _ (by rw [xorL_length]; omega) (by rw [xorL_length]; simp), xorL_length]
        · rw [mix_end, List.take_of_length_le (by rw [xorL_length]; omega)]
      clear hA hB
      go_wp2_with fail
      go_ret
      exact ⟨_, rfl, hO.out, BW.out⟩

theorem sk_made (W : World) (l : List Nat) (cs : Array Value) (n : Nat) (hcs : cs = (bv8 l).toArray) (hn : l.length = n) : SK .u8 (W.alloc (.cells cs 5)) (.slice (some ⟨W.heap.size, 0, none⟩) n n) l := by
  subst hcs
  subst hn
  refine ⟨some ⟨W.heap.size, 0, none⟩, l.length, rfl, Nat.le_refl _, fun e => by simp at e, fun j hj => ⟨W.heap.size, 0, rfl, by simp, ?_⟩⟩
  rw [Nat.zero_add, (at_new 5 W (bv8 l)).cell j, bv8_get l j hj]

set_option maxRecDepth 100000 in
set_option maxHeartbeats 2000000 in
theorem beginOf_own (m : List Nat) (hm : Bb m) (hml : m.length ≤ 10000000) (n : Nat) (hn : n ≤ 65535) (E : List Nat) (hE : Bb E) (hEl : E.length ≤ 1000) (v1 v3 : Value) (w : World) (hg : Gl6 w) (h1 : SK .u8 w v1 m) (h3 : SK .u8 w v3 E) :
    Calls Tryd.prog 14 #[v1, .int .i64 (n : Int), v3] w fun e w' => ∃ v', e = .returned v' ∧ Own8 w.heap.size w' v' (begin_ m n E) ∧ Below w.heap.size w w' := by
  have hmk : ∀ w : World, (Instr.makeSlice 22 (.int .i64 128) (.int .i64 128)).run Tryd.prog w = .ok (.slice (some ⟨w.heap.size, 0, none⟩) 128 128) (w.alloc (.cells (bv8 (List.replicate 128 0)).toArray 5)) := made_bytes 128 128 (by omega) (by omega)
  have hs0 : SK .u8 (w.alloc (.cells (bv8 (List.replicate 128 0)).toArray 5)) (.slice (some ⟨w.heap.size, 0, none⟩) 128 128) (List.replicate 128 0) := sk_made w _ _ _ rfl (by simp)
  obtain ⟨Z, hZ⟩ : ∃ Z, Hid (bv8 (List.replicate 128 0) = Z) := ⟨_, rfl⟩
  rw [hZ.out] at hmk hs0
  have g0 : Below w.heap.size w (w.alloc (.cells Z.toArray 5)) := (Below.refl _ _).alloc (Nat.le_refl _) _
  have g1 : Below (w.alloc (.cells Z.toArray 5)).heap.size (w.alloc (.cells Z.toArray 5)) ((w.alloc (.cells Z.toArray 5)).alloc (.cells #[.int .u8 ((n / 256 : Nat) : Int), .int .u8 ((n % 256 : Nat) : Int), .int .u8 0] 5)) := (Below.refl _ _).alloc (Nat.le_refl _) _
  have hs2 : SK .u8 ((w.alloc (.cells Z.toArray 5)).alloc (.cells #[.int .u8 ((n / 256 : Nat) : Int), .int .u8 ((n % 256 : Nat) : Int), .int .u8 0] 5)) (.slice (some ⟨w.heap.size + 1, 0, none⟩) 3 3) [n / 256, n % 256, 0] := by
    have := sk_made (w.alloc (.cells Z.toArray 5)) [n / 256, n % 256, 0] #[.int .u8 ((n / 256 : Nat) : Int), .int .u8 ((n % 256 : Nat) : Int), .int .u8 0] 3 rfl rfl
    simpa using this
  have kS : Hid (Calls Tryd.prog 25 #[.slice (some ⟨w.heap.size + 1 + 1, 0, none⟩) 4 4] (((w.alloc (.cells Z.toArray 5)).alloc (.cells #[.int .u8 ((n / 256 : Nat) : Int), .int .u8 ((n % 256 : Nat) : Int), .int .u8 0] 5)).alloc (.cells #[.slice (some ⟨w.heap.size, 0, none⟩) 128 128, v1, .slice (some ⟨w.heap.size + 1, 0, none⟩) 3 3, v3] 22)) fun e w' => ∃ v', e = .returned v' ∧ Own8 w.heap.size w' v' (begin_ m n E) ∧ Below w.heap.size w w') := by
    have g2 := g0.trans (g1.mono (by simp))
    have g3 := g2.alloc (by simp; omega) (.cells #[.slice (some ⟨w.heap.size, 0, none⟩) 128 128, v1, .slice (some ⟨w.heap.size + 1, 0, none⟩) 3 3, v3] 22)
    have hL := ll_made _ [.slice (some ⟨w.heap.size, 0, none⟩) 128 128, v1, .slice (some ⟨w.heap.size + 1, 0, none⟩) 3 3, v3] [List.replicate 128 0, m, [n / 256, n % 256, 0], E] _ 22 4 rfl rfl rfl (fun j hj => by
      match j, hj with
      | 0, _ => exact ⟨_, rfl, hs0.below g1, rep_bb 128⟩
      | 1, _ => exact ⟨_, rfl, h1.below g2, hm⟩
      | 2, _ => exact ⟨_, rfl, hs2, three_bb _ _ _ (by omega) (by omega) (by omega)⟩
      | 3, _ => exact ⟨_, rfl, h3.below g2, hE⟩)
    have e : cat [List.replicate 128 0, m, [n / 256, n % 256, 0], E] [List.replicate 128 0, m, [n / 256, n % 256, 0], E].length = List.replicate 128 0 ++ m ++ [n / 256, n % 256, 0] ++ E := cat4 _ _ _ _
    have h := sum_parts _ _ (by simp) (by rw [e]; simp; omega) _ (hg.grown g3) hL
    rw [e] at h
    have es : ((w.alloc (.cells Z.toArray 5)).alloc (.cells #[.int .u8 ((n / 256 : Nat) : Int), .int .u8 ((n % 256 : Nat) : Int), .int .u8 0] 5)).heap.size = w.heap.size + 1 + 1 := by simp
    rw [es] at h
    exact h.mono fun e w' ⟨v, q1, q2, q3⟩ => ⟨v, q1, q2.wider g3.size, g3.trans (q3.mono g3.size)⟩
  have hw1 : IntKind.u8.wrap ((n : Int) / 256) = ((n / 256 : Nat) : Int) := by rw [IntKind.wrap_u8]; omega
  have hw2 : IntKind.u8.wrap (n : Int) = ((n % 256 : Nat) : Int) := by rw [IntKind.wrap_u8]; omega
  obtain ⟨q1, hq1⟩ : ∃ q, n / 256 = q := ⟨_, rfl⟩
  obtain ⟨q2, hq2⟩ : ∃ q, n % 256 = q := ⟨_, rfl⟩
  rw [hq1] at hw1 kS
  rw [hq2] at hw2 kS
  obtain ⟨a1, c1, e1⟩ := h1.shape
  obtain ⟨a3, c3, e3⟩ := h3.shape
  subst e1 e3
  clear hs0 hs2 g0 g1 h1 h3 hg hm hE hq1 hq2
  go_enter Tryd.func14, Tryd.ntmps14
  go_wp2_with fail
  refine kS.out.mono ?_
  rintro e w1 ⟨v1, rfl, ho, g⟩
  have O1 : Hid (Own8 w.heap.size w1 v1 (begin_ m n E)) := ho
  have B1 : Hid (Below w.heap.size w w1) := g
  obtain ⟨ra, rc, re⟩ := ho.sk.shape
  subst re
  clear ho g kS
  go_wp2_with fail
  go_ret
  exact ⟨_, rfl, O1.out, B1.out⟩
end Go.Proofs.YtkkhpjcfojgggaaDoor.Br.Ex
