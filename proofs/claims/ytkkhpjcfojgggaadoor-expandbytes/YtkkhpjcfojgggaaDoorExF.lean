/-
  The contract of the document's own Expand of layer 9. Conditions: as the theorem says.
-/
import Derived.Test.YtkkhpjcfojgggaaDoorExV
import Derived.Test.YtkkhpjcfojgggaaDoorLate
import Derived.Test.YtkkhpjcfojgggaaDoorBnC
namespace Go.Proofs.YtkkhpjcfojgggaaDoor.Br.Ex
open Go.RowKit
set_option linter.unusedVariables false
set_option linter.unusedSimpArgs false

/-- 'append(own, bytes...)' as one operation of a region. -/
theorem wp_more {o : Oper} {a : Act} {K : Act → World → Prop} {Q : Exit → Act → World → Prop} {wr : World} (s x : Operand)
    (ho : o.op = .call { callee := .builtin .append, args := #[s, x], argTypes := #[22, 22] })
    (base : Nat) (v : Value) (l m : List Nat) (q n c : Nat) (hs : a.eval s = v) (hown : Own8 base wr v l)
    (hx : a.eval x = .slice (some ⟨q, 0, none⟩) n c) (hm : m.length = n) (hS : SK .u8 wr (.slice (some ⟨q, 0, none⟩) n c) m) (hlen : l.length ≤ 1000000) (hlen2 : m.length ≤ 1000000) (hbase : base ≤ wr.heap.size)
    (h : ∀ v' w', Own8 base w' v' (l ++ m) → Below base wr w' → K (a.put o.dst v') w') : Oper.wp Tryd.prog o a wr K Q := by
  obtain ⟨i0, hi, hz0, hz1, hz2⟩ := info_parts info_u8'
  subst hm
  refine wp_append_own wr s x 22 ho base 5 i0 (.int .u8 0) 1 1 Tryd.underlying22 hi hz0 hz1 hz2 rfl (by decide) v _ _ hs hown ⟨q, 0, none⟩ m.length c (bv8 m) hx (by simp [bv8]) ?_ ?_ ?_ ?_ ?_ ?_
  · intro j u hj
    have hjl : j < m.length := by
      have := (List.getElem?_eq_some_iff.1 hj).1
      rwa [bv8_length] at this
    rw [bv8_get m j hjl] at hj
    rw [← hj]
    obtain ⟨p, c', e, _, _, hcell⟩ := hS
    simp only [Value.slice.injEq, true_and] at e
    obtain ⟨b, off, e2, _, e3⟩ := hcell j hjl
    rw [e2] at e
    simp only [Option.some.injEq, Addr.mk.injEq, and_true] at e
    obtain ⟨⟨rfl, rfl⟩, rfl⟩ := e
    rw [Addr.add_mid]; exact e3
  · intro u hu; exact bv8_one hu
  · unfold maxLen; omega
  · omega
  · exact hbase
  · intro v' w' h1 h2 _
    refine h v' w' ?_ ?_
    · unfold Own8
      have e : bv8 (l ++ m) = bv8 l ++ bv8 m := by simp [bv8]
      rw [e]
      simpa using h1
    · refine Below.grown (Below.refl _ _) h2 hbase ?_
      intro k hk
      rcases hown.2 with ⟨e, _⟩ | ⟨g, cap, cur, e, hg, _⟩
      · rw [e] at hk; simp [Value.ownBlock] at hk
      · rw [e] at hk; simp [Value.ownBlock] at hk; omega
theorem own_block {base g : Nat} {w : World} {v : Value} {l : List Nat} (h : Own8 base w v l) (he : v.ownBlock = some g) : base ≤ g ∧ g < w.heap.size := by
  rcases h.2 with ⟨e, e0⟩ | ⟨g', cap, cur, e, hg, hh, _⟩
  · rw [e] at he; cases he
  · rw [e] at he
    simp only [Value.ownBlock, Option.some.injEq] at he
    subst he
    refine ⟨hg, ?_⟩
    rcases Nat.lt_or_ge g' w.heap.size with h' | h'
    · exact h'
    · rw [Array.getElem?_eq_none h'] at hh; cases hh
/-- 'append(own, bytes...)'; another one's own slice that lies beyond it is as it was. -/
theorem wpList_app8K {ops : Array Oper} {rest : List Oper} {o : Oper} {a : Act} {Q : Exit → Act → World → Prop} {wr : World} (hgd : o.guard = none) (s x : Operand)
    (ho : o.op = .call { callee := .builtin .append, args := #[s, x], argTypes := #[22, 22] })
    (base b3 : Nat) (v : Value) (l m : List Nat) (n c : Nat) (p : Addr) (hs : a.eval s = v) (hown : Own8 base wr v l)
    (hx : a.eval x = .slice (some p) n c) (hm : m.length = n) (hO : Own8 b3 wr (.slice (some p) n c) m) (hv : ∀ g, v.ownBlock = some g → g < b3) (hlen : l.length ≤ 1000000) (hlen2 : m.length ≤ 1000000) (hbase : base ≤ wr.heap.size)
    (h : ∀ v' w', Own8 base w' v' (l ++ m) → Below base wr w' → Own8 b3 w' (.slice (some p) n c) m → wpList Tryd.prog ops Q rest (a.put o.dst v') w') :
    wpList Tryd.prog ops Q (o :: rest) a wr := by
  obtain ⟨i0, hi, hz0, hz1, hz2⟩ := info_parts info_u8'
  subst hm
  have hS := hO.sk
  obtain ⟨p', cap', e', _, _, hc⟩ := hS
  simp only [Value.slice.injEq, true_and] at e'
  obtain ⟨rfl, rfl⟩ := e'
  refine wpList_append_own _ hgd s x 22 ho base 5 i0 (.int .u8 0) 1 1 Tryd.underlying22 hi hz0 hz1 hz2 rfl (by decide) v _ _ hs hown p m.length c (bv8 m) hx (by simp [bv8]) ?_ ?_ ?_ ?_ ?_ ?_
  · intro j u hj
    have hjl : j < m.length := by
      have := (List.getElem?_eq_some_iff.1 hj).1
      rwa [bv8_length] at this
    rw [bv8_get m j hjl] at hj
    rw [← hj]
    obtain ⟨b, off, e, -, e3⟩ := hc j hjl
    obtain rfl : p = ⟨b, off, none⟩ := by simpa using e
    rw [Addr.add_mid]; exact e3
  · intro u hu; exact bv8_one hu
  · unfold maxLen; omega
  · omega
  · exact hbase
  · intro v' w' h1 h2 _
    refine h v' w' ?_ ?_ ?_
    · unfold Own8
      have e : bv8 (l ++ m) = bv8 l ++ bv8 m := by simp [bv8]
      rw [e]
      simpa using h1
    · refine Below.grown (Below.refl _ _) h2 hbase ?_
      intro k hk
      exact (own_block hown hk).1
    · obtain ⟨q1, q2⟩ := hO
      refine ⟨q1, ?_⟩
      rcases q2 with ⟨e, e0⟩ | ⟨g, cap, cur, e, hg, hh, hn', hm', hc', ht⟩
      · cases e
      · refine Or.inr ⟨g, cap, cur, e, hg, ?_, hn', hm', hc', ht⟩
        have hlt : g < wr.heap.size := (Array.getElem?_eq_some_iff.1 hh).1
        rw [h2.block g hlt (fun e => by have := hv g e.symm; omega)]
        exact hh
theorem cut_first (a : Option Addr) (n c h : Nat) (h1 : h ≤ n) (h2 : n ≤ c) (W : World) : (Instr.sliceAt 22 (.slice a n c) none (some (.int .i64 (h : Int))) none).run Tryd.prog W = .ok (.slice a h c) W := by
  have k0 : (0 : Int) ≤ h := by omega
  have k1 : (h : Int) ≤ c := by omega
  simp [go_sem, k0, k1]
theorem xor_more (a b : List Nat) (j : Nat) (h : j < 64) : (xorL a b).take (j + 1) = (xorL a b).take j ++ [a.getD j 0 ^^^ b.getD j 0] := by
  rw [take_more _ _ (by rw [xorL_length]; exact h), xorL_get a b j h]
theorem beB_two (n : Nat) (h : n < 65536) : beB n 2 = [n / 256, n % 256] := by
  refine list_of_getD _ _ (by rw [beB_length]; rfl) (fun j hj => ?_)
  rw [beB_length] at hj
  rw [beB_get _ _ _ hj]
  match j, hj with
  | 0, _ => show n / 2 ^ 8 % 256 = n / 256; omega
  | 1, _ => show n / 2 ^ 0 % 256 = n % 256; simp

set_option maxRecDepth 100000 in
set_option maxHeartbeats 8000000 in
theorem ref_any (m t : List Nat) (hm : Bb m) (hml : m.length ≤ 1000) (ht : Bb t) (htl : t.length ≤ 255) (n : Nat) (hn : n ≤ 2000) (v1 v2 : Value) (w : World) (h1 : SK .u8 w v1 m) (h2 : SK .u8 w v2 t) :
    Calls Tryd.prog 8 #[v1, v2, .int .i64 (n : Int)] w fun e w' => ∃ v, e = .returned v ∧ SK .u8 w' v (what m t n) ∧ Below w.heap.size w w' := by
  obtain ⟨a1, c1, e1⟩ := h1.shape
  obtain ⟨a2, c2, e2⟩ := h2.shape
  subst e1 e2
  have HM : Hid (SK .u8 w (.slice a1 m.length c1) m) := h1
  have HT : Hid (SK .u8 w (.slice a2 t.length c2) t) := h2
  have hEb : Hid (Bb (tend t)) := tend_bb t ht htl
  have hwt : Hid (what m t n = (blks (begin_ m n (tend t)) (tend t) (howMany n)).take n) := rfl
  have hte : Hid (t ++ [t.length] = tend t) := rfl
  have hbg : Hid (sumB (List.replicate 128 0 ++ m ++ [n / 256, n % 256] ++ [0] ++ tend t) = begin_ m n (tend t)) := by
    unfold Hid begin_
    simp only [List.append_assoc, List.cons_append, List.nil_append, List.singleton_append]
  have hEl : Hid ((tend t).length = t.length + 1) := tend_length t
  obtain ⟨E, hEq⟩ : ∃ E, tend t = E := ⟨_, rfl⟩
  rw [hEq] at hEb hwt hte hbg hEl
  have HMb : Hid (Bb m) := hm
  have hml1 : Hid (m.length ≤ 1000000) := by unfold Hid; omega
  have htl1 : Hid (t.length ≤ 1000000) := by unfold Hid; omega
  obtain ⟨lm, hlm⟩ : ∃ n, Hid (m.length = n) := ⟨_, rfl⟩
  obtain ⟨lt, hlt⟩ : ∃ n, Hid (t.length = n) := ⟨_, rfl⟩
  rw [hlm.out] at HM hml ⊢
  rw [hlt.out] at HT hte htl hEl ⊢
  have hw2 : IntKind.u8.wrap (lt : Int) = (lt : Int) := by rw [IntKind.wrap_u8]; omega
  have hmk : ∀ w : World, (Instr.makeSlice 22 (.int .i64 128) (.int .i64 128)).run Tryd.prog w = .ok (.slice (some ⟨w.heap.size, 0, none⟩) 128 128) (w.alloc (.cells (bv8 (List.replicate 128 0)).toArray 5)) := made_bytes 128 128 (by omega) (by omega)
  have hmk2 : ∀ w : World, (Instr.makeSlice 22 (.int .i64 64) (.int .i64 64)).run Tryd.prog w = .ok (.slice (some ⟨w.heap.size, 0, none⟩) 64 64) (w.alloc (.cells (bv8 (List.replicate 64 0)).toArray 5)) := made_bytes 64 64 (by omega) (by omega)
  have hMade : Hid (∀ W : World, Own8 W.heap.size (W.alloc (.cells (bv8 (List.replicate 128 0)).toArray 5)) (.slice (some ⟨W.heap.size, 0, none⟩) 128 128) (List.replicate 128 0)) := fun W => bytes_made W 128 128 (by omega) (by omega)
  have hMade2 : Hid (∀ W : World, SK .u8 (W.alloc (.cells (bv8 (List.replicate 64 0)).toArray 5)) (.slice (some ⟨W.heap.size, 0, none⟩) 64 64) (List.replicate 64 0)) := fun W => sk_made W _ _ _ rfl (by simp)
  obtain ⟨Z, hZ⟩ : ∃ Z, Hid (bv8 (List.replicate 128 0) = Z) := ⟨_, rfl⟩
  obtain ⟨Y, hY⟩ : ∃ Y, Hid (bv8 (List.replicate 64 0) = Y) := ⟨_, rfl⟩
  rw [hZ.out] at hmk hMade
  rw [hY.out] at hmk2 hMade2
  clear h1 h2 hm ht
  go_enter Tryd.func8, Tryd.ntmps8
  go_upto_region 3 with (at_builtin; refine wpList_app8S rfl _ _ rfl w.heap.size (.slice none 0 0) [] t (.slice a2 lt c2) rfl (Own8.nil _ _) rfl HT.out (by simp) htl1.out (Nat.le_refl _) ?_; intro x1 W1 hown1 hb1)
  have O1 : Hid (Own8 w.heap.size W1 x1 t) := by unfold Hid; simpa using hown1
  have B1 : Hid (Below w.heap.size w W1) := hb1
  obtain ⟨xa1, xc1, hx1⟩ := O1.out.sk.shape
  rw [hlt.out] at hx1
  subst hx1
  clear hown1 hb1
  go_upto_region 4 with (at_builtin; refine wpList_app8 rfl _ _ rfl w.heap.size (.slice xa1 lt xc1) t lt rfl O1.out rfl htl1.out B1.out.size ?_; intro x2 W2 hown2 hb2)
  have O2 : Hid (Own8 w.heap.size W2 x2 E) := by rw [← hte.out]; exact hown2
  have B2 : Hid (Below w.heap.size w W2) := B1.out.trans hb2
  obtain ⟨xa2, xc2, hx2⟩ := O2.out.sk.shape
  rw [hEl.out] at hx2
  subst hx2
  clear hown2 hb2 O1 B1
  have SE2 : Hid (SK .u8 W2 (.slice xa2 (lt + 1) xc2) E) := O2.out.sk
  obtain ⟨a0, ha0⟩ : ∃ a, Hid (W2.heap.size = a) := ⟨_, rfl⟩
  have hR0 : (List.replicate 128 0).length = 128 := by simp
  have OZ : Hid (Own8 a0 (W2.alloc (.cells Z.toArray 5)) (.slice (some ⟨W2.heap.size, 0, none⟩) 128 128) (List.replicate 128 0)) := by unfold Hid; rw [← ha0.out]; exact hMade.out W2
  have gZ : Hid (Below a0 W2 (W2.alloc (.cells Z.toArray 5))) := by unfold Hid; rw [← ha0.out]; exact (Below.refl _ _).alloc (Nat.le_refl _) _
  have hwa : Hid (w.heap.size ≤ a0) := by unfold Hid; rw [← ha0.out]; exact B2.out.size
  have MZ : Hid (SK .u8 (W2.alloc (.cells Z.toArray 5)) (.slice a1 lm c1) m) := HM.out.below (B2.out.trans (gZ.out.mono hwa.out))
  have zZ : Hid (a0 ≤ (W2.alloc (.cells Z.toArray 5)).heap.size) := by unfold Hid; rw [← ha0.out]; simp
  obtain ⟨R0, hR⟩ : ∃ R, List.replicate 128 0 = R := ⟨_, rfl⟩
  rw [hR] at OZ hbg hR0
  have hRl : Hid (R0.length = 128) := hR0
  have hRb : Hid (Bb R0) := by rw [← hR]; exact rep_bb 128
  have hRl1 : Hid (R0.length ≤ 1000000) := by unfold Hid; rw [hR0]; omega
  clear O2 hR hR0 hMade
  go_upto_region 5 with fail
  go_upto_region 6 with (at_builtin; refine wpList_app8S rfl _ _ rfl a0 (.slice (some ⟨W2.heap.size, 0, none⟩) 128 128) R0 m (.slice a1 lm c1) rfl OZ.out rfl MZ.out hRl1.out hml1.out zZ.out ?_; intro x3 W3 hown3 hb3)
  have O3 : Hid (Own8 a0 W3 x3 (R0 ++ m)) := hown3
  have F3 : Hid (Below a0 W2 W3) := gZ.out.trans hb3
  have Z3 : Hid (a0 ≤ W3.heap.size) := Nat.le_trans zZ.out hb3.size
  have hl3 : (R0 ++ m).length = 128 + lm := by rw [List.length_append, hRl.out, hlm.out]
  obtain ⟨xa3, xc3, hx3⟩ := O3.out.sk.shape
  rw [hl3] at hx3
  subst hx3
  have kI : Hid (Calls Tryd.prog 17 #[.int .i64 (n : Int)] W3 fun e w' => ∃ v, e = .returned v ∧ Num w' v n ∧ Below W3.heap.size W3 w') := int_any n (by omega) W3
  clear hown3 hb3 OZ gZ MZ zZ hl3
  go_wp2_with fail
  refine kI.out.mono ?_
  rintro e W4 ⟨v4, rfl, hN4, g⟩
  have O4 : Hid (Own8 a0 W4 (.slice xa3 (128 + lm) xc3) (R0 ++ m)) := O3.out.grown g
  have F4 : Hid (Below a0 W2 W4) := F3.out.trans (g.mono Z3.out)
  have Z4 : Hid (a0 ≤ W4.heap.size) := Nat.le_trans Z3.out g.size
  have kT : Hid (Calls Tryd.prog 16 #[v4, .int .i64 2] W4 fun e w' => ∃ v, e = .returned v ∧ SK .u8 w' v [n / 256, n % 256] ∧ Below W4.heap.size W4 w') := by
    rw [← beB_two n (by omega)]
    exact toBig5_num n v4 2 W4 hN4 1 (by omega) (by omega) (by omega)
  obtain ⟨na, nc, nd, rfl⟩ := hN4.shape
  clear hN4 g kI O3 F3 Z3
  go_wp2_with fail
  refine kT.out.mono ?_
  rintro e W5 ⟨v5, rfl, hT5, g⟩
  have O5 : Hid (Own8 a0 W5 (.slice xa3 (128 + lm) xc3) (R0 ++ m)) := O4.out.grown g
  have F5 : Hid (Below a0 W2 W5) := F4.out.trans (g.mono Z4.out)
  have Z5 : Hid (a0 ≤ W5.heap.size) := Nat.le_trans Z4.out g.size
  have T5 : Hid (SK .u8 W5 v5 [n / 256, n % 256]) := hT5
  obtain ⟨ta, tc, hte5⟩ := hT5.shape
  have hte6 : v5 = .slice ta 2 tc := hte5
  subst hte6
  have hl5 : Hid ((R0 ++ m).length ≤ 1000000) := by unfold Hid; rw [List.length_append, hRl.out, hlm.out]; omega
  clear hT5 g kT O4 F4 Z4 hte5
  go_upto_region 7 with (at_builtin; refine wpList_app8S rfl _ _ rfl a0 (.slice xa3 (128 + lm) xc3) (R0 ++ m) [n / 256, n % 256] (.slice ta 2 tc) rfl O5.out rfl T5.out hl5.out (by simp) Z5.out ?_; intro x6 W6 hown6 hb6)
  have O6 : Hid (Own8 a0 W6 x6 (R0 ++ m ++ [n / 256, n % 256])) := hown6
  have F6 : Hid (Below a0 W2 W6) := F5.out.trans hb6
  have Z6 : Hid (a0 ≤ W6.heap.size) := Nat.le_trans Z5.out hb6.size
  have hl6 : (R0 ++ m ++ [n / 256, n % 256]).length = 128 + lm + 2 := by rw [List.length_append, List.length_append, hRl.out, hlm.out]; rfl
  have hl6' : Hid ((R0 ++ m ++ [n / 256, n % 256]).length ≤ 1000000) := by unfold Hid; rw [hl6]; omega
  obtain ⟨xa6, xc6, hx6⟩ := O6.out.sk.shape
  rw [hl6] at hx6
  subst hx6
  clear hown6 hb6 O5 F5 Z5 T5
  go_upto_region 8 with (at_builtin; refine wpList_app8 rfl _ _ rfl a0 (.slice xa6 (128 + lm + 2) xc6) (R0 ++ m ++ [n / 256, n % 256]) 0 rfl O6.out rfl hl6'.out Z6.out ?_; intro x7 W7 hown7 hb7)
  have O7 : Hid (Own8 a0 W7 x7 (R0 ++ m ++ [n / 256, n % 256] ++ [0])) := hown7
  have F7 : Hid (Below a0 W2 W7) := F6.out.trans hb7
  have Z7 : Hid (a0 ≤ W7.heap.size) := Nat.le_trans Z6.out hb7.size
  have hl7 : (R0 ++ m ++ [n / 256, n % 256] ++ [0]).length = 128 + lm + 3 := by rw [List.length_append, hl6]; rfl
  have hl7' : Hid ((R0 ++ m ++ [n / 256, n % 256] ++ [0]).length ≤ 1000000) := by unfold Hid; rw [hl7]; omega
  have hEl1 : Hid (E.length ≤ 1000000) := by unfold Hid; rw [hEl.out]; omega
  have SE7 : Hid (SK .u8 W7 (.slice xa2 (lt + 1) xc2) E) := SE2.out.below (by rw [ha0.out]; exact F7.out)
  obtain ⟨xa7, xc7, hx7⟩ := O7.out.sk.shape
  rw [hl7] at hx7
  subst hx7
  clear hown7 hb7 O6 F6 Z6 hl6
  go_wp2_with (at_builtin; refine wpList_app8S rfl _ _ rfl a0 (.slice xa7 (128 + lm + 3) xc7) (R0 ++ m ++ [n / 256, n % 256] ++ [0]) E (.slice xa2 (lt + 1) xc2) rfl O7.out rfl SE7.out hl7'.out hEl1.out Z7.out ?_; intro x8 W8 hown8 hb8; obtain ⟨xa8, xn8, xc8, hx8⟩ : ∃ a n c, x8 = .slice a n c := (by obtain ⟨a, c, e⟩ := hown8.sk.shape; exact ⟨_, _, _, e⟩); subst hx8)
  have F8 : Hid (Below a0 W2 W8) := F7.out.trans hb8
  have Z8 : Hid (a0 ≤ W8.heap.size) := Nat.le_trans Z7.out hb8.size
  have kS : Hid (Calls Tryd.prog 18 #[.slice xa8 xn8 xc8] W8 fun e w' => ∃ v', e = .returned v' ∧ Own8 W8.heap.size w' v' (begin_ m n E) ∧ Below W8.heap.size W8 w') := by
    rw [← hbg.out]
    refine refsum_own _ ?_ ?_ _ W8 hown8.sk
    · refine Bb.app (Bb.app (Bb.app (Bb.app hRb.out HMb.out) ?_) ?_) hEb.out
      · have h := three_bb (n / 256) (n % 256) 0 (by omega) (by omega) (by omega)
        intro j
        match j with
        | 0 => exact h 0
        | 1 => exact h 1
        | k + 2 => exact (by decide : (0 : Nat) < 256)
      · exact one_bb 0 (by omega)
    · rw [List.length_append, hl7, hEl.out]; omega
  clear hown8 hb8 O7 F7 Z7 hl7 SE7
  refine kS.out.mono ?_
  rintro e W9 ⟨v9, rfl, ho9, g9⟩
  have hBl : Hid ((begin_ m n E).length = 64) := begin_length _ _ _
  have hBb : Hid (Bb (begin_ m n E)) := sumB_bb _
  have SB9 : Hid (SK .u8 W9 v9 (begin_ m n E)) := ho9.sk
  have F9 : Hid (Below a0 W2 W9) := F8.out.trans (g9.mono Z8.out)
  have Z9 : Hid (a0 ≤ W9.heap.size) := Nat.le_trans Z8.out g9.size
  obtain ⟨aB, cB, eB⟩ := ho9.sk.shape
  rw [hBl.out] at eB
  subst eB
  obtain ⟨B, hBq⟩ : ∃ B, begin_ m n E = B := ⟨_, rfl⟩
  rw [hBq] at SB9 hBl hBb hwt
  have SE9 : Hid (SK .u8 W9 (.slice xa2 (lt + 1) xc2) E) := SE2.out.below (by rw [ha0.out]; exact F9.out)
  have B9 : Hid (Below w.heap.size w W9) := B2.out.trans (F9.out.mono hwa.out)
  obtain ⟨b9, hb9⟩ : ∃ b, Hid (W9.heap.size = b) := ⟨_, rfl⟩
  have LZ : Hid (SK .u8 (W9.alloc (.cells Y.toArray 5)) (.slice (some ⟨W9.heap.size, 0, none⟩) 64 64) (blk B E 0)) := hMade2.out W9
  have gY : Hid (Below b9 W9 (W9.alloc (.cells Y.toArray 5))) := by unfold Hid; rw [← hb9.out]; exact (Below.refl _ _).alloc (Nat.le_refl _) _
  have zY : Hid (b9 ≤ (W9.alloc (.cells Y.toArray 5)).heap.size) := by unfold Hid; rw [← hb9.out]; simp
  have hw9 : Hid (w.heap.size ≤ b9) := by unfold Hid; rw [← hb9.out]; exact B9.out.size
  clear ho9 g9 kS F8 Z8 F9 Z9 SE2 B2 hBq hMade2 hbg hwa ha0
  go_wp2_with fail
  go_loopw [10, 11, 12] (fun o y u W => ∃ K : Nat, u = .int .i64 ((K : Int) + 1) ∧ (K = 0 ∨ 64 * (K - 1) < n) ∧ (∃ oa oc, o = .slice oa (64 * K) oc) ∧ (∃ la lc, y = .slice la 64 lc) ∧ Hid (Own8 b9 W o (blks B E K)) ∧ Hid (SK .u8 W y (blk B E K)) ∧ Hid (Below b9 W9 W)) (fun _ _ u _ => 100 - (intOf u).toNat)
  case atStart => exact ⟨0, rfl, Or.inl rfl, ⟨_, _, rfl⟩, ⟨_, _, rfl⟩, Own8.nil _ _, LZ.out, gY.out⟩
  case round =>
    obtain ⟨K, rfl, hK, ⟨oa, oc, rfl⟩, ⟨la, lc, rfl⟩, OW, LW, FW⟩ := hrel
    clear LZ gY
    obtain ⟨q, hq⟩ : ∃ q, Hid (64 * K = q) := ⟨_, rfl⟩
    have hK32 : K ≤ 32 := by omega
    obtain ⟨V, hV⟩ : ∃ V, V = wr := ⟨_, rfl⟩
    subst hV
    have ZW : Hid (b9 ≤ V.heap.size) := by have h1 := FW.out.size; have h2 := hb9.out; unfold Hid; omega
    have BW : Hid (Below w.heap.size w V) := B9.out.trans (FW.out.mono hw9.out)
    rw [hq.out] at OW ⊢
    by_cases hlt : q < n
    · have hlt' : (q : Int) < n := by omega
      obtain ⟨b1, o1, c1', e1, l1', hc1, k1⟩ := SB9.out.words hBl.out (by omega)
      obtain ⟨b2, o2, c2', e2, l2', hc2, k2⟩ := LW.out.words (blk_length B E K) (by omega)
      simp only [Value.slice.injEq, true_and] at e1 e2
      obtain ⟨rfl, rfl⟩ := e1
      obtain ⟨rfl, rfl⟩ := e2
      have hsB := BW
      have K1 : Hid (∀ j, j < 64 → V.cell? ⟨b1, o1 + j, none⟩ = some (.int .u8 (B.getD j 0 : Int))) := fun j hj => (FW.out.cell (p := ⟨b1, o1 + j, none⟩) (by have := hb9.out; simp; omega)).trans (k1 j hj)
      have K2 : Hid (∀ j, j < 64 → V.cell? ⟨b2, o2 + j, none⟩ = some (.int .u8 ((blk B E K).getD j 0 : Int))) := k2
      obtain ⟨b5, hb5⟩ : ∃ b, Hid (V.heap.size = b) := ⟨_, rfl⟩
      have l1 : Hid (b1 < b5) := by have h1 := hb9.out; have h2 := hb5.out; have h3 := ZW.out; unfold Hid; omega
      have l2 : Hid (b2 < b5) := by have h2 := hb5.out; unfold Hid; omega
      have HLb : Hid (Bb (blk B E K)) := blk_bb B E K
      have hnx : Hid (blk B E (K + 1) = sumB (xorL B (blk B E K) ++ [K + 1] ++ E)) := rfl
      have hnl : Hid ((blk B E (K + 1)).length = 64) := blk_length B E (K + 1)
      have hnb : Hid (blks B E (K + 1) = blks B E K ++ blk B E (K + 1)) := rfl
      obtain ⟨L, hL⟩ : ∃ L, blk B E K = L := ⟨_, rfl⟩
      rw [hL] at K2 HLb hnx
      obtain ⟨N, hN⟩ : ∃ N, blk B E (K + 1) = N := ⟨_, rfl⟩
      clear k1 k2 l1' l2' LW hL
      go_wp2_with fail
      go_loopw [13, 14] (fun u y W => ∃ j : Nat, j ≤ 64 ∧ y = .int .i64 (j : Int) ∧ (∃ a c, u = .slice a j c) ∧ Hid (Own8 b5 W u ((xorL B L).take j)) ∧ Hid (Below b5 V W)) (fun _ y _ => 64 - (intOf y).toNat)
      case atStart => exact ⟨0, by omega, rfl, ⟨_, _, rfl⟩, Own8.nil _ _, Below.refl _ _⟩
      case round =>
        obtain ⟨j, hj, rfl, ⟨ua, uc, rfl⟩, OJ, FJ⟩ := hrel
        by_cases hlt2 : j < 64
        · have hlt2' : (j : Int) < 64 := by omega
          have q1 := hBb.out j
          have q2 := HLb.out j
          have hmo := xor_more B L j hlt2
          have k1 := K1.out j hlt2
          have k2 := K2.out j hlt2
          obtain ⟨z1, hz1⟩ : ∃ z, B.getD j 0 = z := ⟨_, rfl⟩
          obtain ⟨z2, hz2⟩ : ∃ z, L.getD j 0 = z := ⟨_, rfl⟩
          rw [hz1] at k1 q1 hmo
          rw [hz2] at k2 q2 hmo
          have d1 : Hid (V.cell? ⟨b1, o1 + j, none⟩ = some (.int .u8 (z1 : Int))) := k1
          have d2 : Hid (V.cell? ⟨b2, o2 + j, none⟩ = some (.int .u8 (z2 : Int))) := k2
          have hX := u8_xor_nat z1 z2 q1 q2
          obtain ⟨y, hy⟩ : ∃ y, z1 ^^^ z2 = y := ⟨_, rfl⟩
          rw [hy] at hX hmo
          have hmore : Hid ((xorL B L).take (j + 1) = (xorL B L).take j ++ [y]) := hmo
          have hV5 := hb5.out
          have zw : b5 ≤ wr.heap.size := by have := FJ.out.size; omega
          have FA : Hid (Below b5 V (wr.drew.alloc (.cells #[.int .u8 (y : Int)] 5))) := FJ.out.trans ((Below.refl _ _).drew.alloc zw _)
          have OA : Hid (Own8 b5 (wr.drew.alloc (.cells #[.int .u8 (y : Int)] 5)) (.slice ua j uc) ((xorL B L).take j)) := OJ.out.grown ((Below.refl _ _).drew.alloc (Nat.le_refl _) _)
          have SY : Hid (SK .u8 (wr.drew.alloc (.cells #[.int .u8 (y : Int)] 5)) (.slice (some ⟨wr.drew.heap.size, 0, none⟩) 1 1) [y]) := sk_made wr.drew [y] _ 1 rfl rfl
          have ZA : Hid (b5 ≤ (wr.drew.alloc (.cells #[.int .u8 (y : Int)] 5)).heap.size) := by unfold Hid; simp; omega
          have hl2 : Hid (((xorL B L).take j).length ≤ 1000000) := by unfold Hid; rw [List.length_take, xorL_length]; omega
          have hK0 : wr.drew.cell? ⟨b1, o1 + j, none⟩ = some (.int .u8 (z1 : Int)) ∧ wr.drew.cell? ⟨b2, o2 + j, none⟩ = some (.int .u8 (z2 : Int)) := ⟨(FJ.out.cell (p := ⟨b1, o1 + j, none⟩) l1.out).trans k1, (FJ.out.cell (p := ⟨b2, o2 + j, none⟩) l2.out).trans k2⟩
          clear k1 k2 hmo hz1 hz2 hy q1 q2 OJ FJ hV5 zw
          go_wp2_with fail
          refine wp_region_held_drew (S := fun w' => w'.cell? ⟨b1, o1 + j, none⟩ = some (.int .u8 (z1 : Int)) ∧ w'.cell? ⟨b2, o2 + j, none⟩ = some (.int .u8 (z2 : Int))) (by kernel_rfl) hK0 (fun hHeld => ?_)
          refine h_take 0 (v := ?v0) rfl (by kernel_rfl) (by kernel_rfl) (by kernel_rfl) (fun _ _ _ h => h) (by rfl) ?hy0 (by assumption) ?_
          case hy0 =>
            intro w' hSw
            try dsimp only at hSw
            go_simp
            try with_reducible rfl
          try simp only [Act.put, List.setIfInBounds_toArray, List.set_cons_zero, List.set_cons_succ]
          refine h_take 1 (v := ?v1) rfl (by kernel_rfl) (by kernel_rfl) (by kernel_rfl) (fun _ _ _ h => h) (by rfl) ?hy1 (by assumption) ?_
          case hy1 =>
            intro w' hSw
            try dsimp only at hSw
            go_simp
            try with_reducible rfl
          try simp only [Act.put, List.setIfInBounds_toArray, List.set_cons_zero, List.set_cons_succ]
          refine h_take 2 (v := ?v2) rfl (by kernel_rfl) (by kernel_rfl) (by kernel_rfl) (fun _ _ _ h => h) (by rfl) ?hy2 (by assumption) ?_
          case hy2 =>
            intro w' hSw
            try dsimp only at hSw
            go_simp
            try with_reducible rfl
          try simp only [Act.put, List.setIfInBounds_toArray, List.set_cons_zero, List.set_cons_succ]
          refine h_take 3 (v := ?v3) rfl (by kernel_rfl) (by kernel_rfl) (by kernel_rfl) (fun _ _ _ h => h) (by rfl) ?hy3 (by assumption) ?_
          case hy3 =>
            intro w' hSw
            try dsimp only at hSw
            go_simp
            try with_reducible rfl
          try simp only [Act.put, List.setIfInBounds_toArray, List.set_cons_zero, List.set_cons_succ]
          refine h_take 4 (v := ?v4) rfl (by kernel_rfl) (by kernel_rfl) (by kernel_rfl) (fun _ _ _ h => h) (by rfl) ?hy4 (by assumption) ?_
          case hy4 =>
            intro w' hSw
            try dsimp only at hSw
            go_simp
            try with_reducible rfl
          try simp only [Act.put, List.setIfInBounds_toArray, List.set_cons_zero, List.set_cons_succ]
          refine h_take 5 (v := ?v5) rfl (by kernel_rfl) (by kernel_rfl) (by kernel_rfl) (fun _ _ _ h => h) (by rfl) ?hy5 (by assumption) ?_
          case hy5 =>
            intro w' hSw
            try dsimp only at hSw
            go_simp
            try with_reducible rfl
          try simp only [Act.put, List.setIfInBounds_toArray, List.set_cons_zero, List.set_cons_succ]
          refine h_take 6 (v := ?v6) rfl (by kernel_rfl) (by kernel_rfl) (by kernel_rfl) (fun _ _ _ h => h) (by rfl) ?hy6 (by assumption) ?_
          case hy6 =>
            intro w' hSw
            try dsimp only at hSw
            go_simp
            try with_reducible rfl
          try simp only [Act.put, List.setIfInBounds_toArray, List.set_cons_zero, List.set_cons_succ]
          refine h_take 7 (v := ?v7) rfl (by kernel_rfl) (by kernel_rfl) (by kernel_rfl) (fun _ _ _ h => h) (by rfl) ?hy7 (by assumption) ?_
          case hy7 =>
            intro w' hSw
            try dsimp only at hSw
            go_simp
            try with_reducible rfl
          try simp only [Act.put, List.setIfInBounds_toArray, List.set_cons_zero, List.set_cons_succ]
          refine h_take 8 (v := ?v8) rfl (by kernel_rfl) (by kernel_rfl) (by kernel_rfl) (fun _ _ _ h => h) (by rfl) ?hy8 (by assumption) ?_
          case hy8 =>
            intro w' hSw
            try dsimp only at hSw
            go_simp
            try with_reducible rfl
          try simp only [Act.put, List.setIfInBounds_toArray, List.set_cons_zero, List.set_cons_succ]
          refine h_take 9 (v := ?v9) rfl (by kernel_rfl) (by kernel_rfl) (by kernel_rfl) (fun _ _ _ h => h) (by rfl) ?hy9 (by assumption) ?_
          case hy9 =>
            intro w' hSw
            try dsimp only at hSw
            go_simp
            try with_reducible rfl
          try simp only [Act.put, List.setIfInBounds_toArray, List.set_cons_zero, List.set_cons_succ]
          refine h_call 10 rfl (by kernel_rfl) (by rfl) (fun Kk hK => ?_)
          go_simp
          have K10 : (wr.drew.alloc (.cells #[.int .u8 (y : Int)] 5)).cell? ⟨b1, o1 + j, none⟩ = some (.int .u8 (z1 : Int)) ∧ (wr.drew.alloc (.cells #[.int .u8 (y : Int)] 5)).cell? ⟨b2, o2 + j, none⟩ = some (.int .u8 (z2 : Int)) := ⟨(FA.out.cell (p := ⟨b1, o1 + j, none⟩) l1.out).trans d1.out, (FA.out.cell (p := ⟨b2, o2 + j, none⟩) l2.out).trans d2.out⟩
          clear hHeld
          refine hK.out _ _ K10 (fun hHeld => ?_)
          clear hK Kk
          try simp only [Act.put, List.setIfInBounds_toArray, List.set_cons_zero, List.set_cons_succ]
          refine h_call 11 rfl (by kernel_rfl) (by rfl) (fun Kk hK => ?_)
          refine wp_more _ _ (by rfl) b5 (.slice ua j uc) ((xorL B L).take j) [y] wr.drew.heap.size 1 1 (by rfl) OA.out (by rfl) rfl SY.out hl2.out (by simp) ZA.out ?_
          intro v6 W6 hown6 hb6
          have O6 : Hid (Own8 b5 W6 v6 ((xorL B L).take (j + 1))) := by rw [hmore.out]; exact hown6
          have F6 : Hid (Below b5 V W6) := FA.out.trans hb6
          have K11 : W6.cell? ⟨b1, o1 + j, none⟩ = some (.int .u8 (z1 : Int)) ∧ W6.cell? ⟨b2, o2 + j, none⟩ = some (.int .u8 (z2 : Int)) := ⟨(F6.out.cell (p := ⟨b1, o1 + j, none⟩) l1.out).trans d1.out, (F6.out.cell (p := ⟨b2, o2 + j, none⟩) l2.out).trans d2.out⟩
          have hsh6 : ∃ a c, v6 = .slice a (j + 1) c := by
            obtain ⟨a, c, e⟩ := O6.out.sk.shape
            rw [List.length_take, xorL_length, show min (j + 1) 64 = j + 1 by omega] at e
            exact ⟨_, _, e⟩
          obtain ⟨a6, c6, rfl⟩ := hsh6
          clear hown6 hb6
          clear hHeld
          refine hK.out _ _ K11 (fun hHeld => ?_)
          clear hK Kk
          try simp only [Act.put, List.setIfInBounds_toArray, List.set_cons_zero, List.set_cons_succ]
          refine h_take 12 (v := ?v12) rfl (by kernel_rfl) (by kernel_rfl) (by kernel_rfl) (fun _ _ _ h => h) (by rfl) ?hy12 (by assumption) ?_
          case hy12 =>
            intro w' hSw
            try dsimp only at hSw
            go_simp
            try with_reducible rfl
          try simp only [Act.put, List.setIfInBounds_toArray, List.set_cons_zero, List.set_cons_succ]
          refine wpAnyH_done (by kernel_rfl) ?_ _
          go_wp2_with fail
          go_roundw
          case rel => exact ⟨j + 1, by omega, by go_num, ⟨_, _, rfl⟩, O6, F6⟩
          case measure => simp [intOf]; omega
        · obtain rfl : j = 64 := by omega
          have hT : (xorL B L).take 64 = xorL B L := List.take_of_length_le (by rw [xorL_length]; omega)
          rw [hT] at OJ
          have hXl : Hid ((xorL B L).length ≤ 1000000) := by unfold Hid; rw [xorL_length]; omega
          have hV5 := hb5.out
          have zw : Hid (b5 ≤ wr.heap.size) := by have := FJ.out.size; unfold Hid; omega
          obtain ⟨d, hd⟩ : ∃ d, Hid (K + 1 = d) := ⟨_, rfl⟩
          have hwK : IntKind.u8.wrap ((K : Int) + 1) = (d : Int) := by have := hd.out; rw [IntKind.wrap_u8]; omega
          have hnx2 : Hid (blk B E (K + 1) = sumB (xorL B L ++ [d] ++ E)) := by rw [← hd.out]; exact hnx.out
          clear hT hV5
          go_upto_region 20 with (at_builtin; refine wpList_app8 rfl _ _ rfl b5 (.slice ua 64 uc) (xorL B L) d rfl OJ.out rfl hXl.out zw.out ?_; intro y1 Y1 hy1 hz1)
          have P1 : Hid (Own8 b5 Y1 y1 (xorL B L ++ [d])) := hy1
          have G1 : Hid (Below b5 V Y1) := FJ.out.trans hz1
          have zw1 : Hid (b5 ≤ Y1.heap.size) := Nat.le_trans zw.out hz1.size
          have hp1 : (xorL B L ++ [d]).length = 65 := by rw [List.length_append, xorL_length]; rfl
          have hp1' : Hid ((xorL B L ++ [d]).length ≤ 1000000) := by unfold Hid; rw [hp1]; omega
          have hb95 : Hid (b9 ≤ b5) := by unfold Hid; rw [← hb5.out]; exact ZW.out
          have SE1 : Hid (SK .u8 Y1 (.slice xa2 (lt + 1) xc2) E) := SE9.out.below (by rw [hb9.out]; exact FW.out.trans (G1.out.mono hb95.out))
          have hEl1 : Hid (E.length ≤ 1000000) := by unfold Hid; rw [hEl.out]; omega
          obtain ⟨ya, yc, hye⟩ := hy1.sk.shape
          rw [hp1] at hye
          subst hye
          clear hy1 hz1 OJ FJ zw hp1
          go_wp2_with (at_builtin; refine wpList_app8S rfl _ _ rfl b5 (.slice ya 65 yc) (xorL B L ++ [d]) E (.slice xa2 (lt + 1) xc2) rfl P1.out rfl SE1.out hp1'.out hEl1.out zw1.out ?_; intro y2 Y2 hy2 hz2; obtain ⟨ya2, yn2, yc2, hye2⟩ : ∃ a n c, y2 = .slice a n c := (by obtain ⟨a, c, e⟩ := hy2.sk.shape; exact ⟨_, _, _, e⟩); subst hye2)
          have G2 : Hid (Below b5 V Y2) := G1.out.trans hz2
          have kS2 : Hid (Calls Tryd.prog 18 #[.slice ya2 yn2 yc2] Y2 fun e w' => ∃ v', e = .returned v' ∧ Own8 Y2.heap.size w' v' (blk B E (K + 1)) ∧ Below Y2.heap.size Y2 w') := by
            rw [hnx2.out]
            refine refsum_own _ ?_ ?_ _ Y2 hy2.sk
            · exact Bb.app (Bb.app (xorL_bb _ _ hBb.out HLb.out) (one_bb d (by have := hd.out; omega))) hEb.out
            · rw [List.length_append, List.length_append, xorL_length, hEl.out]; simp; omega
          clear hy2 hz2 P1 G1 SE1
          refine kS2.out.mono ?_
          rintro e Y3 ⟨v3, rfl, ho3, g3⟩
          have G3 : Hid (Below b5 V Y3) := G2.out.trans (g3.mono (by have h1 := G2.out.size; have h2 := hb5.out; omega))
          obtain ⟨p3, c3, hv3, hp3, hp3'⟩ := ho3.lt (by rw [hnl.out]; omega)
          rw [hnl.out] at hv3
          subst hv3
          have L3 : Hid (Own8 Y2.heap.size Y3 (.slice (some ⟨p3, 0, none⟩) 64 c3) (blk B E (K + 1))) := ho3
          have O3 : Hid (Own8 b9 Y3 (.slice oa q oc) (blks B E K)) := OW.out.grown (by rw [hb5.out]; exact G3.out)
          have hov : Hid (∀ g, (Value.slice oa q oc).ownBlock = some g → g < Y2.heap.size) := fun g hg => Nat.lt_of_lt_of_le (own_block OW.out hg).2 (by have h1 := G2.out.size; exact h1)
          have hol : Hid ((blks B E K).length ≤ 1000000) := by unfold Hid; rw [blks_length]; omega
          have z93 : Hid (b9 ≤ Y3.heap.size) := by have h1 := G3.out.size; have h2 := ZW.out; unfold Hid; omega
          have hnl1 : Hid ((blk B E (K + 1)).length ≤ 1000000) := by unfold Hid; rw [hnl.out]; omega
          have hw3 : IntKind.i64.wrap ((K : Int) + 1 + 1) = (K : Int) + 1 + 1 := wrapI _ (by omega) (by omega)
          clear ho3 g3 kS2 G2
          go_wp2_with (at_builtin; refine wpList_app8K rfl _ _ rfl b9 Y2.heap.size (.slice oa q oc) (blks B E K) (blk B E (K + 1)) 64 c3 ⟨p3, 0, none⟩ rfl O3.out rfl hnl.out L3.out hov.out hol.out hnl1.out z93.out ?_; intro y4 Y4 hy4 hz4 hl4)
          have O4 : Hid (Own8 b9 Y4 y4 (blks B E (K + 1))) := by rw [hnb.out]; exact hy4
          have F4 : Hid (Below b9 W9 Y4) := FW.out.trans ((G3.out.mono hb95.out).trans hz4)
          have L4 : Hid (SK .u8 Y4 (.slice (some ⟨p3, 0, none⟩) 64 c3) (blk B E (K + 1))) := hl4.sk
          have hs4 : ∃ a c, y4 = .slice a (64 * (K + 1)) c := by
            obtain ⟨a, c, e⟩ := O4.out.sk.shape
            rw [blks_length] at e
            exact ⟨_, _, e⟩
          have hq' := hq.out
          clear hy4 hz4 hl4
          go_roundw
          case rel => exact ⟨K + 1, by go_num, Or.inr (by omega), hs4, ⟨_, _, rfl⟩, O4, L4, F4⟩
          case measure => simp [intOf]; omega
    · have hlt' : ¬ (q : Int) < n := by omega
      have hq' := hq.out
      have hKn : howMany n = K := by unfold howMany; omega
      have hbl := blks_length B E K
      have hoc := (OW.out.sk.cap).1
      have hsl : ∀ W, (Instr.sliceAt 22 (.slice oa q oc) none (some (.int .i64 (n : Int))) none).run Tryd.prog W = .ok (.slice oa n oc) W := cut_first oa q oc n (by omega) hoc
      have hfin : Hid (SK .u8 V (.slice oa n oc) (what m t n)) := by
        unfold Hid
        rw [hwt.out, hKn]
        have h := SK.take (a := oa) (cap := oc) (cap' := oc) (n := n) (l := blks B E K) (by rw [hbl, hq']; exact OW.out.sk) (by omega) (by omega) (fun e => by subst e; exact (OW.out.sk.cap).2 rfl)
        exact h
      clear LW hq'
      go_wp2_with fail
      go_ret
      exact ⟨_, rfl, hfin.out, BW.out⟩
end Go.Proofs.YtkkhpjcfojgggaaDoor.Br.Ex
