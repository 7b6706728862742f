/-
  The contracts of the document's own Shift and Power over digits of 24 bits: a number times a power of two. Conditions: as each theorem says.
-/
import Derived.Test.YtkkhpjcfojgggaaDoorRefN
namespace Go.Proofs.YtkkhpjcfojgggaaDoor
open Go.RowKit
set_option linter.unusedVariables false

theorem Own.made (base : Nat) (w : World) (n : Nat) (hb : base ≤ w.heap.size) (hn : n ≤ 1000000) : Own base (w.alloc (.cells (madeCells #[.int .i64 0] n) 3)) (.slice (some ⟨w.heap.size, 0, none⟩) n n) (List.replicate n 0) := by
  refine ⟨by simp [dv], Or.inr ⟨w.heap.size, n, madeCells #[.int .i64 0] n, by simp, hb, ?_, by simp, by unfold maxLen; omega, by simp [madeCells], ?_⟩⟩
  · show (w.heap.push _)[w.heap.size]? = _
    simp
  · apply List.ext_getElem?
    intro j
    simp only [List.length_replicate, Nat.mul_one, dv, List.map_replicate]
    rw [List.getElem?_take, List.getElem?_replicate]
    by_cases hj : j < n
    · rw [if_pos hj, if_pos hj]; simp [madeCells, hj, Nat.mod_one]
    · rw [if_neg hj, if_neg hj]

/-- 'out = append(out, m...)' on the call's own slice, the digits m lying anywhere. -/
theorem wpList_appL {ops : Array Oper} {rest : List Oper} {o : Oper} {a : Act} {Q : Exit → Act → World → Prop} {wr : World} (hgd : o.guard = none) (s x : Operand)
    (ho : o.op = .call { callee := .builtin .append, args := #[s, x], argTypes := #[43, 43] })
    (base : Nat) (v : Value) (l m : List Nat) (b off cap : Nat) (hs : a.eval s = v) (hown : Own base wr v l)
    (hx : a.eval x = .slice (some ⟨b, off, none⟩) m.length cap) (hm : ∀ j, j < m.length → wr.cell? ⟨b, off + j, none⟩ = some (.int .i64 (m.getD j 0 : Int))) (hlen : l.length ≤ 1000000) (hlen2 : m.length ≤ 1000000) (hbase : base ≤ wr.heap.size)
    (h : ∀ v' w', Own base w' v' (l ++ m) → Below base wr w' → wpList Tryd.prog ops Q rest (a.put o.dst v') w') :
    wpList Tryd.prog ops Q (o :: rest) a wr := by
  obtain ⟨i0, hi, hz0, hz1, hz2⟩ := info_parts info_int
  refine wpList_append_own _ hgd s x 43 ho base 3 i0 (.int .i64 0) 1 8 Tryd.underlying43 hi hz0 hz1 hz2 rfl (by decide) v _ _ hs hown ⟨b, off, none⟩ m.length cap (dv m) hx (by simp [dv]) ?_ ?_ ?_ ?_ ?_ ?_
  · intro j u hj
    by_cases hjl : j < m.length
    · rw [dv_get m j hjl] at hj
      rw [← hj]
      have e : Addr.add ⟨b, off, none⟩ j = ⟨b, off + j, none⟩ := by
        unfold Addr.add
        by_cases h0 : j = 0
        · subst h0; simp
        · simp [h0]
      rw [e]; exact hm j hjl
    · rw [List.getElem?_eq_none (by rw [dv_length]; omega)] at hj; cases hj
  · intro u hu; simp [dv] at hu; obtain ⟨d, _, rfl⟩ := hu; rfl
  · unfold maxLen; omega
  · omega
  · exact hbase
  · intro v' w' h1 h2 _
    refine h v' w' ?_ ?_
    · unfold Own
      have e : dv (l ++ m) = dv l ++ dv m := by simp [dv]
      rw [e]
      simpa using h1
    · refine Below.grown (Below.refl _ _) h2 hbase ?_
      intro k hk
      rcases hown.2 with ⟨e, _⟩ | ⟨g, cap, cur, e, hg, _⟩
      · rw [e] at hk; simp [Value.ownBlock] at hk
      · rw [e] at hk; simp [Value.ownBlock] at hk; omega

theorem valD_append : ∀ (l m : List Nat), valD (l ++ m) = valD l + 16777216 ^ l.length * valD m
  | [], m => by simp [valD]
  | d :: l, m => by
    simp only [List.cons_append, valD, valD_append l m, List.length_cons, Nat.pow_succ]
    rw [Nat.mul_add, Nat.add_assoc, Nat.mul_comm (16777216 ^ l.length) 16777216, Nat.mul_assoc]
theorem Dg.zeros (n : Nat) : Dg (List.replicate n 0) := fun j => by
  rw [List.getD_eq_getElem?_getD, List.getElem?_replicate]; split <;> simp
theorem Dg.append {l m : List Nat} (h1 : Dg l) (h2 : Dg m) : Dg (l ++ m) := fun j => by
  rw [List.getD_eq_getElem?_getD, List.getElem?_append]
  split
  · have := h1 j; rwa [List.getD_eq_getElem?_getD] at this
  · have := h2 (j - l.length); rwa [List.getD_eq_getElem?_getD] at this
theorem shift_val (la : List Nat) (n : Nat) : valD (List.replicate (n / 24) 0 ++ la) * 2 ^ (n % 24) = valD la * 2 ^ n := by
  rw [valD_append, valD_zeros, List.length_replicate, Nat.zero_add, show (16777216 : Nat) = 2 ^ 24 from by decide, ← Nat.pow_mul, Nat.mul_comm (2 ^ (24 * (n / 24))), Nat.mul_assoc, ← Nat.pow_add, Nat.div_add_mod]

set_option maxHeartbeats 1000000 in
theorem shift_any (la : List Nat) (va : Value) (n : Nat) (w : World) (ha : Sl w va la) (hda : Dg la) (hla : la.length ≤ 50000) (hn : n ≤ 100000) :
    Calls Tryd.prog 38 #[va, .int .i64 (n : Int)] w fun e w' => ∃ v, e = .returned v ∧ Num w' v (valD la * 2 ^ n) ∧ Below w.heap.size w w' := by
  have Hda : Hid (Dg la) := hda
  obtain ⟨a, capa, rfl, hcap, -, hc⟩ := ha
  have Hc : Hid _ := hc
  clear hda hc
  have hn' : (n : Int) ≤ 100000 := by omega
  by_cases h0 : la.length = 0
  · have e : la = [] := List.eq_nil_of_length_eq_zero h0
    subst e
    go_enter Tryd.func38, Tryd.ntmps38
    go_wp2
    go_ret
    exact ⟨_, rfl, ⟨[], Sl.nil _, Dg.nil, Or.inl rfl, by simp [valD]⟩, Below.refl _ _⟩
  · have hb0 : ((la.length : Int) == 0) = false := beq_eq_false_iff_ne.2 (by omega)
    obtain ⟨b, off, rfl, hb, -⟩ := Hc.out 0 (by omega)
    obtain ⟨q, hq⟩ : ∃ q : Nat, (n : Int) / 24 = (q : Int) := ⟨n / 24, by omega⟩
    obtain ⟨r, hr⟩ : ∃ r : Nat, (n : Int) % 24 = (r : Int) := ⟨n % 24, by omega⟩
    have hq2 : Hid (q = n / 24) := by unfold Hid; omega
    have hr2 : Hid (r = n % 24) := by unfold Hid; omega
    have hmk := fun w => make_ints q (by omega) (q : Int) rfl w
    have hcell : Hid (∀ j, j < la.length → w.cell? ⟨b, off + j, none⟩ = some (.int .i64 (la.getD j 0 : Int))) := by
      intro j hj
      obtain ⟨b', o', e1, -, e3⟩ := Hc.out j hj
      simp only [Option.some.injEq, Addr.mk.injEq, and_true] at e1
      rw [e1.1, e1.2]; exact e3
    go_enter Tryd.func38, Tryd.ntmps38
    go_wp2_with (at_builtin; refine wpList_appL rfl _ _ rfl w.heap.size _ (List.replicate q 0) la b off capa rfl (Own.made _ _ _ (Nat.le_refl _) (by omega)) rfl (fun j hj => by rw [World.cell?_alloc_past (w := w) _ _ _ hb]; exact hcell.out j hj) (by simp; omega) (by omega) (by simp) ?_; intro v1 w1 hown1 hb1)
    have H1 : Hid (Own w.heap.size w1 v1 (List.replicate q 0 ++ la)) := hown1
    have B1 : Hid (Below w.heap.size w w1) := ((Below.refl w.heap.size w).alloc (Nat.le_refl _) _).trans hb1
    clear hown1 hb1 hmk
    refine (pow2_any r (by omega) _).mono ?_
    rintro e w2 ⟨rfl, rfl⟩
    go_wp2_with fail
    have hp : 2 ^ r ≤ 2 ^ 24 := Nat.pow_le_pow_right (by omega) (by omega)
    have e2 : (2 : Int) ^ r = ((2 ^ r : Nat) : Int) := by simp
    try rw [e2]
    refine (small_any (List.replicate q 0 ++ la) _ (2 ^ r) _ H1.out.sl ((Dg.zeros q).append Hda.out) (by simp; omega) (by omega)).mono ?_
    rintro e w3 ⟨v3, rfl, hN, b3⟩
    rw [hr2.out, hq2.out, shift_val] at hN
    have hq : ∃ a c d, v3 = .slice a c d := by obtain ⟨l, ⟨a, c, e, _⟩, _⟩ := hN; exact ⟨a, _, c, e⟩
    have Hq : Hid (Num w3 v3 (valD la * 2 ^ n)) := hN
    obtain ⟨a, c, d, rfl⟩ := hq
    clear hN hp e2
    go_wp2
    go_ret
    exact ⟨_, rfl, Hq.out, B1.out.trans (b3.mono B1.out.size)⟩

theorem Sl.lit1 (w : World) (d : Nat) (z : Int) (hz : z = (d : Int)) : Sl (w.alloc (.cells #[.int .i64 z] 3)) (.slice (some ⟨w.heap.size, 0, none⟩) 1 1) [d] := by
  subst hz
  refine ⟨some ⟨w.heap.size, 0, none⟩, 1, rfl, by simp, fun h => by simp at h, fun j hj => ⟨w.heap.size, 0, rfl, by simp, ?_⟩⟩
  have : j = 0 := by simpa using hj
  subst this
  simp

end Go.Proofs.YtkkhpjcfojgggaaDoor
