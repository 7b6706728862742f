/-
  Numbers as digits of 24 bits, the lowest first: their values, and how such digits lie in memory as a slice of ints. Conditions: none beyond those written.
-/
import Derived.Test.YtkbiiolkekpkiaaDoorBase
namespace Go.Proofs.YtkbiiolkekpkiaaDoor
open Go.RowKit
set_option linter.unusedVariables false

def valD : List Nat → Nat
  | [] => 0
  | d :: l => d + 16777216 * valD l
/-- Each digit is one. -/
def Dg (l : List Nat) : Prop := ∀ j, l.getD j 0 < 16777216
/-- No nought at the end. -/
def Nz (l : List Nat) : Prop := l = [] ∨ l.getD (l.length - 1) 0 ≠ 0

theorem getD_snoc (l : List Nat) (d j : Nat) : (l ++ [d]).getD j 0 = if j < l.length then l.getD j 0 else if j = l.length then d else 0 := by
  simp only [List.getD_eq_getElem?_getD]
  by_cases h : j < l.length
  · rw [if_pos h, List.getElem?_append_left h]
  · rw [if_neg h, List.getElem?_append_right (by omega)]
    by_cases e : j = l.length
    · subst e; simp
    · rw [if_neg e]
      rw [List.getElem?_eq_none (by simp; omega)]
      rfl
theorem Dg.snoc {l : List Nat} {d : Nat} (h : Dg l) (hd : d < 16777216) : Dg (l ++ [d]) := by
  intro j
  rw [getD_snoc]
  split
  · exact h j
  · split <;> omega
theorem Dg.nil : Dg [] := fun j => by simp
theorem Nz.snoc {l : List Nat} {d : Nat} (hd : d ≠ 0) : Nz (l ++ [d]) := by
  right
  rw [getD_snoc]
  simp [hd]
theorem valD_snoc : ∀ (l : List Nat) (d : Nat), valD (l ++ [d]) = valD l + 16777216 ^ l.length * d
  | [], d => by simp [valD]
  | x :: l, d => by
    simp only [List.cons_append, valD, valD_snoc l d, List.length_cons, Nat.pow_succ]
    rw [Nat.mul_add, Nat.add_assoc, ← Nat.mul_assoc, Nat.mul_comm 16777216 (16777216 ^ l.length)]
theorem valD_take (l : List Nat) : ∀ (i : Nat), valD (l.take (i + 1)) = valD (l.take i) + 16777216 ^ i * l.getD i 0 := by
  intro i
  by_cases h : i < l.length
  · rw [List.take_succ_eq_append_getElem h, valD_snoc, List.length_take, Nat.min_eq_left (by omega)]
    simp [List.getD_eq_getElem?_getD, h]
  · rw [List.take_of_length_le (by omega), List.take_of_length_le (by omega)]
    simp [List.getD_eq_getElem?_getD, List.getElem?_eq_none (show l.length ≤ i by omega)]
theorem valD_take_all (l : List Nat) (i : Nat) (h : l.length ≤ i) : valD (l.take i) = valD l := by rw [List.take_of_length_le h]
theorem valD_lt : ∀ (l : List Nat), Dg l → valD l < 16777216 ^ l.length
  | [], _ => by simp [valD]
  | d :: l, h => by
    have h0 := h 0
    have ih := valD_lt l (fun j => h (j + 1))
    simp only [List.getD_cons_zero] at h0
    simp only [valD, List.length_cons, Nat.pow_succ]
    omega
theorem Dg.tail {d : Nat} {l : List Nat} (h : Dg (d :: l)) : Dg l := fun j => h (j + 1)

/-- The values of the digits. -/
def dv (l : List Nat) : List Value := l.map fun (d : Nat) => Value.int .i64 (d : Int)
theorem dv_length (l : List Nat) : (dv l).length = l.length := by simp [dv]
theorem dv_get (l : List Nat) (j : Nat) (h : j < l.length) : (dv l)[j]? = some (.int .i64 (l.getD j 0 : Int)) := by
  simp [dv, List.getD_eq_getElem?_getD, h]

/-- The slice v leads to the digits l. -/
def Sl (w : World) (v : Value) (l : List Nat) : Prop :=
  ∃ a cap, v = .slice a l.length cap ∧ l.length ≤ cap ∧ (a = none → l = [] ∧ cap = 0) ∧ ∀ j, j < l.length → ∃ b o, a = some ⟨b, o, none⟩ ∧ b < w.heap.size ∧ w.cell? ⟨b, o + j, none⟩ = some (.int .i64 (l.getD j 0 : Int))
theorem Sl.below {w w' : World} {v : Value} {l : List Nat} (h : Sl w v l) (hb : Below w.heap.size w w') : Sl w' v l := by
  obtain ⟨a, cap, h1, h2, h4, h3⟩ := h
  refine ⟨a, cap, h1, h2, h4, fun j hj => ?_⟩
  obtain ⟨b, o, e1, e2, e3⟩ := h3 j hj
  exact ⟨b, o, e1, Nat.lt_of_lt_of_le e2 hb.size, (hb.cell (p := ⟨b, o + j, none⟩) e2).trans e3⟩
theorem Sl.nil (w : World) : Sl w (.slice none 0 0) [] := ⟨none, 0, rfl, Nat.le_refl _, fun _ => ⟨rfl, rfl⟩, fun j hj => by simp at hj⟩

/-- The slice v leads to the digits of the number N, without noughts at the end. -/
def Num (w : World) (v : Value) (N : Nat) : Prop := ∃ l, Sl w v l ∧ Dg l ∧ Nz l ∧ valD l = N
theorem Num.below {w w' : World} {v : Value} {N : Nat} (h : Num w v N) (hb : Below w.heap.size w w') : Num w' v N := by
  obtain ⟨l, h1, h2, h3, h4⟩ := h
  exact ⟨l, h1.below hb, h2, h3, h4⟩

/-- The call's own slice, with the digits l. -/
def Own (base : Nat) (w : World) (v : Value) (l : List Nat) : Prop := w.ownsRow base 3 1 v l.length (dv l)
theorem Own.nil (base : Nat) (w : World) : Own base w (.slice none 0 0) [] := World.ownsRow_nil _ _ _ _
theorem Own.alloc {base : Nat} {w : World} {v : Value} {l : List Nat} (h : Own base w v l) (o : Obj) : Own base (w.alloc o) v l := World.ownsRow.alloc h o
theorem Own.sl {base : Nat} {w : World} {v : Value} {l : List Nat} (h : Own base w v l) : Sl w v l := by
  obtain ⟨h1, h2⟩ := h
  rcases h2 with ⟨e, e0⟩ | ⟨g, cap, cur, e, hg, hh, hn, hm, hc, ht⟩
  · have : l = [] := List.eq_nil_of_length_eq_zero e0
    subst this
    rw [e]
    exact Sl.nil w
  · refine ⟨some ⟨g, 0, none⟩, cap, e, hn, fun h => by simp at h, fun j hj => ⟨g, 0, rfl, ?_, ?_⟩⟩
    · rcases Nat.lt_or_ge g w.heap.size with h' | h'
      · exact h'
      · rw [Array.getElem?_eq_none h'] at hh; cases hh
    · have hj' : j < cur.size := by omega
      have : (cur.toList.take (l.length * 1))[j]? = some (.int .i64 (l.getD j 0 : Int)) := by rw [ht]; exact dv_get l j hj
      rw [List.getElem?_take, if_pos (by omega)] at this
      simp only [World.cell?, hh, Nat.zero_add]
      simpa using this

theorem info_int : (Tryd.prog.info? 3).map (fun i => (i.zero, i.size, i.bytes)) = some (some (.int .i64 0), 1, 8) := by kernel_rfl

/-- 'out = append(out, d)' on the call's own slice. -/
theorem wpList_app1 {ops : Array Oper} {rest : List Oper} {o : Oper} {a : Act} {Q : Exit → Act → World → Prop} {wr : World} (hgd : o.guard = none) (s x : Operand)
    (ho : o.op = .call { callee := .builtin .append, args := #[s, x], argTypes := #[33, 33] })
    (base : Nat) (v : Value) (l : List Nat) (d : Nat) (z : Int) (hz : z = (d : Int)) (hs : a.eval s = v) (hown : Own base wr v l)
    (hx : a.eval x = .slice (some ⟨wr.heap.size, 0, none⟩) 1 1) (hlen : l.length ≤ 1000000) (hbase : base ≤ wr.heap.size)
    (h : ∀ v' w', Own base w' v' (l ++ [d]) → Below base wr w' → wpList Tryd.prog ops Q rest (a.put o.dst v') w') :
    wpList Tryd.prog ops Q (o :: rest) a (wr.alloc (.cells #[.int .i64 z] 3)) := by
  subst hz
  obtain ⟨i0, hi, hz0, hz1, hz2⟩ := info_parts info_int
  refine wpList_append_own _ hgd s x 33 ho base 3 i0 (.int .i64 0) 1 8 Tryd.underlying33 hi hz0 hz1 hz2 rfl (by decide) v _ _ hs (hown.alloc _) ⟨wr.heap.size, 0, none⟩ 1 1 [.int .i64 (d : Int)] hx rfl ?_ ?_ ?_ ?_ ?_ ?_
  · intro j u hj
    match j, hj with
    | 0, hj => simp at hj; subst hj; simp [Addr.add]
  · intro u hu; simp at hu; subst hu; rfl
  · unfold maxLen; omega
  · omega
  · simp; omega
  · intro v' w' h1 h2 _
    refine h v' w' ?_ ?_
    · unfold Own
      have e : dv (l ++ [d]) = dv l ++ [.int .i64 (d : Int)] := by simp [dv]
      rw [e]
      simpa using h1
    · refine Below.grown (Below.alloc (Below.refl _ _) hbase _) h2 (by simp; omega) ?_
      intro k hk
      rcases hown.2 with ⟨e, _⟩ | ⟨g, cap, cur, e, hg, _⟩
      · rw [e] at hk; simp [Value.ownBlock] at hk
      · rw [e] at hk; simp [Value.ownBlock] at hk; omega

end Go.Proofs.YtkbiiolkekpkiaaDoor
