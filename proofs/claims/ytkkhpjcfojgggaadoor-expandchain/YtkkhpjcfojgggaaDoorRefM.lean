/-
  A row of memory that a call has made, cell by cell; and the plain arithmetic of the document's own Mul over digits of 24 bits. Conditions: none beyond those written.
-/
import Derived.Test.YtkkhpjcfojgggaaDoorRefB
namespace Go.Proofs.YtkkhpjcfojgggaaDoor
open Go.RowKit
set_option linter.unusedVariables false

/-- Block g, one of the call's own, holds the numbers l. -/
structure Row (k : IntKind) (base g : Nat) (l : List Nat) (W : World) : Prop where
  cell : ∀ j, j < l.length → W.cell? ⟨g, j, none⟩ = some (.int k (l.getD j 0 : Int))
  free : ∀ j, W.frozen? ⟨g, j, none⟩ = false
  lt : g < W.heap.size
  ge : base ≤ g
theorem Row.drew {k : IntKind} {base g : Nat} {l : List Nat} {W : World} (h : Row k base g l W) : Row k base g l W.drew := ⟨h.cell, h.free, h.lt, h.ge⟩
theorem getD_set (l : List Nat) (i j v : Nat) (hi : i < l.length) : (l.set i v).getD j 0 = if j = i then v else l.getD j 0 := by
  simp only [List.getD_eq_getElem?_getD, List.getElem?_set]
  by_cases e : j = i
  · subst e; simp [hi]
  · rw [if_neg (fun q => e q.symm), if_neg e]
theorem Row.set {k : IntKind} {base g : Nat} {l : List Nat} {W : World} (h : Row k base g l W) (i v : Nat) (hi : i < l.length) : Row k base g (l.set i v) (W.setCell ⟨g, i, none⟩ (.int k (v : Int))) := by
  refine ⟨fun j hj => ?_, fun j => ?_, by simpa using h.lt, h.ge⟩
  · rw [List.length_set] at hj
    rw [getD_set l i j v hi]
    by_cases e : j = i
    · subst e
      rw [World.cell?_setCell_same _ _ _ (h.cell j hj), if_pos rfl]
    · rw [World.cell?_setCell_other _ _ _ _ (fun q => e (by simpa using (congrArg Addr.off q).symm)), h.cell j hj, if_neg e]
  · rw [← h.free j]; simp
theorem Row.below {k : IntKind} {base g : Nat} {l : List Nat} {W W' : World} (h : Row k base g l W) (hb : Below W.heap.size W W') : Row k base g l W' :=
  ⟨fun j hj => (hb.cell (p := ⟨g, j, none⟩) h.lt).trans (h.cell j hj), fun j => (hb.frozen (p := ⟨g, j, none⟩) h.lt).trans (h.free j), Nat.lt_of_lt_of_le h.lt hb.size, h.ge⟩
theorem Row.made {k : IntKind} (W : World) (n : Nat) (t : TypeId) : Row k W.heap.size W.heap.size (List.replicate n 0) (W.alloc (.cells (madeCells #[.int k 0] n) t)) := by
  refine ⟨fun j hj => ?_, fun j => by simp [go_sem], by simp, Nat.le_refl _⟩
  simp at hj
  rw [World.cell?_alloc_at (w := W) _ _ _ _ rfl]
  simp [madeCells, hj, List.getD_eq_getElem?_getD, Nat.mod_one]
theorem Row.sl {base g : Nat} {l : List Nat} {W : World} (h : Row .i64 base g l W) : Sl W (.slice (some ⟨g, 0, none⟩) l.length l.length) l :=
  ⟨some ⟨g, 0, none⟩, l.length, rfl, Nat.le_refl _, fun h => by simp at h, fun j hj => ⟨g, 0, rfl, h.lt, by rw [Nat.zero_add]; exact h.cell j hj⟩⟩

theorem valD_set : ∀ (l : List Nat) (p d : Nat), p < l.length → valD (l.set p d) + 16777216 ^ p * l.getD p 0 = valD l + 16777216 ^ p * d
  | [], p, d, h => by simp at h
  | x :: l, 0, d, h => by simp [valD]; omega
  | x :: l, p + 1, d, h => by
    have ih := valD_set l p d (by simpa using h)
    simp only [List.set_cons_succ, valD, List.getD_cons_succ, Nat.pow_succ]
    rw [Nat.mul_comm (16777216 ^ p) 16777216, Nat.mul_assoc, Nat.mul_assoc]
    omega
theorem valD_zeros : ∀ (n : Nat), valD (List.replicate n 0) = 0
  | 0 => rfl
  | n + 1 => by simp only [List.replicate_succ, valD, valD_zeros n]
theorem Dg.set {l : List Nat} {p d : Nat} (h : Dg l) (hp : p < l.length) (hd : d < 16777216) : Dg (l.set p d) := fun j => by
  rw [getD_set l p j d hp]; split
  · exact hd
  · exact h j

/-- A product's state, i rows and j digits of the next one done, c carried. -/
def MulAt (la lb : List Nat) (i j c : Nat) (o : List Nat) : Prop :=
  o.length = la.length + lb.length + 1 ∧ Dg o ∧ c < 16777216 ∧ (∀ p, i + lb.length ≤ p → o.getD p 0 = 0) ∧
    valD o + 16777216 ^ (i + j) * c = valD (la.take i) * valD lb + 16777216 ^ i * (la.getD i 0 * valD (lb.take j))
theorem MulAt.step {la lb : List Nat} {i j c : Nat} {o : List Nat} (h : MulAt la lb i j c o) (hi : i < la.length) (hj : j < lb.length) (hda : Dg la) (hdb : Dg lb) (q x y : Nat)
    (hq : o.getD (i + j) 0 = q) (hx : la.getD i 0 = x) (hy : lb.getD j 0 = y) :
    MulAt la lb i (j + 1) ((c + q + x * y) / 16777216) (o.set (i + j) ((c + q + x * y) % 16777216)) := by
  obtain ⟨h1, h2, h3, h4, h5⟩ := h
  have hql : q < 16777216 := by rw [← hq]; exact h2 _
  have hxl : x ≤ 16777215 := by rw [← hx]; have := hda i; omega
  have hyl : y ≤ 16777215 := by rw [← hy]; have := hdb j; omega
  have hxy : x * y ≤ 281474943156225 := by have := Nat.mul_le_mul hxl hyl; omega
  refine ⟨by rw [List.length_set]; exact h1, h2.set (by omega) (Nat.mod_lt _ (by omega)), by omega, fun p hp => ?_, ?_⟩
  · rw [getD_set _ _ _ _ (by omega), if_neg (by omega)]; exact h4 p hp
  · have e := valD_set o (i + j) ((c + q + x * y) % 16777216) (by omega)
    rw [hq] at e
    rw [hx] at h5 ⊢
    rw [valD_take lb j, hy, Nat.mul_add x, Nat.mul_add (16777216 ^ i), ← Nat.add_assoc (valD (la.take i) * valD lb), ← h5]
    have e2 : 16777216 ^ i * (x * (16777216 ^ j * y)) = 16777216 ^ (i + j) * (x * y) := by rw [Nat.pow_add, Nat.mul_left_comm x, Nat.mul_assoc]
    rw [e2, ← Nat.add_assoc i j 1, Nat.pow_succ, Nat.mul_assoc]
    generalize 16777216 ^ (i + j) = P at *
    have e3 : P * ((c + q + x * y) % 16777216) + P * (16777216 * ((c + q + x * y) / 16777216)) = P * c + P * q + P * (x * y) := by
      rw [← Nat.mul_add, Nat.mod_add_div, Nat.mul_add, Nat.mul_add]
    omega
theorem MulAt.row {la lb : List Nat} {i c : Nat} {o : List Nat} (h : MulAt la lb i lb.length c o) (hi : i < la.length) : o.getD (i + lb.length) 0 = 0 ∧ MulAt la lb (i + 1) 0 0 (o.set (i + lb.length) c) := by
  obtain ⟨h1, h2, h3, h4, h5⟩ := h
  have hz := h4 (i + lb.length) (Nat.le_refl _)
  refine ⟨hz, by rw [List.length_set]; exact h1, h2.set (by omega) h3, by omega, fun p hp => ?_, ?_⟩
  · rw [getD_set _ _ _ _ (by omega), if_neg (by omega)]; exact h4 p (by omega)
  · have e := valD_set o (i + lb.length) c (by omega)
    rw [hz, Nat.mul_zero, Nat.add_zero] at e
    rw [List.take_length] at h5
    rw [valD_take la i, Nat.add_mul, Nat.mul_assoc, e, h5, Nat.mul_zero, Nat.add_zero, List.take_zero, show valD [] = 0 from rfl, Nat.mul_zero, Nat.mul_zero, Nat.add_zero]
theorem MulAt.start (la lb : List Nat) : MulAt la lb 0 0 0 (List.replicate (la.length + lb.length + 1) 0) := by
  refine ⟨by simp, fun j => ?_, by omega, fun p _ => ?_, by rw [valD_zeros, List.take_zero, List.take_zero, show valD [] = 0 from rfl, Nat.mul_zero, Nat.zero_mul, Nat.mul_zero, Nat.mul_zero]⟩
  · rw [List.getD_eq_getElem?_getD, List.getElem?_replicate]; split <;> simp
  · rw [List.getD_eq_getElem?_getD, List.getElem?_replicate]; split <;> simp
theorem MulAt.done {la lb o : List Nat} {c : Nat} (h : MulAt la lb la.length 0 c o) (hc : c = 0) : valD o = valD la * valD lb := by
  obtain ⟨h1, h2, h3, h4, h5⟩ := h
  subst hc
  rw [List.take_length, List.take_zero, show valD [] = 0 from rfl, Nat.mul_zero, Nat.mul_zero, Nat.mul_zero, Nat.add_zero, Nat.add_zero] at h5
  exact h5

end Go.Proofs.YtkkhpjcfojgggaaDoor
