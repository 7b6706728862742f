/-
  The contracts of the document's own Cmp, Sub and Bit over digits of 24 bits: the order of two numbers, their difference, a number's bit. Conditions: as each theorem says.
-/
import Derived.Test.YtkkhpjcfojgggaaDoorRefF
import Derived.Test.YtkkhpjcfojgggaaDoorOrd
namespace Go.Proofs.YtkkhpjcfojgggaaDoor
open Go.RowKit
set_option linter.unusedVariables false

theorem valD_split (l : List Nat) (i : Nat) : valD l = valD (l.take i) + 16777216 ^ i * valD (l.drop i) := by
  by_cases hi : i ≤ l.length
  · have := valD_append (l.take i) (l.drop i)
    rw [List.take_append_drop, List.length_take, Nat.min_eq_left hi] at this
    exact this
  · rw [List.take_of_length_le (by omega), List.drop_eq_nil_of_le (by omega)]
    simp [valD]
theorem valD_take_lt (l : List Nat) (hd : Dg l) (i : Nat) : valD (l.take i) < 16777216 ^ i := by
  have h := valD_lt (l.take i) (fun j => by
    rw [List.getD_eq_getElem?_getD, List.getElem?_take]
    split
    · have := hd j; rwa [List.getD_eq_getElem?_getD] at this
    · simp)
  refine Nat.lt_of_lt_of_le h (Nat.pow_le_pow_right (by omega) ?_)
  rw [List.length_take]; omega
theorem drop_eq_of (la lb : List Nat) (hl : la.length = lb.length) (k : Nat) (h : ∀ j, k ≤ j → la.getD j 0 = lb.getD j 0) : la.drop k = lb.drop k := by
  apply List.ext_getElem?
  intro j
  rw [List.getElem?_drop, List.getElem?_drop]
  have := h (k + j) (by omega)
  rw [List.getD_eq_getElem?_getD, List.getD_eq_getElem?_getD] at this
  by_cases hj : k + j < la.length
  · have hj' : k + j < lb.length := by omega
    rw [List.getElem?_eq_getElem hj, List.getElem?_eq_getElem hj'] at this ⊢
    simpa using this
  · rw [List.getElem?_eq_none (by omega), List.getElem?_eq_none (by omega)]
theorem cmpD_lt (la lb : List Nat) (hl : la.length = lb.length) (hda : Dg la) (hdb : Dg lb) (k : Nat) (h : ∀ j, k + 1 ≤ j → la.getD j 0 = lb.getD j 0) (hk : la.getD k 0 < lb.getD k 0) : valD la < valD lb := by
  rw [valD_split la (k + 1), valD_split lb (k + 1), drop_eq_of la lb hl (k + 1) h, valD_take, valD_take]
  have h1 := valD_take_lt la hda k
  have h2 : 16777216 ^ k * (la.getD k 0 + 1) ≤ 16777216 ^ k * lb.getD k 0 := Nat.mul_le_mul_left _ (by omega)
  rw [Nat.mul_add, Nat.mul_one] at h2
  omega
theorem lenD_lt (la lb : List Nat) (hda : Dg la) (hz : Nz lb) (h : la.length < lb.length) : valD la < valD lb := by
  have h1 := valD_lt la hda
  rcases hz with e | e
  · rw [e] at h; simp at h
  · have ht := valD_take lb (lb.length - 1)
    rw [show lb.length - 1 + 1 = lb.length by omega, List.take_length] at ht
    have hp : 16777216 ^ la.length ≤ 16777216 ^ (lb.length - 1) := Nat.pow_le_pow_right (by omega) (by omega)
    have hm : 16777216 ^ (lb.length - 1) * 1 ≤ 16777216 ^ (lb.length - 1) * lb.getD (lb.length - 1) 0 := Nat.mul_le_mul_left _ (by omega)
    generalize 16777216 ^ (lb.length - 1) = P at *
    omega
theorem eqD (la lb : List Nat) (hl : la.length = lb.length) (h : ∀ j, 0 ≤ j → la.getD j 0 = lb.getD j 0) : valD la = valD lb := by
  have := drop_eq_of la lb hl 0 h
  rw [List.drop_zero, List.drop_zero] at this
  rw [this]

end Go.Proofs.YtkkhpjcfojgggaaDoor
