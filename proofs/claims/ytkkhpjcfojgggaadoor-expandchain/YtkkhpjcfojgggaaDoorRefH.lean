/-
  The contracts of the document's own Sub and Bit over digits of 24 bits: the difference of two numbers, a number's bit. Conditions: as each theorem says.
-/
import Derived.Test.YtkkhpjcfojgggaaDoorRefG
namespace Go.Proofs.YtkkhpjcfojgggaaDoor
open Go.RowKit
set_option linter.unusedVariables false

/-- A difference's state behind i digits, c borrowed. -/
def SubAt (la lb : List Nat) (i c : Nat) (o : List Nat) : Prop :=
  o.length = i ∧ Dg o ∧ c ≤ 1 ∧ valD (la.take i) + 16777216 ^ i * c = valD (lb.take i) + valD o
theorem SubAt.step {la lb : List Nat} {i c : Nat} {o : List Nat} (h : SubAt la lb i c o) (x y d c' : Nat) (hx : la.getD i 0 = x) (hy : lb.getD i 0 = y) (hd : d < 16777216) (hc : c' ≤ 1) (he : x + 16777216 * c' = y + c + d) :
    SubAt la lb (i + 1) c' (o ++ [d]) := by
  obtain ⟨h1, h2, h3, h4⟩ := h
  refine ⟨by simp [h1], h2.snoc hd, hc, ?_⟩
  rw [valD_snoc, valD_take, valD_take, h1, hx, hy, Nat.pow_succ, Nat.mul_assoc]
  have e : 16777216 ^ i * x + 16777216 ^ i * (16777216 * c') = 16777216 ^ i * y + 16777216 ^ i * c + 16777216 ^ i * d := by
    rw [← Nat.mul_add, he, Nat.mul_add, Nat.mul_add]
  omega
theorem SubAt.done {la lb : List Nat} {c : Nat} {o : List Nat} (h : SubAt la lb la.length c o) (hl : lb.length ≤ la.length) (hle : valD lb ≤ valD la) : valD o = valD la - valD lb := by
  obtain ⟨h1, h2, h3, h4⟩ := h
  have hlt := valD_lt o h2
  rw [h1] at hlt
  rw [List.take_length, valD_take_all lb _ hl] at h4
  rcases Nat.lt_or_ge 0 c with hc | hc
  · obtain rfl : c = 1 := by omega
    rw [Nat.mul_one] at h4
    omega
  · obtain rfl : c = 0 := by omega
    rw [Nat.mul_zero] at h4
    omega

end Go.Proofs.YtkkhpjcfojgggaaDoor
