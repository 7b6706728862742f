/-
  The contracts of the document's own Down and Bits over digits of 24 bits: a number through a power of two, how many bits it has. Conditions: as each theorem says.
-/
import Derived.Test.YtkkhpjcfojgggaaDoorRefH
import Derived.Test.YtkkhpjcfojgggaaDoorBackV
namespace Go.Proofs.YtkkhpjcfojgggaaDoor
open Go.RowKit
set_option linter.unusedVariables false

theorem down_split (la : List Nat) (hd : Dg la) (q r : Nat) : valD la / 2 ^ (24 * q + r) = valD (la.drop q) / 2 ^ r := by
  rw [Nat.pow_add, Nat.pow_mul, ← Nat.div_div_eq_div_mul, show (2 : Nat) ^ 24 = 16777216 from by decide]
  congr 1
  have h2 := valD_take_lt la hd q
  rw [valD_split la q, Nat.add_mul_div_left _ _ (Nat.pow_pos (by omega)), Nat.div_eq_of_lt h2, Nat.zero_add]
theorem valD_drop (la : List Nat) (i : Nat) : valD (la.drop i) = la.getD i 0 + 16777216 * valD (la.drop (i + 1)) := by
  by_cases h : i < la.length
  · rw [List.drop_eq_getElem_cons h, valD, List.getD_eq_getElem?_getD, List.getElem?_eq_getElem h]; rfl
  · rw [List.drop_eq_nil_of_le (by omega), List.drop_eq_nil_of_le (by omega), getD_ge la i (by omega)]; rfl
theorem down_step (x y k up R : Nat) (hk : 0 < k) (hku : k * up = 16777216) : (x + 16777216 * (y + 16777216 * R)) / k = (x / k + y % k * up) + 16777216 * ((y + 16777216 * R) / k) := by
  have hm : (y + 16777216 * R) % k = y % k := by rw [← hku, Nat.mul_assoc, Nat.add_mul_mod_self_left]
  generalize hS : y + 16777216 * R = S at hm ⊢
  have e := Nat.div_add_mod S k
  rw [hm] at e
  have e1 : (x + 16777216 * S) / k = x / k + up * S := by rw [← hku, Nat.mul_assoc, Nat.add_mul_div_left _ _ hk]
  have e2 : up * S = 16777216 * (S / k) + y % k * up := by
    rw [← hku, Nat.mul_comm k up, Nat.mul_assoc, Nat.mul_comm (y % k) up, ← Nat.mul_add, e]
  rw [e1, e2]; omega
theorem down_digit (x y k up : Nat) (hx : x < 16777216) (hk : 0 < k) (hku : k * up = 16777216) : x / k + y % k * up < 16777216 := by
  have h1 : x / k < up := by rw [Nat.div_lt_iff_lt_mul hk, Nat.mul_comm]; omega
  have h2 : y % k + 1 ≤ k := Nat.mod_lt _ hk
  have h3 : (y % k + 1) * up ≤ k * up := Nat.mul_le_mul_right up h2
  rw [Nat.add_mul, hku] at h3
  omega
/-- The digits o stand, and what is left of la behind its i-th digit. -/
def DownAt (la : List Nat) (N q r i : Nat) (o : List Nat) : Prop :=
  o.length + q = i ∧ Dg o ∧ N = valD o + 16777216 ^ o.length * (valD (la.drop i) / 2 ^ r)
theorem DownAt.step {la : List Nat} {N q r i : Nat} {o : List Nat} (h : DownAt la N q r i o) (hd : Dg la) (x y k up d : Nat) (hx : la.getD i 0 = x) (hy : la.getD (i + 1) 0 = y) (hk : k = 2 ^ r) (hku : k * up = 16777216) (he : d = x / k + y % k * up) :
    DownAt la N q r (i + 1) (o ++ [d]) := by
  obtain ⟨h1, h2, h3⟩ := h
  have hk0 : 0 < k := by rw [hk]; exact Nat.two_pow_pos r
  have hd' : d < 16777216 := by rw [he]; exact down_digit x y k up (by rw [← hx]; exact hd i) hk0 hku
  refine ⟨by simp; omega, h2.snoc hd', ?_⟩
  rw [h3, valD_snoc, valD_drop la i, valD_drop la (i + 1), hx, hy, ← hk, down_step x y k up _ hk0 hku, ← he, List.length_append, List.length_singleton, Nat.pow_succ, Nat.mul_add, Nat.mul_assoc]
  omega

theorem pow_up (r : Nat) (hr : r < 24) : 2 ^ r * 2 ^ (24 - r) = 16777216 := by rw [← Nat.pow_add, show r + (24 - r) = 24 by omega]

theorem nbits_half (x : Nat) (h : 0 < x) : nbits x = nbits (x / 2) + 1 := by
  by_cases h1 : x / 2 = 0
  · obtain rfl : x = 1 := by omega
    decide
  · have := nbits_shift x 1 (by simpa using h1)
    simp at this
    omega
theorem nbits_top (la : List Nat) (hd : Dg la) (hz : Nz la) (h0 : 0 < la.length) : nbits (valD la) = 24 * (la.length - 1) + nbits (la.getD (la.length - 1) 0) := by
  have hs := down_split la hd (la.length - 1) 0
  rw [valD_drop la (la.length - 1), List.drop_eq_nil_of_le (by omega)] at hs
  simp only [Nat.add_zero, Nat.pow_zero, Nat.div_one, valD, Nat.mul_zero] at hs
  rcases hz with e | hz
  · rw [e] at h0; simp at h0
  · rw [nbits_shift (valD la) (24 * (la.length - 1)) (by rw [hs]; exact hz), hs]

end Go.Proofs.YtkkhpjcfojgggaaDoor
