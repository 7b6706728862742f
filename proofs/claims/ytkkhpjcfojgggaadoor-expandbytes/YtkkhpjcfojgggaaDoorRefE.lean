/-
  The plain arithmetic of the document's own ToWords: a number's words out of its bits. Conditions: none beyond those written.
-/
import Derived.Test.YtkkhpjcfojgggaaDoorRefD
namespace Go.Proofs.YtkkhpjcfojgggaaDoor
open Go.RowKit
set_option linter.unusedVariables false

theorem valW_set : ∀ (l : List Nat) (p d : Nat), p < l.length → valW (l.set p d) + 18446744073709551616 ^ p * l.getD p 0 = valW l + 18446744073709551616 ^ p * d
  | [], p, d, h => by simp at h
  | x :: l, 0, d, h => by simp [valW]; omega
  | x :: l, p + 1, d, h => by
    have ih := valW_set l p d (by simpa using h)
    simp only [List.set_cons_succ, valW, List.getD_cons_succ, Nat.pow_succ]
    rw [Nat.mul_comm (18446744073709551616 ^ p) 18446744073709551616, Nat.mul_assoc, Nat.mul_assoc]
    omega
theorem valW_ge : ∀ (l : List Nat) (p : Nat), 18446744073709551616 ^ p * l.getD p 0 ≤ valW l
  | [], p => by simp [valW]
  | x :: l, 0 => by simp [valW]
  | x :: l, p + 1 => by
    have ih := valW_ge l p
    simp only [valW, List.getD_cons_succ, Nat.pow_succ]
    rw [Nat.mul_comm (18446744073709551616 ^ p) 18446744073709551616, Nat.mul_assoc]
    omega
theorem valW_zeros : ∀ (n : Nat), valW (List.replicate n 0) = 0
  | 0 => rfl
  | n + 1 => by simp only [List.replicate_succ, valW, valW_zeros n]

/-- The first t bits of N stand in the words o, of which there are n. -/
def TW (N n t : Nat) (o : List Nat) : Prop := o.length = n ∧ Ww o ∧ valW o = N % 2 ^ (min t (64 * n))
theorem TW.start (N n : Nat) : TW N n 0 (List.replicate n 0) := by
  refine ⟨by simp, fun j => ?_, ?_⟩
  · rw [List.getD_eq_getElem?_getD, List.getElem?_replicate]; split <;> simp
  · rw [valW_zeros, Nat.zero_min, Nat.pow_zero, Nat.mod_one]
theorem mod_succ (N t : Nat) : N % 2 ^ (t + 1) = N % 2 ^ t + 2 ^ t * (N / 2 ^ t % 2) := by rw [Nat.pow_succ, Nat.mod_mul]
theorem TW.none {N n t : Nat} {o : List Nat} (h : TW N n t o) (hb : N / 2 ^ t % 2 = 0 ∨ 64 * n ≤ t) : TW N n (t + 1) o := by
  refine ⟨h.1, h.2.1, ?_⟩
  rw [h.2.2]
  by_cases ht : t < 64 * n
  · rw [Nat.min_eq_left (by omega), Nat.min_eq_left (by omega), mod_succ]
    have : N / 2 ^ t % 2 = 0 := by omega
    rw [this, Nat.mul_zero, Nat.add_zero]
  · rw [Nat.min_eq_right (by omega), Nat.min_eq_right (by omega)]
theorem pow64 (t : Nat) : 18446744073709551616 ^ (t / 64) * 2 ^ (t % 64) = 2 ^ t := by
  rw [show (18446744073709551616 : Nat) = 2 ^ 64 from by decide, ← Nat.pow_mul, ← Nat.pow_add, Nat.div_add_mod]
theorem TW.room {N n t : Nat} {o : List Nat} (h : TW N n t o) (ht : t < 64 * n) : o.getD (t / 64) 0 + 2 ^ (t % 64) < 18446744073709551616 := by
  have h1 := valW_ge o (t / 64)
  rw [h.2.2, Nat.min_eq_left (by omega)] at h1
  have h2 : N % 2 ^ t < 2 ^ t := Nat.mod_lt _ (Nat.two_pow_pos t)
  have h3 : o.getD (t / 64) 0 < 2 ^ (t % 64) := by
    rw [← pow64 t] at h2
    exact Nat.lt_of_mul_lt_mul_left (Nat.lt_of_le_of_lt h1 (by rw [pow64 t] at h2; rw [pow64 t]; exact h2))
  have h4 : 2 ^ (t % 64) * 2 ≤ 2 ^ 64 := by rw [← Nat.pow_succ]; exact Nat.pow_le_pow_right (by omega) (by omega)
  omega
theorem TW.bit {N n t : Nat} {o : List Nat} (h : TW N n t o) (ht : t < 64 * n) (hb : N / 2 ^ t % 2 = 1) : TW N n (t + 1) (o.set (t / 64) (o.getD (t / 64) 0 + 2 ^ (t % 64))) := by
  have hp : t / 64 < o.length := by rw [h.1]; omega
  have hr := h.room ht
  refine ⟨by rw [List.length_set]; exact h.1, fun j => ?_, ?_⟩
  · rw [getD_set _ _ _ _ hp]; split
    · exact hr
    · exact h.2.1 j
  · have e := valW_set o (t / 64) (o.getD (t / 64) 0 + 2 ^ (t % 64)) hp
    rw [Nat.mul_add, pow64, h.2.2, Nat.min_eq_left (by omega)] at e
    rw [Nat.min_eq_left (by omega), mod_succ, hb, Nat.mul_one]
    omega
theorem TW.done {N n t : Nat} {o : List Nat} (h : TW N n t o) (hN : N < 2 ^ t) : valW o = N % 2 ^ (64 * n) := by
  rw [h.2.2]
  by_cases ht : t ≤ 64 * n
  · rw [Nat.min_eq_left ht, Nat.mod_eq_of_lt hN, Nat.mod_eq_of_lt (Nat.lt_of_lt_of_le hN (Nat.pow_le_pow_right (by omega) ht))]
  · rw [Nat.min_eq_right (by omega)]

/-- The bits of a digit are the number's. -/
theorem digit_bit (l : List Nat) (hd : Dg l) (i k : Nat) (hk : k < 24) : valD l / 2 ^ (24 * i + k) % 2 = l.getD i 0 / 2 ^ k % 2 := by
  have hsplit : valD l = valD (l.take i) + 16777216 ^ i * valD (l.drop i) := by
    by_cases hi : i ≤ l.length
    · have := valD_append (l.take i) (l.drop i)
      rw [List.take_append_drop, List.length_take, Nat.min_eq_left hi] at this
      exact this
    · rw [List.take_of_length_le (by omega), List.drop_eq_nil_of_le (by omega)]
      simp [valD]
  have hlt : valD (l.take i) < 16777216 ^ i := by
    have h := valD_lt (l.take i) (fun j => by
      rw [List.getD_eq_getElem?_getD, List.getElem?_take]
      split
      · have := hd j; rwa [List.getD_eq_getElem?_getD] at this
      · simp)
    refine Nat.lt_of_lt_of_le h (Nat.pow_le_pow_right (by omega) ?_)
    rw [List.length_take]; omega
  have hq : valD l / 2 ^ (24 * i) = valD (l.drop i) := by
    rw [hsplit, show (2 : Nat) ^ (24 * i) = 16777216 ^ i by rw [Nat.pow_mul], Nat.add_comm, Nat.mul_add_div (Nat.pos_of_ne_zero (by simp)), Nat.div_eq_of_lt hlt, Nat.add_zero]
  have hdrop : ∃ r, valD (l.drop i) = l.getD i 0 + 16777216 * r := by
    by_cases hi : i < l.length
    · rw [List.drop_eq_getElem_cons hi]
      exact ⟨valD (l.drop (i + 1)), by simp [valD, List.getD_eq_getElem?_getD, hi]⟩
    · rw [List.drop_eq_nil_of_le (by omega), getD_ge l i (by omega)]
      exact ⟨0, by simp [valD]⟩
  obtain ⟨r, hr⟩ := hdrop
  rw [Nat.pow_add, ← Nat.div_div_eq_div_mul, hq, hr]
  have e : (16777216 : Nat) * r = 2 ^ k * (2 * (2 ^ (23 - k) * r)) := by
    rw [← Nat.mul_assoc 2, ← Nat.pow_succ', ← Nat.mul_assoc, ← Nat.pow_add, show k + (23 - k).succ = 24 by omega]
  rw [e, Nat.add_mul_div_left _ _ (Nat.two_pow_pos k), Nat.add_mul_mod_self_left]

end Go.Proofs.YtkkhpjcfojgggaaDoor
