/-
  The plain arithmetic of the law LimbBack: sums, differences, shifts, bits, bytes and products of numbers below 2^256. No program is spoken of here.
-/
import Derived.Test.YtkbiiolkekpkiaaDoorBitz
namespace Go.Proofs.YtkbiiolkekpkiaaDoor
set_option linter.unusedVariables false

theorem back_sub (x y : Nat) (hx : x < M4) (hy : y < M4) : ((x + y) % M4 + M4 - y) % M4 = x ∧ bor ((x + y) % M4) y = (((x + y) / M4 : Nat) : Int) := by
  unfold M4 bor at *
  refine ⟨by omega, ?_⟩
  split <;> omega

theorem back_bytes (x : Nat) (hx : x < M4) (f : Nat → Int) (h : ∀ j, j < 32 → f j = byteAt x j) : vb f 32 = x := by
  rw [vb_congr f (byteAt x) 32 h, vb_byteAt, Nat.mod_eq_of_lt]
  unfold M4 at hx
  have : (256 : Nat) ^ 32 = 115792089237316195423570985008687907853269984665640564039457584007913129639936 := by decide
  omega

theorem div_lt_M4 (x n : Nat) (hx : x < M4) : x / 2 ^ n < M4 := Nat.lt_of_le_of_lt (Nat.div_le_self _ _) hx
theorem mod_M4 (x : Nat) : x % M4 < M4 := Nat.mod_lt _ (by unfold M4; omega)
theorem right_val (x n : Nat) (hx : x < M4) : x / 2 ^ n % M4 = x / 2 ^ n := Nat.mod_eq_of_lt (div_lt_M4 x n hx)

/-- What is shifted there and back, and there and back again, is as after the first time. -/
theorem back_shift (l n : Nat) (hl : l < M4) : l / 2 ^ n * 2 ^ n % M4 / 2 ^ n = l / 2 ^ n := by
  have h : l / 2 ^ n * 2 ^ n < M4 := Nat.lt_of_le_of_lt (Nat.div_mul_le_self l (2 ^ n)) hl
  rw [Nat.mod_eq_of_lt h, Nat.mul_div_cancel _ (Nat.two_pow_pos n)]

theorem nbits_down (x n : Nat) : nbits (x / 2 ^ n) = nbits x - n := by
  by_cases h : x / 2 ^ n = 0
  · rw [h, nbits_zero]
    have h2 : x < 2 ^ n := by
      rcases Nat.lt_or_ge x (2 ^ n) with h' | h'
      · exact h'
      · have := Nat.div_pos h' (Nat.two_pow_pos n)
        omega
    have := nbits_le x n h2
    omega
  · have := nbits_shift x n h
    omega

theorem back_mul (x y u : Nat) : (x * u % M4 + y * u % M4) % M4 = (x + y) % M4 * u % M4 := by
  rw [← Nat.add_mod, ← Nat.add_mul, Nat.mod_mul_mod]

end Go.Proofs.YtkbiiolkekpkiaaDoor
