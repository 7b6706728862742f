/-
  Numbers modulo an odd number below 2^256, as Montgomery's products go through them: pure facts of naturals and integers. Conditions: as each theorem says.
-/
import Derived.Test.YtkbiiolkekpkiaaDoorFour
namespace Go.Proofs.YtkbiiolkekpkiaaDoor
open Go.RowKit
set_option linter.unusedVariables false

theorem M4_pow : M4 = 2 ^ 256 := by unfold M4; decide
theorem M4_pos : 0 < M4 := by unfold M4; omega

/-- What 2^256 is 1 by, modulo an odd number. -/
def ri (m : Nat) : Nat := ((m + 1) / 2) ^ 256

/-- A number by 2^256, modulo m. -/
def red (m x : Nat) : Nat := x * ri m % m

theorem mul_mod_left' (a b m : Nat) : (a % m) * b % m = a * b % m := by rw [Nat.mul_mod, Nat.mod_mod, ← Nat.mul_mod]
theorem mul_mod_right' (a b m : Nat) : a * (b % m) % m = a * b % m := by rw [Nat.mul_mod, Nat.mod_mod, ← Nat.mul_mod]

theorem ri_one (m : Nat) (ho : m % 2 = 1) (hm : 1 < m) : M4 * ri m % m = 1 := by
  rw [M4_pow]
  unfold ri
  rw [← Nat.mul_pow, show 2 * ((m + 1) / 2) = m + 1 by omega, Nat.pow_mod, Nat.add_mod_left, Nat.mod_eq_of_lt hm, Nat.one_pow, Nat.mod_eq_of_lt hm]

theorem red_lt (m x : Nat) (hm : 1 < m) : red m x < m := Nat.mod_lt _ (by omega)
theorem red_mod (m x : Nat) : red m (x % m) = red m x := mul_mod_left' _ _ _
theorem red_mul_left (m x y : Nat) : red m ((x % m) * y) = red m (x * y) := by
  rw [← red_mod, mul_mod_left', red_mod]
theorem red_mul_right (m x y : Nat) : red m (x * (y % m)) = red m (x * y) := by
  rw [← red_mod, mul_mod_right', red_mod]
/-- A multiple of 2^256. -/
theorem red_up (m x : Nat) (ho : m % 2 = 1) (hm : 1 < m) : red m (x * M4) = x % m := by
  unfold red
  rw [Nat.mul_assoc, ← mul_mod_right', ri_one m ho hm, Nat.mul_one]
theorem red_of (m T X : Nat) (ho : m % 2 = 1) (hm : 1 < m) (h : T * M4 % m = X % m) : T % m = red m X := by
  rw [← red_up m T ho hm, ← red_mod m (T * M4), h, red_mod]
theorem up_red (m x : Nat) (ho : m % 2 = 1) (hm : 1 < m) : red m x * M4 % m = x % m := by
  unfold red
  rw [mul_mod_left', Nat.mul_assoc, Nat.mul_comm (ri m) M4, ← mul_mod_right', ri_one m ho hm, Nat.mul_one]

/-- What a product by Montgomery's way comes to. -/
theorem mont_end (m a b T q : Nat) (ho : m % 2 = 1) (hm : 1 < m) (hq : q < M4) (hb : b < M4) (ha : a < M4) (h : a < m ∨ b < m) (hT : T < a + m) (e : T * M4 = a * b + m * q) : T < 2 * m ∧ T % m = red m (a * b) := by
  refine ⟨?_, red_of m T (a * b) ho hm (by rw [e, Nat.add_mul_mod_self_left])⟩
  rcases h with h | h
  · omega
  · have h1 : a * b + m * q < M4 * (2 * m) := by
      have h2 : a * b ≤ M4 * b := Nat.mul_le_mul_right _ (by omega)
      have h3 : M4 * b < M4 * m := Nat.mul_lt_mul_of_pos_left h M4_pos
      have h4 : m * q ≤ m * M4 := Nat.mul_le_mul_left _ (by omega)
      rw [Nat.mul_comm m M4] at h4
      rw [show M4 * (2 * m) = M4 * m + M4 * m by rw [← Nat.mul_assoc, Nat.mul_comm M4 2, Nat.mul_assoc]; omega]
      omega
    rw [← e, Nat.mul_comm T M4] at h1
    exact Nat.lt_of_mul_lt_mul_left h1

/-- One round: what was gathered, a row of the product and a multiple of m, by 2^64. -/
theorem mont_next (m a w ti T T' : Nat) (hw : w < 18446744073709551616) (hti : ti < 18446744073709551616) (hT : T < a + m) (e : T' * 18446744073709551616 = T + a * w + m * ti) : T' < a + m := by
  have h1 : a * w ≤ a * 18446744073709551615 := Nat.mul_le_mul_left _ (by omega)
  have h2 : m * ti ≤ m * 18446744073709551615 := Nat.mul_le_mul_left _ (by omega)
  omega

theorem mul_four (a w0 w1 w2 w3 p q r : Nat) : a * (w0 + p * w1 + q * w2 + r * w3) = a * w0 + p * (a * w1) + q * (a * w2) + r * (a * w3) := by
  rw [Nat.mul_add, Nat.mul_add, Nat.mul_add, Nat.mul_left_comm a p, Nat.mul_left_comm a q, Nat.mul_left_comm a r]

theorem mont_sum (x0 x1 x2 x3 y0 y1 y2 y3 T1 T2 T3 T4 Z : Nat) (hZ : Z = T4 * M4) (e0 : T1 * 18446744073709551616 = 0 + x0 + y0) (e1 : T2 * 18446744073709551616 = T1 + x1 + y1) (e2 : T3 * 18446744073709551616 = T2 + x2 + y2) (e3 : T4 * 18446744073709551616 = T3 + x3 + y3) :
    Z = x0 + 18446744073709551616 * x1 + 340282366920938463463374607431768211456 * x2 + 6277101735386680763835789423207666416102355444464034512896 * x3 + (y0 + 18446744073709551616 * y1 + 340282366920938463463374607431768211456 * y2 + 6277101735386680763835789423207666416102355444464034512896 * y3) := by
  have h : Z = T4 * 115792089237316195423570985008687907853269984665640564039457584007913129639936 := hZ
  clear hZ
  omega

/-- Four rounds. -/
theorem mont_four (m a b w0 w1 w2 w3 s0 s1 s2 s3 T1 T2 T3 T4 : Nat) (hb : b = w0 + 18446744073709551616 * w1 + 340282366920938463463374607431768211456 * w2 + 6277101735386680763835789423207666416102355444464034512896 * w3)
    (e0 : T1 * 18446744073709551616 = 0 + a * w0 + m * s0) (e1 : T2 * 18446744073709551616 = T1 + a * w1 + m * s1) (e2 : T3 * 18446744073709551616 = T2 + a * w2 + m * s2) (e3 : T4 * 18446744073709551616 = T3 + a * w3 + m * s3) :
    T4 * M4 = a * b + m * (s0 + 18446744073709551616 * s1 + 340282366920938463463374607431768211456 * s2 + 6277101735386680763835789423207666416102355444464034512896 * s3) := by
  rw [hb, mul_four, mul_four]
  exact mont_sum _ _ _ _ _ _ _ _ _ _ _ _ _ rfl e0 e1 e2 e3

/-- The lowest word goes. -/
theorem low_goes (m0 k u : Nat) (hk : m0 * k % 18446744073709551616 = 18446744073709551615) : (u + m0 * (u * k % 18446744073709551616)) % 18446744073709551616 = 0 := by
  rw [Nat.add_mod, mul_mod_right', Nat.mul_left_comm, ← mul_mod_right', hk, ← Nat.add_mod, show u + u * 18446744073709551615 = u * 18446744073709551616 by omega, Nat.mul_mod_left]

/-- Newton's way to what an odd word is 1 by. -/
theorem newton (w x : Int) (j : Nat) (h : (w * x - 1) % 2 ^ j = 0) : (w * (x * (2 - w * x)) - 1) % 2 ^ (j + j) = 0 := by
  obtain ⟨t, ht⟩ := Int.dvd_of_emod_eq_zero h
  have e : w * (x * (2 - w * x)) - 1 = 2 ^ (j + j) * (- (t * t)) := by
    have hx : w * x = 1 + 2 ^ j * t := by omega
    rw [← Int.mul_assoc, hx, Int.pow_add]
    have : (1 + 2 ^ j * t) * (2 - (1 + 2 ^ j * t)) - 1 = - ((2 ^ j * t) * (2 ^ j * t)) := by
      rw [show (2 : Int) - (1 + 2 ^ j * t) = 1 - 2 ^ j * t by omega]
      generalize (2 : Int) ^ j * t = y
      rw [Int.mul_sub, Int.mul_one, Int.add_mul, Int.one_mul]
      omega
    rw [this, Int.mul_neg, Int.mul_assoc, Int.mul_assoc, Int.mul_left_comm t]
  rw [e, Int.mul_emod_right]

end Go.Proofs.YtkbiiolkekpkiaaDoor
