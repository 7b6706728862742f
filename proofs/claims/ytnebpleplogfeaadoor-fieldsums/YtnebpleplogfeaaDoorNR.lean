/-
  Roots modulo 2^255 - 19: the root by a fraction's numerator and denominator is the document's. No program is spoken of here. Conditions: as each theorem says.
-/
import Derived.Test.YtnebpleplogfeaaDoorDE
namespace Go.Proofs.YtnebpleplogfeaaDoor
set_option linter.unusedVariables false

theorem P25_pos : 0 < P25 := by decide +kernel
theorem mod_mul_mod (a b p : Nat) : (a % p) * b % p = a * b % p := by rw [Nat.mul_mod, Nat.mod_mod, ← Nat.mul_mod]
theorem mul_mod_mod' (a b p : Nat) : a * (b % p) % p = a * b % p := by rw [Nat.mul_mod, Nat.mod_mod, ← Nat.mul_mod]
theorem mul_cong {a b c d p : Nat} (h1 : a % p = b % p) (h2 : c % p = d % p) : a * c % p = b * d % p := by rw [Nat.mul_mod, h1, h2, ← Nat.mul_mod]
theorem pow_cong {a b p : Nat} (h : a % p = b % p) (n : Nat) : a ^ n % p = b ^ n % p := by rw [Nat.pow_mod, h, ← Nat.pow_mod]
theorem neg_iff {p x y : Nat} (hx : x < p) (hy : y < p) : x = (p - y) % p ↔ (x + y) % p = 0 := by
  rcases Nat.eq_zero_or_pos y with rfl | h0
  · rw [Nat.sub_zero, Nat.mod_self, Nat.add_zero, Nat.mod_eq_of_lt hx]
  · rw [Nat.mod_eq_of_lt (show p - y < p by omega)]
    constructor
    · intro h
      rw [h, Nat.sub_add_cancel (by omega), Nat.mod_self]
    · intro h
      rcases Nat.lt_or_ge (x + y) p with h1 | h1
      · rw [Nat.mod_eq_of_lt h1] at h; omega
      · rw [Nat.mod_eq_sub_mod h1, Nat.mod_eq_of_lt (by omega)] at h; omega
theorem mul_minus_one {p s : Nat} (hp : 0 < p) (hs : s < p) : s * (p - 1) % p = (p - s) % p := by
  rcases Nat.eq_zero_or_pos s with rfl | h0
  · rw [Nat.zero_mul, Nat.sub_zero, Nat.mod_self, Nat.zero_mod]
  · have e : s * (p - 1) = (p - s) + p * (s - 1) := by
      obtain ⟨q, rfl⟩ : ∃ q, p = q + 1 := ⟨p - 1, by omega⟩
      obtain ⟨t, rfl⟩ : ∃ t, s = t + 1 := ⟨s - 1, by omega⟩
      rw [Nat.add_sub_cancel, Nat.add_sub_cancel, Nat.add_mul, Nat.add_mul, Nat.one_mul, Nat.one_mul, Nat.mul_comm]
      omega
    rw [e, Nat.add_mul_mod_self_left]

def nearK : Nat := 2 ^ 252 - 3
/-- What the program takes for a root, at first. -/
def nearN (U V : Nat) : Nat := U * V ^ 3 * (U * V ^ 7) ^ nearK % P25
theorem near_exp1 : nearK + 1 = (P25 + 3) / 8 := by decide +kernel
theorem near_exp2 : 8 * nearK + 4 = P25 - 1 := by decide +kernel
theorem near_poly (a V k : Nat) : (a * V) * V ^ 3 * ((a * V) * V ^ 7) ^ k = a ^ (k + 1) * V ^ (8 * k + 4) := by
  rw [Nat.mul_pow, Nat.mul_pow, ← Nat.pow_mul, Nat.pow_add V (8 * k) 4, Nat.pow_succ a k, show 8 * k = k + 7 * k by omega, Nat.pow_add V k (7 * k)]
  generalize a ^ k = x
  generalize V ^ k = y
  generalize V ^ (7 * k) = z
  grind
theorem frac_back {U V : Nat} (hU : U < P25) (hV : V % P25 ≠ 0) : (U * (V ^ (P25 - 2) % P25) % P25) * V % P25 = U := by
  have hf := fermat P25_prime hV
  rw [mod_mul_mod, Nat.mul_right_comm, mul_mod_mod', Nat.mul_assoc, ← Nat.pow_succ', show (P25 - 2).succ = P25 - 1 by decide +kernel, ← mul_mod_mod', hf, Nat.mul_one, Nat.mod_eq_of_lt hU]
theorem near_eq {U V : Nat} (hU : U < P25) (hV : V % P25 ≠ 0) : nearN U V = rt1 (U * (V ^ (P25 - 2) % P25) % P25) := by
  have hb := frac_back hU hV
  generalize U * (V ^ (P25 - 2) % P25) % P25 = a at hb
  have hU' : U % P25 = a * V % P25 := by rw [hb, Nat.mod_eq_of_lt hU]
  have key : ∀ k : Nat, U * V ^ 3 * (U * V ^ 7) ^ k % P25 = a ^ (k + 1) * V ^ (8 * k + 4) % P25 := by
    intro k
    rw [← near_poly]
    exact mul_cong (mul_cong hU' rfl) (pow_cong (mul_cong hU' rfl) k)
  unfold nearN rt1
  rw [key, near_exp1, near_exp2, ← mul_mod_mod', fermat P25_prime hV, Nat.mul_one]

/-- The program's root. -/
def codeOk (U V : Nat) : Bool := if nearN U V * nearN U V % P25 * V % P25 = U then true else if nearN U V * nearN U V % P25 * V % P25 = (P25 - U) % P25 then true else false
def codeN (U V : Nat) : Nat := if nearN U V * nearN U V % P25 * V % P25 = U then evn (nearN U V) else if nearN U V * nearN U V % P25 * V % P25 = (P25 - U) % P25 then evn (nearN U V * I25 % P25) else 0

theorem code_first {U V X a : Nat} (hU : U < P25) (hV : V % P25 ≠ 0) (ha : a < P25) (hb : a * V % P25 = U) : X * X % P25 * V % P25 = U ↔ X * X % P25 = a := by
  constructor
  · intro h
    have h1 : V * (X * X % P25) % P25 = V * a % P25 := by rw [Nat.mul_comm V, Nat.mul_comm V, h, hb]
    have h2 := P25_prime.cancel hV h1
    rwa [Nat.mod_mod, Nat.mod_eq_of_lt ha] at h2
  · intro h
    rw [h, hb]
theorem code_second {U V X a : Nat} (hU : U < P25) (hV : V % P25 ≠ 0) (ha : a < P25) (hb : a * V % P25 = U) : X * X % P25 * V % P25 = (P25 - U) % P25 ↔ (X * I25 % P25) * (X * I25 % P25) % P25 = a := by
  have hs : X * X % P25 < P25 := Nat.mod_lt _ P25_pos
  have e1 : (X * I25 % P25) * (X * I25 % P25) % P25 = (P25 - X * X % P25) % P25 := by
    rw [← Nat.mul_mod, show X * I25 * (X * I25) = (X * X) * (I25 * I25) by grind, Nat.mul_mod, I25_sq, mul_minus_one P25_pos hs]
  have e2 : (P25 - X * X % P25) % P25 = a ↔ (a + X * X % P25) % P25 = 0 := by
    rw [← neg_iff ha hs]
    exact eq_comm
  rw [e1, e2, neg_iff (Nat.mod_lt _ P25_pos) hU, ← hb, ← Nat.add_mod, ← Nat.add_mul]
  generalize X * X % P25 = s at *
  rw [Nat.add_comm s a]
  constructor
  · intro h
    apply Classical.byContradiction
    intro hn
    exact P25_prime.mul_ne hn hV h
  · intro h
    rw [Nat.mul_mod, h, Nat.zero_mul, Nat.zero_mod]

theorem near_zero (U : Nat) : nearN U 0 = 0 := by
  unfold nearN
  generalize nearK = k
  rw [show (0 : Nat) ^ 3 = 0 from rfl, Nat.mul_zero, Nat.zero_mul, Nat.zero_mod]
theorem rat_of {U V : Nat} (h : ¬ (V = 0 ∧ 0 < U)) : ratOk U V = rootOk (U * (V ^ (P25 - 2) % P25) % P25) ∧ ratN U V = rootN (U * (V ^ (P25 - 2) % P25) % P25) := by
  unfold ratOk ratN
  exact ⟨if_neg h, if_neg h⟩
theorem rat_no {U V : Nat} (h : V = 0 ∧ 0 < U) : ratOk U V = false ∧ ratN U V = 0 := by
  unfold ratOk ratN
  exact ⟨if_pos h, if_pos h⟩
theorem rt1_zero (a : Nat) (h : a = 0) : rt1 a = 0 := by
  have he : 0 < (P25 + 3) / 8 := by decide +kernel
  unfold rt1
  generalize (P25 + 3) / 8 = e at he
  rw [h, Nat.zero_pow he, Nat.zero_mod]
theorem root_zero (a : Nat) (h : a = 0) : rootOk a = true ∧ rootN a = 0 := by
  have h0 : rt1 a * rt1 a % P25 = a := by rw [rt1_zero a h, Nat.zero_mul, Nat.zero_mod, h]
  unfold rootOk rootN
  rw [if_pos h0, if_pos h0, rt1_zero a h]
  exact ⟨rfl, by unfold evn; rw [if_neg (by decide)]⟩
theorem code_zero : codeOk 0 0 = true ∧ codeN 0 0 = 0 := by
  have h0 : nearN 0 0 * nearN 0 0 % P25 * 0 % P25 = 0 := by rw [Nat.mul_zero, Nat.zero_mod]
  unfold codeOk codeN
  rw [if_pos h0, if_pos h0, near_zero]
  exact ⟨rfl, by unfold evn; rw [if_neg (by decide)]⟩
theorem code_none {U : Nat} (hU : U < P25) (h : 0 < U) : codeOk U 0 = false ∧ codeN U 0 = 0 := by
  have h1 : ¬ nearN U 0 * nearN U 0 % P25 * 0 % P25 = U := by rw [Nat.mul_zero, Nat.zero_mod]; omega
  have h2 : ¬ nearN U 0 * nearN U 0 % P25 * 0 % P25 = (P25 - U) % P25 := by rw [Nat.mul_zero, Nat.zero_mod, Nat.mod_eq_of_lt (show P25 - U < P25 by omega)]; omega
  unfold codeOk codeN
  rw [if_neg h1, if_neg h1, if_neg h2, if_neg h2]
  exact ⟨rfl, rfl⟩
theorem code_some {U V a : Nat} (hU : U < P25) (hV : V % P25 ≠ 0) (ha : a < P25) (hb : a * V % P25 = U) (hn : nearN U V = rt1 a) : codeOk U V = rootOk a ∧ codeN U V = rootN a := by
  have k1 := code_first (X := rt1 a) hU hV ha hb
  have k2 := code_second (X := rt1 a) hU hV ha hb
  unfold codeOk codeN rootOk rootN rt2
  rw [hn]
  by_cases h1 : rt1 a * rt1 a % P25 * V % P25 = U
  · rw [if_pos h1, if_pos h1, if_pos (k1.1 h1), if_pos (k1.1 h1)]
    exact ⟨rfl, rfl⟩
  · have h1' := fun h => h1 (k1.2 h)
    rw [if_neg h1, if_neg h1, if_neg h1', if_neg h1']
    by_cases h2 : rt1 a * rt1 a % P25 * V % P25 = (P25 - U) % P25
    · rw [if_pos h2, if_pos h2, if_pos (k2.1 h2), if_pos (k2.1 h2)]
      exact ⟨rfl, rfl⟩
    · have h2' := fun h => h2 (k2.2 h)
      rw [if_neg h2, if_neg h2, if_neg h2', if_neg h2']
      exact ⟨rfl, rfl⟩
theorem code_rat {U V : Nat} (hU : U < P25) (hV : V < P25) : codeOk U V = ratOk U V ∧ codeN U V = ratN U V := by
  rcases Nat.eq_zero_or_pos V with h0 | h0
  · subst h0
    rcases Nat.eq_zero_or_pos U with hu | hu
    · subst hu
      have h1 := rat_of (U := 0) (V := 0) (by omega)
      have h2 : ∀ y, 0 * y % P25 = 0 := fun y => by rw [Nat.zero_mul, Nat.zero_mod]
      have h3 := root_zero _ (h2 (0 ^ (P25 - 2) % P25))
      exact ⟨code_zero.1.trans (h1.1.trans h3.1).symm, code_zero.2.trans (h1.2.trans h3.2).symm⟩
    · have h1 := rat_no (U := U) (V := 0) ⟨rfl, hu⟩
      have h2 := code_none hU hu
      rw [h1.1, h1.2, h2.1, h2.2]
      exact ⟨rfl, rfl⟩
  · have hV' : V % P25 ≠ 0 := by rw [Nat.mod_eq_of_lt hV]; omega
    have h1 := rat_of (U := U) (V := V) (by omega)
    have h2 := code_some hU hV' (Nat.mod_lt _ P25_pos) (frac_back hU hV') (near_eq hU hV')
    rw [h1.1, h1.2, h2.1, h2.2]
    exact ⟨rfl, rfl⟩

end Go.Proofs.YtnebpleplogfeaaDoor
