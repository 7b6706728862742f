/-
  The walk of the law FieldBack: for any three elements it returns true and changes no memory that was there, where the package's variables are as the program lays them. Conditions: as each theorem says.
-/
import Derived.Test.YtkbiiolkekpkiaaDoorFO
namespace Go.Proofs.YtkbiiolkekpkiaaDoor
open Go.RowKit
set_option linter.unusedVariables false
set_option linter.unusedSimpArgs false

attribute [local go_sem] ext_cell ext_frozen
theorem nn_same {x y : L5} (h : x.nn = y.nn) : x.num % (P25 : Int) = y.num % (P25 : Int) := by rw [← x.nn_eq, ← y.nn_eq, h]
theorem same_yes (x y : L5) (hx : x.Tm) (hy : y.Tm) (h : x.nn = y.nn) (w : World) : Calls Tryd.prog 54 #[.agg #[.int .u64 x.l0, .int .u64 x.l1, .int .u64 x.l2, .int .u64 x.l3, .int .u64 x.l4], .agg #[.int .u64 y.l0, .int .u64 y.l1, .int .u64 y.l2, .int .u64 y.l3, .int .u64 y.l4]] w fun e w' => e = .returned (.bool true) ∧ Below w.heap.size w w' :=
  same_fe x y hx hy true (by rw [decide_eq_true (nn_same h)]) w
theorem same_no (x y : L5) (hx : x.Tm) (hy : y.Tm) (h : ¬ x.nn = y.nn) (w : World) : Calls Tryd.prog 54 #[.agg #[.int .u64 x.l0, .int .u64 x.l1, .int .u64 x.l2, .int .u64 x.l3, .int .u64 x.l4], .agg #[.int .u64 y.l0, .int .u64 y.l1, .int .u64 y.l2, .int .u64 y.l3, .int .u64 y.l4]] w fun e w' => e = .returned (.bool false) ∧ Below w.heap.size w w' :=
  same_fe x y hx hy false (by rw [decide_eq_false]; intro h2; refine h ?_; rw [← x.nn_eq, ← y.nn_eq] at h2; omega) w
theorem sq_roots {a b : Nat} (ha : a < P25) (hb : b < P25) (h : a * a % P25 = b * b % P25) : a = b ∨ a = (P25 - b) % P25 := by
  have key : ∀ u v : Nat, u < P25 → v < P25 → u ≤ v → u * u % P25 = v * v % P25 → u = v ∨ (u + v) % P25 = 0 := by
    intro u v hu hv huv h
    have h1 : P25 ∣ v * v - u * u := sub_of_mod (Nat.mul_le_mul huv huv) h
    have h2 : v * v - u * u = (v - u) * (v + u) := by
      rw [Nat.sub_mul, Nat.mul_add, Nat.mul_add, Nat.mul_comm u v]; omega
    rw [h2] at h1
    rcases P25_prime.dvd_mul h1 with h3 | h3
    · left
      have := Nat.eq_zero_of_dvd_of_lt h3 (by omega)
      omega
    · right
      rw [Nat.add_comm]
      exact Nat.mod_eq_zero_of_dvd h3
  rcases Nat.le_total a b with hab | hab
  · rcases key a b ha hb hab h with h1 | h1
    · exact Or.inl h1
    · exact Or.inr ((neg_iff ha hb).2 h1)
  · rcases key b a hb ha hab h.symm with h1 | h1
    · exact Or.inl h1.symm
    · exact Or.inr ((neg_iff ha hb).2 (by rw [Nat.add_comm]; exact h1))
theorem evn_lt (n : Nat) (h : n < P25) : evn n < P25 := by
  unfold evn
  split
  · exact Nat.mod_lt _ P25_pos
  · exact h
/-- What is evened is one of the two, and even. -/
theorem evn_or (a : Nat) (ha : a < P25) : (evn a = a ∨ evn a = (P25 - a) % P25) ∧ evn a % 2 = 0 := by
  unfold evn
  by_cases h : a % 2 = 1
  · rw [if_pos h]
    refine ⟨Or.inr rfl, ?_⟩
    rw [Nat.mod_eq_of_lt (show P25 - a < P25 by omega)]
    have : P25 % 2 = 1 := by decide +kernel
    omega
  · rw [if_neg h]
    exact ⟨Or.inl rfl, by omega⟩
theorem neg_sq (a : Nat) (ha : a < P25) : ((P25 - a) % P25) * ((P25 - a) % P25) % P25 = a * a % P25 := by
  rcases Nat.eq_zero_or_pos a with rfl | h0
  · rw [Nat.sub_zero, Nat.mod_self]
  · rw [Nat.mod_eq_of_lt (show P25 - a < P25 by omega)]
    have e : (P25 - a) * (P25 - a) + P25 * (2 * a) = a * a + P25 * P25 := by
      obtain ⟨b, hb⟩ : ∃ b, P25 = a + b := ⟨P25 - a, by omega⟩
      rw [hb, Nat.add_sub_cancel_left]
      grind
    have := congrArg (· % P25) e
    simp only [Nat.add_mul_mod_self_left] at this
    exact this
theorem evn_sq (a : Nat) (ha : a < P25) : evn a * evn a % P25 = a * a % P25 := by
  rcases (evn_or a ha).1 with h | h
  · rw [h]
  · rw [h, neg_sq a ha]
theorem neg_neg (a : Nat) (ha : a < P25) : (P25 - (P25 - a) % P25) % P25 = a := by
  rcases Nat.eq_zero_or_pos a with rfl | h0
  · rw [Nat.sub_zero, Nat.mod_self, Nat.sub_zero, Nat.mod_self]
  · rw [Nat.mod_eq_of_lt (show P25 - a < P25 by omega), show P25 - (P25 - a) = a by omega, Nat.mod_eq_of_lt ha]
/-- Euler: to the half of p - 1 a number is 1 or -1. -/
theorem half_one (a : Nat) (ha : a % P25 ≠ 0) : a ^ ((P25 - 1) / 2) % P25 = 1 ∨ a ^ ((P25 - 1) / 2) % P25 = P25 - 1 := by
  have hf := fermat P25_prime ha
  have he : (P25 - 1) / 2 + (P25 - 1) / 2 = P25 - 1 := by decide +kernel
  have h1 : (a ^ ((P25 - 1) / 2) % P25) * (a ^ ((P25 - 1) / 2) % P25) % P25 = 1 * 1 % P25 := by
    rw [← Nat.mul_mod, ← Nat.pow_add, he, hf]; decide +kernel
  have hl : a ^ ((P25 - 1) / 2) % P25 < P25 := Nat.mod_lt _ P25_pos
  generalize a ^ ((P25 - 1) / 2) % P25 = u at *
  rcases sq_roots hl (by decide +kernel) h1 with h | h
  · exact Or.inl h
  · right; rw [h]; decide +kernel
theorem rt1_exp1 : (P25 + 3) / 8 * 2 * 2 = (P25 - 1) / 2 + 2 := by decide +kernel
theorem rt1_sq (a : Nat) : rt1 (a * a % P25) * rt1 (a * a % P25) % P25 = a ^ ((P25 - 1) / 2) % P25 * (a * a % P25) % P25 := by
  have he := rt1_exp1
  unfold rt1
  generalize (P25 + 3) / 8 = e at *
  generalize (P25 - 1) / 2 = h at *
  rw [← Nat.mul_mod, ← Nat.pow_add, ← Nat.pow_mod, ← Nat.mul_mod, ← Nat.pow_two, ← Nat.pow_mul, show 2 * (e + e) = h + 2 by omega, Nat.pow_add]
theorem rootOk_sq (a : Nat) (ha : a < P25) : rootOk (a * a % P25) = true := by
  rcases Nat.eq_zero_or_pos a with h0 | h0
  · exact (root_zero _ (by rw [h0, Nat.zero_mul, Nat.zero_mod])).1
  · have hs := rt1_sq a
    have hl : a * a % P25 < P25 := Nat.mod_lt _ P25_pos
    unfold rootOk
    rcases half_one a (by rw [Nat.mod_eq_of_lt ha]; omega) with h | h
    · rw [h, Nat.one_mul, Nat.mod_mod] at hs
      rw [if_pos hs]
    · rw [h, Nat.mul_comm (P25 - 1), mul_minus_one P25_pos hl] at hs
      have h2 : rt2 (a * a % P25) * rt2 (a * a % P25) % P25 = a * a % P25 := by
        unfold rt2
        rw [← Nat.mul_mod, show rt1 (a * a % P25) * I25 * (rt1 (a * a % P25) * I25) = (rt1 (a * a % P25) * rt1 (a * a % P25)) * (I25 * I25) by grind, Nat.mul_mod, I25_sq, hs, mul_minus_one P25_pos (Nat.mod_lt _ P25_pos), neg_neg _ hl]
      by_cases h3 : rt1 (a * a % P25) * rt1 (a * a % P25) % P25 = a * a % P25
      · rw [if_pos h3]
      · rw [if_neg h3, if_pos h2]
theorem root_spec (A : Nat) (h : rootOk A = true) : rootN A * rootN A % P25 = A ∧ rootN A % 2 = 0 ∧ rootN A < P25 := by
  unfold rootOk at h
  unfold rootN
  by_cases h1 : rt1 A * rt1 A % P25 = A
  · rw [if_pos h1]
    exact ⟨by rw [evn_sq _ (rt1_lt A), h1], (evn_or _ (rt1_lt A)).2, evn_lt _ (rt1_lt A)⟩
  · rw [if_neg h1] at h ⊢
    by_cases h2 : rt2 A * rt2 A % P25 = A
    · rw [if_pos h2]
      exact ⟨by rw [evn_sq _ (rt2_lt A), h2], (evn_or _ (rt2_lt A)).2, evn_lt _ (rt2_lt A)⟩
    · rw [if_neg h2] at h
      cases h
theorem code_one (U : Nat) (hU : U < P25) : codeOk U 1 = rootOk U ∧ codeN U 1 = rootN U := by
  have h := code_rat (U := U) (V := 1) hU (by decide +kernel)
  have h1 := rat_of (U := U) (V := 1) (by omega)
  have h2 : ∀ e : Nat, U * (1 ^ e % P25) % P25 = U := by
    intro e
    rw [Nat.one_pow, show 1 % P25 = 1 by decide +kernel, Nat.mul_one, Nat.mod_eq_of_lt hU]
  have h3 := h2 (P25 - 2)
  generalize U * (1 ^ (P25 - 2) % P25) % P25 = z at *
  rw [h3] at h1
  exact ⟨h.1.trans h1.1, h.2.trans h1.2⟩
/-- The root of a square is the number or its other sign, and even. -/
theorem code_sq (a : Nat) (ha : a < P25) : codeOk (a * a % P25) 1 = true ∧ (codeN (a * a % P25) 1 = a ∨ codeN (a * a % P25) 1 = (P25 - a) % P25) ∧ codeN (a * a % P25) 1 % 2 = 0 ∧ codeN (a * a % P25) 1 < P25 := by
  have hl : a * a % P25 < P25 := Nat.mod_lt _ P25_pos
  have h := code_one _ hl
  have h1 := rootOk_sq a ha
  have h2 := root_spec _ h1
  rw [h.1, h.2]
  exact ⟨h1, sq_roots h2.2.2 ha h2.1, h2.2.1, h2.2.2⟩
theorem neg_mul_mod (s V U : Nat) (hs : s < P25) (hU : U < P25) (h : s * V % P25 = (P25 - U) % P25) : ((P25 - s) % P25) * V % P25 = U := by
  have h0 : ((P25 - s) % P25 + s) % P25 = 0 := (neg_iff (Nat.mod_lt _ P25_pos) hs).1 rfl
  have h1 : (((P25 - s) % P25) * V % P25 + s * V % P25) % P25 = 0 := by
    rw [← Nat.add_mod, ← Nat.add_mul, Nat.mul_mod, h0, Nat.zero_mul, Nat.zero_mod]
  have h2 := (neg_iff (Nat.mod_lt _ P25_pos) (Nat.mod_lt _ P25_pos)).2 h1
  rw [h2, h, neg_neg U hU]
/-- A root's square times the denominator is the numerator. -/
theorem code_back (U V : Nat) (hU : U < P25) (h : codeOk U V = true) : codeN U V * codeN U V % P25 * V % P25 = U ∧ codeN U V < P25 := by
  have hn : nearN U V < P25 := by unfold nearN; exact Nat.mod_lt _ P25_pos
  unfold codeOk at h
  unfold codeN
  generalize nearN U V = X at *
  by_cases h1 : X * X % P25 * V % P25 = U
  · rw [if_pos h1]
    exact ⟨by rw [evn_sq _ hn, h1], evn_lt _ hn⟩
  · rw [if_neg h1] at h ⊢
    have hm : X * I25 % P25 < P25 := Nat.mod_lt _ P25_pos
    by_cases h2 : X * X % P25 * V % P25 = (P25 - U) % P25
    · rw [if_pos h2]
      refine ⟨?_, evn_lt _ hm⟩
      rw [evn_sq _ hm, ← Nat.mul_mod, show X * I25 * (X * I25) = (X * X) * (I25 * I25) by grind, Nat.mul_mod (X * X), I25_sq, mul_minus_one P25_pos (Nat.mod_lt _ P25_pos)]
      exact neg_mul_mod _ V U (Nat.mod_lt _ P25_pos) hU h2
    · rw [if_neg h2] at h
      cases h
theorem dist_nn (a b c : Nat) : a * ((b + c) % P25) % P25 = (a * b % P25 + a * c % P25) % P25 := by
  rw [mul_mod_mod', Nat.mul_add, Nat.add_mod]
theorem assoc_nn (a b c : Nat) : a * b % P25 * c % P25 = a * (b * c % P25) % P25 := by
  rw [mod_mul_mod, mul_mod_mod', Nat.mul_assoc]
theorem back_nn (a b : Nat) (ha : a < P25) (hb : b < P25) : ((a + b) % P25 + P25 - b) % P25 = a := by
  rcases Nat.lt_or_ge (a + b) P25 with h | h
  · rw [Nat.mod_eq_of_lt h, show a + b + P25 - b = a + P25 by omega, Nat.add_mod_right, Nat.mod_eq_of_lt ha]
  · rw [Nat.mod_eq_sub_mod h, Nat.mod_eq_of_lt (show a + b - P25 < P25 by omega), show a + b - P25 + P25 - b = a by omega, Nat.mod_eq_of_lt ha]
theorem inv_nn (a : Nat) (ha : a < P25) (h0 : a ≠ 0) : a * (a ^ (P25 - 2) % P25) % P25 = 1 := by
  rw [mul_mod_mod', ← Nat.pow_succ', show (P25 - 2).succ = P25 - 1 by decide +kernel]
  exact fermat P25_prime (by rw [Nat.mod_eq_of_lt ha]; exact h0)
theorem neg_par (a : Nat) (ha : a < P25) : decide ((P25 - a) % P25 % 2 = 1) = (!decide (a % 2 = 1) && !decide (a = 0)) := by
  have hp : P25 % 2 = 1 := by decide +kernel
  rcases Nat.eq_zero_or_pos a with rfl | h0
  · rw [Nat.sub_zero, Nat.mod_self]; decide
  · rw [Nat.mod_eq_of_lt (show P25 - a < P25 by omega)]
    by_cases h : a % 2 = 1
    · rw [decide_eq_true h, decide_eq_false (show ¬ (P25 - a) % 2 = 1 by omega)]; rfl
    · rw [decide_eq_false h, decide_eq_true (show (P25 - a) % 2 = 1 by omega), decide_eq_false (show ¬ a = 0 by omega)]; rfl

end Go.Proofs.YtkbiiolkekpkiaaDoor
