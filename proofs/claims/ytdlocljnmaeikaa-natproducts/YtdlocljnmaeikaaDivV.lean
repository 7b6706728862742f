/-
  The plain arithmetic of a division of two words by a word, digit by digit of 32 bits. No program is spoken of here.
-/
import Derived.Test.YtdlocljnmaeikaaBitz
import Derived.Test.YtdlocljnmaeikaaBackV
import Derived.Laws.BitsLemmas
namespace Go.Proofs.Ytdlocljnmaeikaa
set_option linter.unusedVariables false

theorem lt_nbits' (x : Nat) : x < 2 ^ nbits x := by
  unfold nbits
  split
  · rename_i h; subst h; simp
  · exact Nat.lt_log2_self
theorem nbits_pos' {N : Nat} (h : N ≠ 0) : 2 ^ (nbits N - 1) ≤ N := by
  unfold nbits
  rw [if_neg h]
  exact Nat.log2_self_le h

/-- One digit's search: U = q yn1 + r, the digit is not above q. -/
structure Dig (U u yn1 yn0 q r : Nat) : Prop where
  eq : U = q * yn1 + r
  ge : (U * 4294967296 + u) / (yn1 * 4294967296 + yn0) ≤ q
  le : q ≤ 4294967297

theorem Dig.start (U u yn1 yn0 : Nat) (h1 : 2147483648 ≤ yn1) (h0 : yn0 < 4294967296) (hu : u < 4294967296) (hU : U < yn1 * 4294967296 + yn0) : Dig U u yn1 yn0 (U / yn1) (U % yn1) := by
  have hp : 0 < yn1 := by omega
  refine ⟨by rw [Nat.mul_comm]; exact (Nat.div_add_mod U yn1).symm, ?_, ?_⟩
  · -- the digit is not above U / yn1
    have : (U * 4294967296 + u) / (yn1 * 4294967296 + yn0) ≤ (U * 4294967296 + u) / (yn1 * 4294967296) := Nat.div_le_div_left (by omega) (by omega)
    refine Nat.le_trans this ?_
    rw [Nat.mul_comm yn1, ← Nat.div_div_eq_div_mul]
    have e : (U * 4294967296 + u) / 4294967296 = U := by omega
    rw [e]
    exact Nat.le_refl _
  · have h2 : U / yn1 < 4294967298 := by
      rw [Nat.div_lt_iff_lt_mul hp]
      have : 4294967298 * yn1 = yn1 * 4294967296 + 2 * yn1 := by omega
      omega
    omega
theorem dig_lt (U u yn1 yn0 : Nat) (hu : u < 4294967296) (hU : U < yn1 * 4294967296 + yn0) : (U * 4294967296 + u) / (yn1 * 4294967296 + yn0) < 4294967296 := by
  obtain ⟨Y, hY⟩ : ∃ Y, yn1 * 4294967296 + yn0 = Y := ⟨_, rfl⟩
  rw [hY] at hU ⊢
  refine Nat.div_lt_of_lt_mul ?_
  clear hY
  omega
/-- q Y and U b + u, side by side. -/
theorem Dig.side {U u yn1 yn0 q r : Nat} (h : Dig U u yn1 yn0 q r) : q * (yn1 * 4294967296 + yn0) + (r * 4294967296 + u) = U * 4294967296 + u + q * yn0 := by
  have e : q * (yn1 * 4294967296 + yn0) = q * yn1 * 4294967296 + q * yn0 := by rw [Nat.mul_add, Nat.mul_assoc]
  have e2 := h.eq
  generalize q * (yn1 * 4294967296 + yn0) = Z at *
  generalize q * yn1 = A at *
  generalize q * yn0 = C at *
  omega
theorem Dig.high {U u yn1 yn0 q r : Nat} (h : Dig U u yn1 yn0 q r) (hy : 0 < yn1 * 4294967296 + yn0) (hu : u < 4294967296) (hU : U < yn1 * 4294967296 + yn0) (ht : 4294967296 ≤ q ∨ 4294967296 * r + u < q * yn0) : 0 < q ∧ Dig U u yn1 yn0 (q - 1) (r + yn1) := by
  have hT : (U * 4294967296 + u) / (yn1 * 4294967296 + yn0) < q := by
    rcases ht with h1 | h1
    · have := dig_lt U u yn1 yn0 hu hU
      exact Nat.lt_of_lt_of_le this h1
    · refine Nat.div_lt_of_lt_mul ?_
      have := h.side
      rw [Nat.mul_comm q] at this
      generalize (yn1 * 4294967296 + yn0) * q = Z at *
      generalize q * yn0 = C at *
      omega
  have hge := h.le
  have e := h.eq
  refine ⟨Nat.lt_of_le_of_lt (Nat.zero_le _) hT, ?_, Nat.le_sub_one_of_lt hT, by omega⟩
  have hq0 : 0 < q := Nat.lt_of_le_of_lt (Nat.zero_le _) hT
  clear hT
  obtain ⟨k, rfl⟩ : ∃ k, q = k + 1 := ⟨q - 1, by omega⟩
  rw [Nat.add_mul, Nat.one_mul] at e
  simp only [Nat.add_sub_cancel]
  omega
theorem Dig.low {U u yn1 yn0 q r : Nat} (h : Dig U u yn1 yn0 q r) (hy : 0 < yn1 * 4294967296 + yn0) (ht : q * yn0 ≤ 4294967296 * r + u) : q = (U * 4294967296 + u) / (yn1 * 4294967296 + yn0) := by
  have h1 := h.ge
  have h2 : q ≤ (U * 4294967296 + u) / (yn1 * 4294967296 + yn0) := by
    rw [Nat.le_div_iff_mul_le hy]
    have := h.side
    generalize q * (yn1 * 4294967296 + yn0) = Z at *
    generalize q * yn0 = C at *
    omega
  exact Nat.le_antisymm h2 h1
theorem Dig.out {U u yn1 yn0 q r : Nat} (h : Dig U u yn1 yn0 q r) (hy : 0 < yn1 * 4294967296 + yn0) (h0 : yn0 < 4294967296) (hq : q ≤ 4294967296) (hr : 4294967296 ≤ r) : q = (U * 4294967296 + u) / (yn1 * 4294967296 + yn0) := by
  refine h.low hy ?_
  have : q * yn0 ≤ 4294967296 * yn0 := Nat.mul_le_mul_right _ hq
  have : 4294967296 * yn0 ≤ 4294967296 * r := Nat.mul_le_mul_left _ (by omega)
  omega

/-! ### The words that are made ready -/
theorem mask32 (x : Nat) (hx : x < 18446744073709551616) : bits .and .u64 (x : Int) 4294967295 = ((x % 4294967296 : Nat) : Int) := by
  have h := bits_and_u64_nat x 4294967295 hx (by omega)
  have e : x &&& 4294967295 = x % 4294967296 := by
    have := Nat.and_two_pow_sub_one_eq_mod x 32
    exact this
  rw [e] at h
  exact h
theorem two_words (hi lo s : Nat) (h : s ≤ 63) (hlo : lo < 18446744073709551616) (hhi : hi * 2 ^ s < 18446744073709551616) :
    bits .or .u64 (IntKind.u64.wrap ((hi : Int) * 2 ^ s)) ((lo : Int) / 2 ^ (64 - s)) = ((hi * 2 ^ s + lo / 2 ^ (64 - s) : Nat) : Int) := by
  have e1 : (hi : Int) * 2 ^ s = ((hi * 2 ^ s : Nat) : Int) := by simp
  have e2 : (lo : Int) / 2 ^ (64 - s) = ((lo / 2 ^ (64 - s) : Nat) : Int) := by simp
  have hl : lo / 2 ^ (64 - s) < 2 ^ s := by
    rw [Nat.div_lt_iff_lt_mul (Nat.two_pow_pos _), ← Nat.pow_add, show s + (64 - s) = 64 by omega]
    exact hlo
  have hl2 : 2 ^ s ≤ 2 ^ 63 := Nat.pow_le_pow_right (by omega) h
  rw [e1, e2, IntKind.wrap_u64, Int.emod_eq_of_lt (Int.natCast_nonneg _) (by omega), bits_or_u64_nat _ _ hhi (by omega)]
  congr 1
  rw [Nat.mul_comm hi, Nat.two_pow_add_eq_or_of_lt hl]
/-- hi B + lo, moved by s, is the two words U and L. -/
theorem moved (hi lo s : Nat) (h : s ≤ 63) (hlo : lo < 18446744073709551616) : (hi * 18446744073709551616 + lo) * 2 ^ s = (hi * 2 ^ s + lo / 2 ^ (64 - s)) * 18446744073709551616 + lo * 2 ^ s % 18446744073709551616 := by
  have e : (18446744073709551616 : Nat) = 2 ^ (64 - s) * 2 ^ s := by rw [← Nat.pow_add, show 64 - s + s = 64 by omega]
  have h1 : lo * 2 ^ s / 18446744073709551616 = lo / 2 ^ (64 - s) := by
    conv => lhs; arg 2; rw [e]
    exact Nat.mul_div_mul_right _ _ (Nat.two_pow_pos s)
  have h2 := Nat.div_add_mod (lo * 2 ^ s) 18446744073709551616
  rw [h1] at h2
  rw [Nat.add_mul, Nat.add_mul, Nat.mul_right_comm]
  omega
/-- What is divided, digit by digit, is divided. -/
theorem div_whole (X y s U L u1 u0 Y q1 q0 U2 R : Nat) (hs : Y = y * 2 ^ s) (hy : 0 < y) (hX : X * 2 ^ s = U * 18446744073709551616 + L) (hL : L = u1 * 4294967296 + u0)
    (h1 : q1 = (U * 4294967296 + u1) / Y) (h2 : U2 = (U * 4294967296 + u1) % Y) (h3 : q0 = (U2 * 4294967296 + u0) / Y) (h4 : R = (U2 * 4294967296 + u0) % Y) :
    q1 * 4294967296 + q0 = X / y ∧ R / 2 ^ s = X % y := by
  have hp : 0 < 2 ^ s := Nat.two_pow_pos s
  have hY : 0 < Y := by rw [hs]; exact Nat.mul_pos hy hp
  have d1 := Nat.div_add_mod (U * 4294967296 + u1) Y
  have d2 := Nat.div_add_mod (U2 * 4294967296 + u0) Y
  rw [← h1, ← h2] at d1
  rw [← h3, ← h4] at d2
  have hR : R < Y := by rw [h4]; exact Nat.mod_lt _ hY
  have key : X * 2 ^ s = Y * (q1 * 4294967296 + q0) + R := by
    rw [hX, hL, Nat.mul_add, ← Nat.mul_assoc]
    generalize Y * q1 = A at *
    generalize Y * q0 = B at *
    omega
  have e1 : X * 2 ^ s / Y = q1 * 4294967296 + q0 := by
    rw [key, Nat.mul_add_div hY, Nat.div_eq_of_lt hR, Nat.add_zero]
  have e2 : X * 2 ^ s % Y = R := by rw [key, Nat.mul_add_mod, Nat.mod_eq_of_lt hR]
  rw [hs] at e1 e2
  rw [Nat.mul_div_mul_right _ _ hp] at e1
  rw [Nat.mul_mod_mul_right] at e2
  exact ⟨e1.symm, by rw [← e2, Nat.mul_div_cancel _ hp]⟩
/-- What is left behind a digit, reckoned in words. -/
theorem left_word_eq (U u Y q : Nat) (hY : Y < 18446744073709551616) (hY0 : 0 < Y) (hq : q = (U * 4294967296 + u) / Y) :
    IntKind.u64.wrap (IntKind.u64.wrap ((U : Int) * 4294967296) + (u : Int) - IntKind.u64.wrap ((q : Int) * (Y : Int))) = (((U * 4294967296 + u) % Y : Nat) : Int) := by
  have d := Nat.div_add_mod (U * 4294967296 + u) Y
  rw [← hq] at d
  have hR : (U * 4294967296 + u) % Y < Y := Nat.mod_lt _ hY0
  generalize (U * 4294967296 + u) % Y = R at *
  rw [Nat.mul_comm] at d
  have e : (q : Int) * (Y : Int) = ((q * Y : Nat) : Int) := by simp
  rw [e]
  generalize q * Y = Z at *
  rw [IntKind.wrap_u64, IntKind.wrap_u64, IntKind.wrap_u64]
  omega

end Go.Proofs.Ytdlocljnmaeikaa
