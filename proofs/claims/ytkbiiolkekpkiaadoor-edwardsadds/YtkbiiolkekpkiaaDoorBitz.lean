/-
  Bits of numbers below 2^256 and of their words: how many there are, and shifts word by word. No program is spoken of here.
-/
import Derived.Test.YtkbiiolkekpkiaaDoorFour
import Derived.Lib.BitFns
import Derived.Laws.Bits64b
namespace Go.Proofs.YtkbiiolkekpkiaaDoor
set_option linter.unusedVariables false

/-- How many bits a number has. -/
def nbits (x : Nat) : Nat := if x = 0 then 0 else x.log2 + 1
theorem nbits_zero : nbits 0 = 0 := rfl
theorem nbits_shift (x b : Nat) (h : x / 2 ^ b ≠ 0) : nbits x = b + nbits (x / 2 ^ b) := by
  have hp : 0 < 2 ^ b := Nat.two_pow_pos b
  have hx : x ≠ 0 := by intro h0; subst h0; simp at h
  have h1 := Nat.log2_self_le h
  have h2 : x / 2 ^ b < 2 ^ ((x / 2 ^ b).log2 + 1) := Nat.lt_log2_self
  have e : x.log2 = (x / 2 ^ b).log2 + b := (Nat.log2_eq_iff hx).2
    ⟨by rw [Nat.pow_add]; exact (Nat.le_div_iff_mul_le hp).1 h1, by rw [show (x / 2 ^ b).log2 + b + 1 = ((x / 2 ^ b).log2 + 1) + b by omega, Nat.pow_add]; exact (Nat.div_lt_iff_lt_mul hp).1 h2⟩
  unfold nbits
  rw [if_neg hx, if_neg h, e]
  omega
theorem bitLenAux_nbits : ∀ (f x : Nat), x < 2 ^ f → Lib.bitLenAux f x = nbits x
  | 0, x, h => by
    have : x = 0 := by simpa using h
    subst this; rfl
  | f + 1, x, h => by
    unfold Lib.bitLenAux
    by_cases h0 : x = 0
    · subst h0; rfl
    · by_cases h1 : x / 2 = 0
      · have : x = 1 := by omega
        subst this
        simp [h0]
        rw [bitLenAux_nbits f 0 (Nat.two_pow_pos f)]
        decide
      · have := nbits_shift x 1 (by simpa using h1)
        simp [h0]
        rw [bitLenAux_nbits f (x / 2) (by rw [Nat.pow_succ] at h; omega), this]
theorem bitLen_nbits (x : Nat) (h : x < 18446744073709551616) : Lib.bitLen x = nbits x := bitLenAux_nbits 64 x h
theorem nbits_le (x k : Nat) (h : x < 2 ^ k) : nbits x ≤ k := by
  unfold nbits
  split
  · omega
  · rename_i h0
    have := (Nat.log2_lt h0).2 h
    omega

theorem bitsV (x : Nat) (a0 a1 a2 a3 o1 o2 o3 o4 : Int) (ha0 : Wd a0) (ha1 : Wd a1) (ha2 : Wd a2) (ha3 : Wd a3) (hx : (x : Int) = a0 + 18446744073709551616 * a1 + 340282366920938463463374607431768211456 * a2 + 6277101735386680763835789423207666416102355444464034512896 * a3)
    (h1 : o1 = if a0 = 0 then 0 else (nbits a0.toNat : Int)) (h2 : o2 = if a1 = 0 then o1 else 64 + (nbits a1.toNat : Int)) (h3 : o3 = if a2 = 0 then o2 else 128 + (nbits a2.toNat : Int)) (h4 : o4 = if a3 = 0 then o3 else 192 + (nbits a3.toNat : Int)) : (nbits x : Int) = o4 := by
  unfold Wd at *
  by_cases e3 : a3 = 0
  · rw [if_pos e3] at h4
    by_cases e2 : a2 = 0
    · rw [if_pos e2] at h3
      by_cases e1 : a1 = 0
      · rw [if_pos e1] at h2
        by_cases e0 : a0 = 0
        · rw [if_pos e0] at h1
          have : x = 0 := by omega
          rw [h4, h3, h2, h1, this]; rfl
        · rw [if_neg e0] at h1
          have : x = a0.toNat := by omega
          rw [h4, h3, h2, h1, this]
      · rw [if_neg e1] at h2
        have e : x / 2 ^ 64 = a1.toNat := by omega
        have := nbits_shift x 64 (by omega)
        rw [h4, h3, h2, this, e]
        omega
    · rw [if_neg e2] at h3
      have e : x / 2 ^ 128 = a2.toNat := by omega
      have := nbits_shift x 128 (by omega)
      rw [h4, h3, this, e]
      omega
  · rw [if_neg e3] at h4
    have e : x / 2 ^ 192 = a3.toNat := by omega
    have := nbits_shift x 192 (by omega)
    rw [h4, this, e]
    omega

/-- The i-th word of a number; 0, where there is none. -/
def wordAt (x : Nat) (i : Int) : Int := if 0 ≤ i ∧ i < 4 then ((x / 2 ^ (64 * i.toNat) % 18446744073709551616 : Nat) : Int) else 0
theorem wordAt_wd (x : Nat) (i : Int) : Wd (wordAt x i) := by unfold wordAt Wd; split <;> omega


theorem wrapI (z : Int) (h0 : -9223372036854775808 ≤ z) (h1 : z ≤ 9223372036854775807) : IntKind.i64.wrap z = z := by rw [IntKind.wrap_i64]; omega

/-- The same word, as a natural number. -/
def wN (x : Nat) (i : Int) : Nat := if 0 ≤ i ∧ i < 4 then x / 2 ^ (64 * i.toNat) % 2 ^ 64 else 0
theorem wordAt_wN (x : Nat) (i : Int) : wordAt x i = (wN x i : Int) := by unfold wordAt wN; split <;> rfl
theorem wN_lt (x : Nat) (i : Int) : wN x i < 2 ^ 64 := by unfold wN; split <;> omega

theorem wN_bit (x : Nat) (hx : x < 2 ^ 256) (i : Int) (j : Nat) : (wN x i).testBit j = (decide (0 ≤ i) && (decide (j < 64) && x.testBit (64 * i.toNat + j))) := by
  unfold wN
  by_cases h : 0 ≤ i ∧ i < 4
  · rw [if_pos h, Nat.testBit_mod_two_pow, Nat.testBit_div_two_pow, Nat.add_comm]
    simp [h.1]
  · rw [if_neg h]
    by_cases h0 : 0 ≤ i
    · have : x.testBit (64 * i.toNat + j) = false := Nat.testBit_lt_two_pow (Nat.lt_of_lt_of_le hx (Nat.pow_le_pow_right (by omega) (by omega)))
      simp [this]
    · simp [h0]

theorem shl_word (x q r k : Nat) (hx : x < 2 ^ 256) (hr : r < 64) :
    (wN x ((k : Int) - q) * 2 ^ r % 2 ^ 64) ||| (wN x ((k : Int) - q - 1) / 2 ^ (64 - r)) = x * 2 ^ (64 * q + r) / 2 ^ (64 * k) % 2 ^ 64 := by
  apply Nat.eq_of_testBit_eq
  intro j
  rw [Nat.testBit_or, Nat.testBit_mod_two_pow, Nat.testBit_mul_two_pow, Nat.testBit_div_two_pow, wN_bit x hx, wN_bit x hx, Nat.testBit_mod_two_pow, Nat.testBit_div_two_pow, Nat.testBit_mul_two_pow]
  by_cases hj : j < 64
  · by_cases hkq : q ≤ k
    · by_cases hrj : r ≤ j
      · have e1 : (((k : Int) - q).toNat * 64 + (j - r)) = j + 64 * k - (64 * q + r) := by omega
        have d1 : decide (0 ≤ (k : Int) - q) = true := by simp; omega
        have d2 : decide (j + (64 - r) < 64) = false := by simp; omega
        have d3 : decide (j - r < 64) = true := by simp; omega
        have d4 : decide (64 * q + r ≤ j + 64 * k) = true := by simp; omega
        rw [d1, d2, d3, d4, show 64 * ((k : Int) - q).toNat + (j - r) = j + 64 * k - (64 * q + r) by omega]
        simp [hj, hrj]
      · have d1 : decide (r ≤ j) = false := by simp; omega
        rw [d1]
        by_cases hk : q + 1 ≤ k
        · have d2 : decide (0 ≤ (k : Int) - q - 1) = true := by simp; omega
          have d3 : decide (j + (64 - r) < 64) = true := by simp; omega
          have d4 : decide (64 * q + r ≤ j + 64 * k) = true := by simp; omega
          rw [d2, d3, d4, show 64 * ((k : Int) - q - 1).toNat + (j + (64 - r)) = j + 64 * k - (64 * q + r) by omega]
          simp [hj]
        · have d2 : decide (0 ≤ (k : Int) - q - 1) = false := by simp; omega
          have d4 : decide (64 * q + r ≤ j + 64 * k) = false := by simp; omega
          rw [d2, d4]
          simp
    · have d1 : decide (0 ≤ (k : Int) - q) = false := by simp; omega
      have d2 : decide (0 ≤ (k : Int) - q - 1) = false := by simp; omega
      have d4 : decide (64 * q + r ≤ j + 64 * k) = false := by simp; omega
      rw [d1, d2, d4]
      simp
  · have d1 : decide (j + (64 - r) < 64) = false := by simp; omega
    have d2 : decide (j < 64) = false := by simp; omega
    rw [d1, d2]
    simp

theorem shr_word (x q r k : Nat) (hx : x < 2 ^ 256) (hr : r < 64) :
    (wN x ((k : Int) + q) / 2 ^ r) ||| (wN x ((k : Int) + q + 1) * 2 ^ (64 - r) % 2 ^ 64) = x / 2 ^ (64 * q + r) / 2 ^ (64 * k) % 2 ^ 64 := by
  apply Nat.eq_of_testBit_eq
  intro j
  rw [Nat.testBit_or, Nat.testBit_mod_two_pow, Nat.testBit_mul_two_pow, Nat.testBit_div_two_pow, wN_bit x hx, wN_bit x hx, Nat.testBit_mod_two_pow, Nat.testBit_div_two_pow, Nat.testBit_div_two_pow]
  have d0 : decide (0 ≤ (k : Int) + q) = true := by simp; omega
  have d1 : decide (0 ≤ (k : Int) + q + 1) = true := by simp; omega
  rw [d0, d1]
  by_cases hj : j < 64
  · by_cases h : j + r < 64
    · have d2 : decide (64 - r ≤ j) = false := by simp; omega
      rw [d2, show 64 * ((k : Int) + q).toNat + (j + r) = j + 64 * k + (64 * q + r) by omega]
      simp [hj, h]
    · have d2 : decide (j + r < 64) = false := by simp; omega
      have d3 : decide (64 - r ≤ j) = true := by simp; omega
      have d4 : decide (j - (64 - r) < 64) = true := by simp; omega
      rw [d2, d3, d4, show 64 * ((k : Int) + q + 1).toNat + (j - (64 - r)) = j + 64 * k + (64 * q + r) by omega]
      simp [hj]
  · have d2 : decide (j + r < 64) = false := by simp; omega
    have d3 : decide (j < 64) = false := by simp; omega
    rw [d2, d3]
    simp

theorem left_word (x n : Nat) (hx : x < 2 ^ 256) (q r : Int) (hq : (n : Int) / 64 = q) (hr : (n : Int) % 64 = r) (k : Nat) (u v : Int) (hu : u = (k : Int) - q) (hv : v = (k : Int) - q - 1) :
    bits .or .u64 (IntKind.u64.wrap (wordAt x u * 2 ^ r.toNat)) (wordAt x v / 2 ^ (64 - r).toNat) = ((x * 2 ^ n / 2 ^ (64 * k) % 2 ^ 64 : Nat) : Int) := by
  obtain ⟨Q, rfl⟩ := Int.eq_ofNat_of_zero_le (show 0 ≤ q by omega)
  obtain ⟨R, rfl⟩ := Int.eq_ofNat_of_zero_le (show 0 ≤ r by omega)
  have e : n = 64 * Q + R := by omega
  have hR : R < 64 := by omega
  subst hu hv e
  rw [wordAt_wN, wordAt_wN, ← shl_word x Q R k hx hR, IntKind.wrap_u64]
  have e1 : ((wN x ((k : Int) - (Q : Int)) : Nat) : Int) * 2 ^ (R : Int).toNat % 18446744073709551616 = ((wN x ((k : Int) - (Q : Int)) * 2 ^ R % 2 ^ 64 : Nat) : Int) := by simp
  have e2 : ((wN x ((k : Int) - (Q : Int) - 1) : Nat) : Int) / 2 ^ (64 - (R : Int)).toNat = ((wN x ((k : Int) - (Q : Int) - 1) / 2 ^ (64 - R) : Nat) : Int) := by
    rw [show (64 - (R : Int)).toNat = 64 - R by omega]; simp
  rw [e1, e2, bits_or_u64_nat _ _ (Nat.mod_lt _ (by decide)) (Nat.lt_of_le_of_lt (Nat.div_le_self _ _) (wN_lt _ _))]

theorem right_word (x n : Nat) (hx : x < 2 ^ 256) (q r : Int) (hq : (n : Int) / 64 = q) (hr : (n : Int) % 64 = r) (k : Nat) (u v : Int) (hu : u = (k : Int) + q) (hv : v = (k : Int) + q + 1) :
    bits .or .u64 (wordAt x u / 2 ^ r.toNat) (IntKind.u64.wrap (wordAt x v * 2 ^ (64 - r).toNat)) = ((x / 2 ^ n / 2 ^ (64 * k) % 2 ^ 64 : Nat) : Int) := by
  obtain ⟨Q, rfl⟩ := Int.eq_ofNat_of_zero_le (show 0 ≤ q by omega)
  obtain ⟨R, rfl⟩ := Int.eq_ofNat_of_zero_le (show 0 ≤ r by omega)
  have e : n = 64 * Q + R := by omega
  have hR : R < 64 := by omega
  subst hu hv e
  rw [wordAt_wN, wordAt_wN, ← shr_word x Q R k hx hR, IntKind.wrap_u64]
  have e1 : ((wN x ((k : Int) + (Q : Int) + 1) : Nat) : Int) * 2 ^ (64 - (R : Int)).toNat % 18446744073709551616 = ((wN x ((k : Int) + (Q : Int) + 1) * 2 ^ (64 - R) % 2 ^ 64 : Nat) : Int) := by
    rw [show (64 - (R : Int)).toNat = 64 - R by omega]; simp
  have e2 : ((wN x ((k : Int) + (Q : Int)) : Nat) : Int) / 2 ^ (R : Int).toNat = ((wN x ((k : Int) + (Q : Int)) / 2 ^ R : Nat) : Int) := by simp
  rw [e1, e2, bits_or_u64_nat _ _ (Nat.lt_of_le_of_lt (Nat.div_le_self _ _) (wN_lt _ _)) (Nat.mod_lt _ (by decide))]

theorem four_words (X : Nat) (v0 v1 v2 v3 : Int) (h0 : v0 = ((X / 2 ^ (64 * 0) % 2 ^ 64 : Nat) : Int)) (h1 : v1 = ((X / 2 ^ (64 * 1) % 2 ^ 64 : Nat) : Int)) (h2 : v2 = ((X / 2 ^ (64 * 2) % 2 ^ 64 : Nat) : Int)) (h3 : v3 = ((X / 2 ^ (64 * 3) % 2 ^ 64 : Nat) : Int)) :
    four (X % M4) = .agg #[.int .u64 v0, .int .u64 v1, .int .u64 v2, .int .u64 v3] := by
  subst h0 h1 h2 h3
  unfold M4
  refine four_eq _ _ _ _ _ ?_ ?_ ?_ ?_ ?_
  · unfold Wd; omega
  · unfold Wd; omega
  · unfold Wd; omega
  · unfold Wd; omega
  · omega

/-- The j-th byte of a number, from the lowest on. -/
def byteAt (x j : Nat) : Int := ((x / 2 ^ (8 * j) % 256 : Nat) : Int)
theorem byteAt_rng (x j : Nat) : 0 ≤ byteAt x j ∧ byteAt x j ≤ 255 := by unfold byteAt; omega
theorem byte_nat (x i k : Nat) (hk : k < 8) : x / 2 ^ (64 * i) % 2 ^ 64 / 2 ^ (8 * k) % 2 ^ 8 = x / 2 ^ (8 * (8 * i + k)) % 2 ^ 8 := by
  apply Nat.eq_of_testBit_eq
  intro j
  rw [Nat.testBit_mod_two_pow, Nat.testBit_div_two_pow, Nat.testBit_mod_two_pow, Nat.testBit_div_two_pow, Nat.testBit_mod_two_pow, Nat.testBit_div_two_pow]
  by_cases hj : j < 8
  · have d : decide (j + 8 * k < 64) = true := by simp; omega
    rw [d, show j + 8 * k + 64 * i = j + 8 * (8 * i + k) by omega]
    simp
  · simp [hj]
/-- A byte of a word. -/
theorem byte_word (x i k : Nat) (a : Int) (hk : k < 8) (ha : a = ((x / 2 ^ (64 * i) % 2 ^ 64 : Nat) : Int)) : IntKind.u8.wrap (a / 2 ^ (8 * (k : Int)).toNat) = byteAt x (8 * i + k) := by
  subst ha
  rw [IntKind.wrap_u8, show (8 * (k : Int)).toNat = 8 * k by omega]
  unfold byteAt
  have := byte_nat x i k hk
  have e : ((x / 2 ^ (64 * i) % 2 ^ 64 : Nat) : Int) / 2 ^ (8 * k) = ((x / 2 ^ (64 * i) % 2 ^ 64 / 2 ^ (8 * k) : Nat) : Int) := by simp
  rw [e]
  have h256 : (2 : Nat) ^ 8 = 256 := by decide
  rw [h256] at this
  rw [← this]
  simp

/-- The words of a number. -/
theorem four_open' (x : Nat) (hx : x < M4) : ∃ a0 a1 a2 a3 : Int, Wd a0 ∧ Wd a1 ∧ Wd a2 ∧ Wd a3 ∧ four x = .agg #[.int .u64 a0, .int .u64 a1, .int .u64 a2, .int .u64 a3] ∧
    a0 = ((x / 2 ^ (64 * 0) % 2 ^ 64 : Nat) : Int) ∧ a1 = ((x / 2 ^ (64 * 1) % 2 ^ 64 : Nat) : Int) ∧ a2 = ((x / 2 ^ (64 * 2) % 2 ^ 64 : Nat) : Int) ∧ a3 = ((x / 2 ^ (64 * 3) % 2 ^ 64 : Nat) : Int) := by
  obtain ⟨a0, a1, a2, a3, h0, h1, h2, h3, e, h⟩ := four_open x hx
  refine ⟨a0, a1, a2, a3, h0, h1, h2, h3, e, ?_⟩
  unfold Wd at *
  refine ⟨?_, ?_, ?_, ?_⟩ <;> omega

/-- The number of the first t bytes f 0, f 1, .., the lowest first. -/
def vb (f : Nat → Int) : Nat → Nat
  | 0 => 0
  | t + 1 => vb f t + (f t).toNat * 256 ^ t
theorem vb_lt (f : Nat → Int) (hf : ∀ j, 0 ≤ f j ∧ f j ≤ 255) : ∀ t, vb f t < 256 ^ t
  | 0 => by simp [vb]
  | t + 1 => by
    have h := vb_lt f hf t
    have := hf t
    have h2 : (f t).toNat * 256 ^ t ≤ 255 * 256 ^ t := Nat.mul_le_mul_right _ (by omega)
    simp only [vb, Nat.pow_succ]
    omega
theorem vb_add (f : Nat → Int) (s : Nat) : ∀ k, vb f (s + k) = vb f s + 256 ^ s * vb (fun j => f (s + j)) k
  | 0 => by simp [vb]
  | k + 1 => by
    rw [← Nat.add_assoc]
    simp only [vb]
    rw [vb_add f s k, Nat.mul_add, Nat.pow_add, Nat.add_assoc, Nat.mul_left_comm]
theorem vb_congr (f g : Nat → Int) : ∀ t, (∀ j, j < t → f j = g j) → vb f t = vb g t
  | 0, _ => rfl
  | t + 1, h => by simp only [vb]; rw [vb_congr f g t (fun j hj => h j (by omega)), h t (by omega)]
/-- The bytes of a number make that number. -/
theorem vb_byteAt (x : Nat) : ∀ t, vb (byteAt x) t = x % 256 ^ t
  | 0 => by simp [vb, Nat.mod_one]
  | t + 1 => by
    simp only [vb]
    rw [vb_byteAt x t]
    unfold byteAt
    rw [Int.toNat_natCast, Nat.pow_succ, Nat.mod_mul, show (2 : Nat) ^ (8 * t) = 256 ^ t by rw [Nat.pow_mul], Nat.mul_comm (256 ^ t)]
/-- One byte more into a word. -/
theorem or_byte (f : Nat → Int) (hf : ∀ j, 0 ≤ f j ∧ f j ≤ 255) (k : Nat) (hk : k < 8) :
    bits .or .u64 ((vb f k : Nat) : Int) (IntKind.u64.wrap (f k * 2 ^ (8 * (k : Int)).toNat)) = ((vb f (k + 1) : Nat) : Int) := by
  have hl := vb_lt f hf k
  have hl2 := vb_lt f hf (k + 1)
  have hk2 : (256 : Nat) ^ (k + 1) ≤ 256 ^ 8 := Nat.pow_le_pow_right (by omega) (by omega)
  have hk3 : (256 : Nat) ^ k ≤ 256 ^ 8 := Nat.pow_le_pow_right (by omega) (by omega)
  have h8 : (256 : Nat) ^ 8 = 18446744073709551616 := by decide
  obtain ⟨c, hc⟩ := Int.eq_ofNat_of_zero_le (hf k).1
  have hv : vb f (k + 1) = vb f k + c * 256 ^ k := by simp only [vb]; rw [hc, Int.toNat_natCast]
  have e : f k * 2 ^ (8 * (k : Int)).toNat = ((c * 256 ^ k : Nat) : Int) := by
    rw [hc, show (8 * (k : Int)).toNat = 8 * k by omega, show (256 : Nat) ^ k = 2 ^ (8 * k) by rw [Nat.pow_mul]]
    simp
  rw [e, IntKind.wrap_u64, Int.emod_eq_of_lt (Int.natCast_nonneg _) (by omega), bits_or_u64_nat _ _ (by omega) (by omega), hv]
  congr 1
  rw [show (256 : Nat) ^ k = 2 ^ (8 * k) by rw [Nat.pow_mul]] at hl ⊢
  rw [Nat.or_comm, Nat.mul_comm, ← Nat.two_pow_add_eq_or_of_lt hl, Nat.add_comm]

end Go.Proofs.YtkbiiolkekpkiaaDoor
