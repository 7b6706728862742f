/-
  The contracts of nat's smallPower and Power: the words of powers, or why there are none. Conditions: as each theorem says.
-/
import Derived.Test.YtdlocljnmaeikaaNatD
namespace Go.Proofs.Ytdlocljnmaeikaa
open Go.RowKit
set_option linter.unusedVariables false

theorem lt_nbits (x : Nat) : x < 2 ^ nbits x := by
  unfold nbits
  split
  · rename_i h; subst h; simp
  · exact Nat.lt_log2_self
theorem pow_ltW (x m K : Nat) (h : nbits x * m ≤ 64 * K) : x ^ m < 18446744073709551616 ^ (K + 1) := by
  have h1 : x ^ m ≤ (2 ^ nbits x) ^ m := Nat.pow_le_pow_left (Nat.le_of_lt (lt_nbits x)) m
  rw [← Nat.pow_mul] at h1
  have h2 : 2 ^ (nbits x * m) ≤ 2 ^ (64 * K) := Nat.pow_le_pow_right (by omega) h
  rw [Nat.pow_mul 2 64 K, show (2 : Nat) ^ 64 = 18446744073709551616 from by decide] at h2
  have h3 : 18446744073709551616 ^ K < 18446744073709551616 ^ (K + 1) := Nat.pow_lt_pow_right (by omega) (by omega)
  omega

set_option maxHeartbeats 400000 in
theorem len_any (x : Nat) (w : World) (h1 : x < 18446744073709551616) :
    Calls Try.prog 52 #[.int .u64 (x : Int)] w fun e w' => e = .returned (.int .i64 (nbits x : Int)) ∧ w' = w := by
  have hL := fun w => len64_any (x : Int) w (by omega) (by omega)
  rw [Int.toNat_natCast, bitLen_nbits x h1] at hL
  have HL : Hid (∀ w, Calls Try.prog 45 #[.int .u64 (x : Int)] w fun e w' => e = .returned (.int .i64 (nbits x : Int)) ∧ w' = w) := hL
  clear hL
  generalize nbits x = t at *
  go_enter Try.func52, Try.ntmps52
  go_wp2_with fail
  refine (HL.out _).mono ?_
  rintro e w1 ⟨rfl, hw1⟩; rw [hw1]; clear hw1 w1
  go_wp2_with fail
  go_ret
  exact ⟨rfl, rfl⟩

set_option maxHeartbeats 1000000 in
theorem smallPower_any (x n : Nat) (w : World) (hx : x ≤ 1) (hn : n ≤ 9223372036854775807) :
    Calls Try.prog 51 #[.int .u64 (x : Int), .int .i64 (n : Int)] w fun e w' => ∃ v, e = .returned v ∧ Can w' v (x ^ n) ∧ Below w.heap.size w w' := by
  have key : ∀ y : Nat, y ≤ 1 → Ww [y] := fun y hy j => by rcases j with _ | j <;> simp; omega
  by_cases h0 : n = 0
  · subst h0
    rw [Nat.pow_zero]
    go_enter Try.func51, Try.ntmps51
    go_wp2_with fail
    refine (cut_any [1] _ _ (SK.lit1 w 1) (by simp) (key 1 (by omega))).mono ?_
    rintro e w1 ⟨v, rfl, hC, hw1⟩; rw [hw1]; clear hw1 w1
    obtain ⟨ra, rn, rc, rfl⟩ := hC.shape
    have HC : Hid (Can (w.alloc (.cells #[.int .u64 1] 37)) (.slice ra rn rc) 1) := hC
    clear hC
    go_wp2_with fail
    go_ret
    exact ⟨_, rfl, HC.out, (Below.refl _ _).alloc (Nat.le_refl _) _⟩
  · have hb0 : ((n : Int) == 0) = false := beq_eq_false_iff_ne.2 (by omega)
    have e1 : x ^ n = x := by
      rcases (show x = 0 ∨ x = 1 by omega) with rfl | rfl
      · exact Nat.zero_pow (by omega)
      · exact Nat.one_pow n
    rw [e1]
    clear e1
    go_enter Try.func51, Try.ntmps51
    go_wp2_with fail
    refine (cut_any [x] _ _ (SK.lit1 w x) (by simp) (key x hx)).mono ?_
    rintro e w1 ⟨v, rfl, hC, hw1⟩; rw [hw1]; clear hw1 w1
    obtain ⟨ra, rn, rc, rfl⟩ := hC.shape
    have hv1 : valW [x] = x := by simp [valW]
    rw [hv1] at hC
    have HC : Hid (Can (w.alloc (.cells #[.int .u64 (x : Int)] 37)) (.slice ra rn rc) x) := hC
    clear hC hv1
    go_wp2_with fail
    go_ret
    exact ⟨_, rfl, HC.out, (Below.refl _ _).alloc (Nat.le_refl _) _⟩

theorem power_neg (x : Nat) (n : Int) (w : World) (hn : n < 0) :
    Calls Try.prog 28 #[.int .u64 (x : Int), .int .i64 n] w fun e w' => e = .returned (.tuple #[.slice none 0 0, .int .i64 2]) ∧ w' = w := by
  go_enter Try.func28, Try.ntmps28
  go_wp2_with fail
  go_ret2
  exact ⟨rfl, rfl⟩

set_option maxHeartbeats 400000 in
theorem power_small (x n : Nat) (w : World) (hx : x ≤ 1) (hn : n ≤ 9223372036854775807) :
    Calls Try.prog 28 #[.int .u64 (x : Int), .int .i64 (n : Int)] w fun e w' => ∃ v, e = .returned (.tuple #[v, .int .i64 0]) ∧ Can w' v (x ^ n) ∧ Below w.heap.size w w' := by
  have hx' : (x : Int) ≤ 1 := by omega
  obtain ⟨P, hP⟩ : ∃ P, Hid (x ^ n = P) := ⟨_, rfl⟩
  rw [hP.out]
  go_enter Try.func28, Try.ntmps28
  go_wp2_with fail
  refine (smallPower_any x n _ hx hn).mono ?_
  rintro e w1 ⟨v, rfl, hC, hb⟩
  rw [hP.out] at hC
  obtain ⟨ra, rn, rc, rfl⟩ := hC.shape
  have HC : Hid (Can w1 (.slice ra rn rc) P) := hC
  have HB : Hid (Below w.heap.size w w1) := hb
  clear hC hb
  go_wp2_with fail
  go_ret2
  exact ⟨_, rfl, HC.out, HB.out⟩

set_option maxHeartbeats 1000000 in
theorem power_big (x n : Nat) (w : World) (hx : 1 < x) (hx1 : x < 18446744073709551616) (hn : n ≤ 9223372036854775807) (hlim : 262144 / nbits x < n) :
    Calls Try.prog 28 #[.int .u64 (x : Int), .int .i64 (n : Int)] w fun e w' => e = .returned (.tuple #[.slice none 0 0, .int .i64 3]) ∧ w' = w := by
  have hx' : ¬ (x : Int) ≤ 1 := by omega
  have hL := fun w => len64_any (x : Int) w (by omega) (by omega)
  rw [Int.toNat_natCast, bitLen_nbits x hx1] at hL
  have hb : nbits x ≤ 64 := nbits_le x 64 (by omega)
  have hb0 : 0 < nbits x := by unfold nbits; rw [if_neg (by omega)]; omega
  have HL : Hid (∀ w, Calls Try.prog 45 #[.int .u64 (x : Int)] w fun e w' => e = .returned (.int .i64 (nbits x : Int)) ∧ w' = w) := hL
  clear hL
  generalize nbits x = t at *
  have ht1 : (t : Int) ≤ 64 := by omega
  have ht0 : 0 < (t : Int) := by omega
  have ht2 : ¬ t = 0 := by omega
  have hq : ((262144 / t : Nat) : Int) = 262144 / (t : Int) := by simp
  obtain ⟨q, hq2⟩ : ∃ q, 262144 / t = q := ⟨_, rfl⟩
  rw [hq2] at hq hlim
  have hq3 : 262144 / (t : Int) = (q : Int) := hq.symm
  have hlim' : (q : Int) < n := by omega
  have hq4 : (q : Int) ≤ 262144 := by have := Nat.div_le_self 262144 t; omega
  clear hq hq2
  go_enter Try.func28, Try.ntmps28
  go_wp2_with fail
  refine (HL.out _).mono ?_
  rintro e w1 ⟨rfl, hw1⟩; rw [hw1]; clear hw1 w1
  go_wp2_with fail
  go_ret2
  exact ⟨rfl, rfl⟩

theorem i64_and1 (n : Int) : bits .and .i64 n 1 = n % 2 := by
  have h1 : (BitVec.ofInt 64 1).toNat = 2 ^ 1 - 1 := by decide
  have key : (BitVec.ofInt 64 n &&& BitVec.ofInt 64 1).toNat = (n % ((2 ^ 64 : Nat) : Int)).toNat % 2 ^ 1 := by
    rw [BitVec.toNat_and, BitVec.toNat_ofInt, h1, Nat.and_two_pow_sub_one_eq_mod]
  show IntKind.i64.wrap ((BitVec.ofInt 64 n &&& BitVec.ofInt 64 1).toNat : Nat) = n % 2
  rw [key, IntKind.wrap_i64]
  omega
theorem pow_half (x n j : Nat) : x ^ (n / 2 ^ (j + 1)) * x ^ (n / 2 ^ (j + 1)) * x ^ (n / 2 ^ j % 2) = x ^ (n / 2 ^ j) := by
  rw [← Nat.pow_add, ← Nat.pow_add]
  congr 1
  rw [Nat.pow_succ, ← Nat.div_div_eq_div_mul]
  omega

set_option maxHeartbeats 2000000 in
theorem power_any (x n : Nat) (w : World) (hx : 1 < x) (hx1 : x < 18446744073709551616) (hn : n ≤ 9223372036854775807) (hlim : n ≤ 262144 / nbits x) :
    Calls Try.prog 28 #[.int .u64 (x : Int), .int .i64 (n : Int)] w fun e w' => ∃ v, e = .returned (.tuple #[v, .int .i64 0]) ∧ Can w' v (x ^ n) ∧ Below w.heap.size w w' := by
  have hx' : ¬ (x : Int) ≤ 1 := by omega
  have hL := fun w => len64_any (x : Int) w (by omega) (by omega)
  rw [Int.toNat_natCast, bitLen_nbits x hx1] at hL
  have hb : nbits x ≤ 64 := nbits_le x 64 (by omega)
  have hb0 : 0 < nbits x := by unfold nbits; rw [if_neg (by omega)]; omega
  have HL : Hid (∀ w, Calls Try.prog 45 #[.int .u64 (x : Int)] w fun e w' => e = .returned (.int .i64 (nbits x : Int)) ∧ w' = w) := hL
  clear hL
  obtain ⟨K, hK⟩ : ∃ K : Nat, K = 4096 := ⟨_, rfl⟩
  have Hsize : Hid (∀ m, m ≤ n → x ^ m < 18446744073709551616 ^ (K + 1)) := by
    intro m hm
    refine pow_ltW x m K ?_
    have : nbits x * m ≤ nbits x * (262144 / nbits x) := Nat.mul_le_mul_left _ (by omega)
    have := Nat.mul_div_le 262144 (nbits x)
    omega
  have hsh : Hid (n < 2 ^ nbits n) := lt_nbits n
  have hnb : nbits n ≤ 64 := nbits_le n 64 (by omega)
  have cL : Hid (∀ w, Calls Try.prog 52 #[.int .u64 (n : Int)] w fun e w' => e = .returned (.int .i64 (nbits n : Int)) ∧ w' = w) := fun w => len_any n w (by omega)
  generalize nbits x = t at *
  generalize nbits n = T at *
  have ht1 : (t : Int) ≤ 64 := by omega
  have ht0 : 0 < (t : Int) := by omega
  have ht2 : ¬ t = 0 := by omega
  have hq : ((262144 / t : Nat) : Int) = 262144 / (t : Int) := by simp
  obtain ⟨q, hq2⟩ : ∃ q, 262144 / t = q := ⟨_, rfl⟩
  rw [hq2] at hq hlim
  have hq3 : 262144 / (t : Int) = (q : Int) := hq.symm
  have hlim' : ¬ (q : Int) < n := by omega
  have hq4 : (q : Int) ≤ 262144 := by have := Nat.div_le_self 262144 t; omega
  have wc : IntKind.u64.wrap (n : Int) = (n : Int) := by rw [IntKind.wrap_u64]; omega
  have hT1 : (T : Int) ≤ 64 := by omega
  clear hq hq2
  go_enter Try.func28, Try.ntmps28
  go_wp2_with fail
  refine (HL.out _).mono ?_
  rintro e w1 ⟨rfl, hw1⟩; rw [hw1]; clear hw1 w1
  go_wp2_with fail
  refine (cL.out _).mono ?_
  rintro e w1 ⟨rfl, hw1⟩; rw [hw1]; clear hw1 w1
  go_wp2_with fail
  go_loopw [6, 7] (fun v y W => ∃ k : Nat, k ≤ T ∧ y = .int .i64 ((k : Int) - 1) ∧ Can W v (x ^ (n / 2 ^ k)) ∧ Below w.heap.size w W) (fun _ y _ => (intOf y + 1).toNat)
  case atStart =>
    refine ⟨T, Nat.le_refl _, rfl, ?_, (Below.refl _ _).alloc (Nat.le_refl _) _⟩
    rw [Nat.div_eq_of_lt hsh.out, Nat.pow_zero]
    exact ⟨[1], SK.lit1 w 1, fun j => by rcases j with _ | j <;> simp, Or.inr (by simp), by simp [valW]⟩
  case round =>
    obtain ⟨k, hk, rfl, hC, hbel⟩ := hrel
    have hsz := hbel.size
    obtain ⟨ra, rn, rc, rfl⟩ := hC.shape
    have HC : Hid (Can wr (.slice ra rn rc) (x ^ (n / 2 ^ k))) := hC
    have HB : Hid (Below w.heap.size w wr) := hbel
    clear hC hbel
    cases k with
    | zero =>
      go_wp2_with fail
      go_ret2
      exact ⟨_, rfl, by have := HC.out; rwa [Nat.pow_zero, Nat.div_one] at this, HB.out⟩
    | succ j =>
      have e1 : ((j + 1 : Nat) : Int) - 1 = (j : Int) := by omega
      rw [e1]
      have hj0 : (0 : Int) ≤ (j : Int) := by omega
      have hj1 : (j : Int) ≤ 64 := by omega
      go_wp2_with fail
      obtain ⟨l, hs, hlw, hlz, hlv⟩ := HC.out
      have hll := can_len l (K + 1) hlw hlz (by rw [hlv]; exact Hsize.out _ (Nat.div_le_self _ _))
      refine (mulN_any l l _ _ _ hs hs hlw hlw (by omega) (by omega)).mono ?_
      rintro e w1 ⟨v1, rfl, h1, g1⟩
      rw [hlv] at h1
      obtain ⟨sa, sn, sc, rfl⟩ := h1.shape
      have H1 : Hid (Can w1 (.slice sa sn sc) (x ^ (n / 2 ^ (j + 1)) * x ^ (n / 2 ^ (j + 1)))) := h1
      have G1 : Hid (Below w.heap.size w w1) := HB.out.trans (g1.mono hsz)
      clear h1 g1 hs hlw hlz hlv hll
      have hbit : bits BinOp.and IntKind.i64 ((n : Int) / 2 ^ j) 1 = ((n / 2 ^ j % 2 : Nat) : Int) := by
        rw [i64_and1]; simp
      have hP := pow_half x n j
      obtain ⟨B, hB⟩ : ∃ B, n / 2 ^ j % 2 = B := ⟨_, rfl⟩
      rw [hB] at hbit hP
      have HP : Hid (x ^ (n / 2 ^ (j + 1)) * x ^ (n / 2 ^ (j + 1)) * x ^ B = x ^ (n / 2 ^ j)) := hP
      have HS : Hid (x ^ (n / 2 ^ (j + 1)) * x ^ (n / 2 ^ (j + 1)) < 18446744073709551616 ^ (K + 1)) := by
        unfold Hid
        rw [← Nat.pow_add]
        refine Hsize.out _ ?_
        rw [Nat.pow_succ, ← Nat.div_div_eq_div_mul]
        have := Nat.div_le_self n (2 ^ j)
        omega
      by_cases h1 : B = 1
      · have h1' : (bits BinOp.and IntKind.i64 ((n : Int) / 2 ^ j) 1 == 1) = true := by rw [hbit, h1]; rfl
        subst h1
        clear hbit hB hP
        go_wp2_with fail
        obtain ⟨l, hs, hlw, hlz, hlv⟩ := H1.out
        have hll := can_len l (K + 1) hlw hlz (by rw [hlv]; exact HS.out)
        refine (mulWordN_any l _ x _ hs hlw (by omega) hx1).mono ?_
        rintro e w2 ⟨v2, rfl, h2, g2⟩
        have hP2 := HP.out
        rw [Nat.pow_one] at hP2
        rw [hlv, hP2] at h2
        obtain ⟨ta, tn, tc, rfl⟩ := h2.shape
        have H2 : Hid (Can w2 (.slice ta tn tc) (x ^ (n / 2 ^ j))) := h2
        have G2 : Hid (Below w.heap.size w w2) := G1.out.trans (g2.mono G1.out.size)
        clear h2 g2 hs hlw hlz hlv hll hP2
        go_wp2_with fail
        go_roundw
        case rel => exact ⟨j, by omega, rfl, H2.out, G2.out⟩
        case measure => simp [intOf]
      · have h1' : (bits BinOp.and IntKind.i64 ((n : Int) / 2 ^ j) 1 == 1) = false := by rw [hbit, beq_eq_false_iff_ne]; omega
        obtain rfl : B = 0 := by omega
        have HP2 : Hid (x ^ (n / 2 ^ (j + 1)) * x ^ (n / 2 ^ (j + 1)) = x ^ (n / 2 ^ j)) := by unfold Hid; rw [← hP, Nat.pow_zero, Nat.mul_one]
        clear hbit hB hP h1
        go_wp2_with fail
        go_roundw
        case rel => exact ⟨j, by omega, rfl, by rw [← HP2.out]; exact H1.out, G1.out⟩
        case measure => simp [intOf]

end Go.Proofs.Ytdlocljnmaeikaa
