/-
  The contract of the library's bits.Div64. Conditions: as each theorem says.
-/
import Derived.Test.YtdlocljnmaeikaaNatE
import Derived.Test.YtdlocljnmaeikaaDivV
import Derived.Deep.DeepCutAuto
import Derived.Deep.CutBlock
namespace Go.Proofs.Ytdlocljnmaeikaa
open Go.RowKit
set_option linter.unusedVariables false

set_option maxHeartbeats 400000 in
theorem lz64_any (x : Nat) (w : World) (h1 : x < 18446744073709551616) :
    Calls Try.prog 59 #[.int .u64 (x : Int)] w fun e w' => e = .returned (.int .i64 (64 - (nbits x : Int))) ∧ w' = w := by
  have hL := fun w => len64_any (x : Int) w (by omega) (by omega)
  rw [Int.toNat_natCast, bitLen_nbits x h1] at hL
  have hb : nbits x ≤ 64 := nbits_le x 64 (by omega)
  have HL : Hid (∀ w, Calls Try.prog 45 #[.int .u64 (x : Int)] w fun e w' => e = .returned (.int .i64 (nbits x : Int)) ∧ w' = w) := hL
  clear hL
  generalize nbits x = t at *
  have hb' : (t : Int) ≤ 64 := by omega
  go_enter Try.func59, Try.ntmps59
  go_wp2_with fail
  refine (HL.out _).mono ?_
  rintro e w1 ⟨rfl, hw1⟩; rw [hw1]; clear hw1 w1
  go_wp2_with fail
  go_ret
  exact ⟨rfl, rfl⟩

set_option maxRecDepth 100000 in
set_option maxHeartbeats 1000000 in
theorem div64_small (lo y : Nat) (w : World) (h1 : lo < 18446744073709551616) (hy : y < 18446744073709551616) (hy0 : 0 < y) :
    Calls Try.prog 46 #[.int .u64 0, .int .u64 (lo : Int), .int .u64 (y : Int)] w fun e w' => e = .returned (.tuple #[.int .u64 ((lo / y : Nat) : Int), .int .u64 ((lo % y : Nat) : Int)]) ∧ ∃ n, w' = w.drewN n := by
  obtain ⟨q, hq⟩ : ∃ q : Nat, lo / y = q := ⟨_, rfl⟩
  obtain ⟨r, hr⟩ : ∃ r : Nat, lo % y = r := ⟨_, rfl⟩
  have hy1 : ((y : Int) == 0) = false := beq_eq_false_iff_ne.2 (by omega)
  have hy2 : ¬ (y : Int) ≤ 0 := by omega
  have hy3 : ¬ y = 0 := by omega
  have hqe : (lo : Int) / (y : Int) = (q : Int) := by rw [← hq]; simp
  have hre : (lo : Int) % (y : Int) = (r : Int) := by rw [← hr]; simp
  have hqb : (q : Int) < 18446744073709551616 := by have := Nat.div_le_self lo y; omega
  rw [hq, hr]
  clear hq hr
  go_enter Try.func46, Try.ntmps46
  go_wp2_with fail
  go_quiet (fail)
  go_wp2_with fail
  rw [hre]
  go_ret2
  exact ⟨rfl, nq, rfl⟩

set_option maxRecDepth 100000 in
set_option maxHeartbeats 4000000 in
theorem div64_walk (hi lo y s Y yn1 yn0 U L u1 u0 q1 U2 q0 Q R : Nat) (w : World) (hy : y < 18446744073709551616) (hhy : hi < y) (hh : 0 < hi) (hs : s ≤ 63)
    (hz : ∀ w, Calls Try.prog 59 #[.int .u64 (y : Int)] w fun e w' => e = .returned (.int .i64 (s : Int)) ∧ w' = w)
    (e1 : IntKind.u64.wrap ((y : Int) * 2 ^ s) = (Y : Int)) (e2 : (Y : Int) / 4294967296 = (yn1 : Int)) (e3 : bits .and .u64 (Y : Int) 4294967295 = (yn0 : Int))
    (e4 : bits .or .u64 (IntKind.u64.wrap ((hi : Int) * 2 ^ s)) ((lo : Int) / 2 ^ (64 - s)) = (U : Int)) (e5 : IntKind.u64.wrap ((lo : Int) * 2 ^ s) = (L : Int)) (e6 : (L : Int) / 4294967296 = (u1 : Int)) (e7 : bits .and .u64 (L : Int) 4294967295 = (u0 : Int))
    (hY : Hid (Y = yn1 * 4294967296 + yn0)) (hn1 : 2147483648 ≤ yn1) (hn1' : yn1 < 4294967296) (hn0 : yn0 < 4294967296) (hu1 : u1 < 4294967296) (hu0 : u0 < 4294967296) (hU : Hid (U < Y))
    (hq1 : Hid (q1 = (U * 4294967296 + u1) / Y)) (hU2 : Hid (U2 = (U * 4294967296 + u1) % Y)) (hq0 : Hid (q0 = (U2 * 4294967296 + u0) / Y)) (hR : Hid (R / 2 ^ s = Q)) (hR2 : Hid (R = (U2 * 4294967296 + u0) % Y)) :
    Calls Try.prog 46 #[.int .u64 (hi : Int), .int .u64 (lo : Int), .int .u64 (y : Int)] w fun e w' => e = .returned (.tuple #[.int .u64 ((q1 * 4294967296 + q0 : Nat) : Int), .int .u64 (Q : Int)]) ∧ w' = w := by
  have hy1 : ((y : Int) == 0) = false := beq_eq_false_iff_ne.2 (by omega)
  have hy2 : ¬ (y : Int) ≤ hi := by omega
  have hh1 : ((hi : Int) == 0) = false := beq_eq_false_iff_ne.2 (by omega)
  have hs64 : (s : Int) ≤ 63 := by omega
  have Hz : Hid (∀ w, Calls Try.prog 59 #[.int .u64 (y : Int)] w fun e w' => e = .returned (.int .i64 (s : Int)) ∧ w' = w) := hz
  clear hz
  have hn1a : (2147483648 : Int) ≤ yn1 := by omega
  have hn1b : (yn1 : Int) < 4294967296 := by omega
  have hn1c : ¬ yn1 = 0 := by omega
  have hn0a : (yn0 : Int) < 4294967296 := by omega
  have hu1a : (u1 : Int) < 4294967296 := by omega
  have hu0a : (u0 : Int) < 4294967296 := by omega
  obtain ⟨qa, hqa⟩ : ∃ qa : Nat, Hid (U / yn1 = qa) := ⟨_, rfl⟩
  obtain ⟨ra, hra⟩ : ∃ ra : Nat, Hid (U % yn1 = ra) := ⟨_, rfl⟩
  have e8 : (U : Int) / (yn1 : Int) = (qa : Int) := by rw [← hqa.out]; simp
  have hY0 : 0 < yn1 * 4294967296 + yn0 := by omega
  have hUy : U < yn1 * 4294967296 + yn0 := by rw [← hY.out]; exact hU.out
  have hUb : (U : Int) < 18446744073709551616 := by omega
  have D0 := Dig.start U u1 yn1 yn0 hn1 hn0 hu1 hUy
  rw [hqa.out, hra.out] at D0
  have hrab : ra < yn1 := by rw [← hra.out]; exact Nat.mod_lt _ (by omega)
  have hqab : (qa : Int) ≤ 4294967297 := by have := D0.le; omega
  obtain ⟨P, hP⟩ : ∃ P : Nat, qa * yn1 = P := ⟨_, rfl⟩
  have e9 : (qa : Int) * (yn1 : Int) = (P : Int) := by rw [← hP]; simp
  have hPU : P + ra = U := by have := D0.eq; omega
  have e10 : (U : Int) - (P : Int) = (ra : Int) := by omega
  have hPb : (P : Int) < 18446744073709551616 := by omega
  have HD0 : Hid (Dig U u1 yn1 yn0 qa ra) := D0
  have Hrab : Hid (ra < 4294967296) := by unfold Hid; omega
  have Hq1 : Hid (q1 = (U * 4294967296 + u1) / (yn1 * 4294967296 + yn0)) := by unfold Hid; rw [← hY.out]; exact hq1.out
  have HUy : Hid (U < yn1 * 4294967296 + yn0) := hUy
  have HY0 : Hid (0 < yn1 * 4294967296 + yn0) := hY0
  clear D0 hP hPU hUy hY0 hrab
  go_enter Try.func46, Try.ntmps46
  go_wp2_with fail
  refine (Hz.out _).mono ?_
  rintro e w1 ⟨rfl, hw1⟩; rw [hw1]; clear hw1 w1
  go_upto_block 0 with fail
  go_cut [15] (fun x W => x = .int .u64 (q1 : Int) ∧ W = w)
  case first =>
    go_wp2_with fail
    go_loop [15, 16] (fun x z => ∃ q r : Nat, x = .int .u64 (q : Int) ∧ z = .int .u64 (r : Int) ∧ r < 4294967296 ∧ Hid (Dig U u1 yn1 yn0 q r)) (fun _ z => 8589934592 - (intOf z).toNat)
    case atStart => exact ⟨qa, ra, rfl, rfl, Hrab.out, HD0⟩
    case round =>
      clear e8 e9 e10 hqab hPb HD0 Hrab
      obtain ⟨q, r, rfl, rfl, hr, D⟩ := hrel
      have hqb : (q : Int) ≤ 4294967297 := by have := D.out.le; omega
      have hrb : (r : Int) < 4294967296 := by omega
      by_cases hq : 4294967296 ≤ q
      · obtain ⟨hq0, D2⟩ := D.out.high HY0.out hu1 HUy.out (Or.inl hq)
        obtain ⟨k, rfl⟩ : ∃ k, q = k + 1 := ⟨q - 1, by omega⟩
        rw [Nat.add_sub_cancel] at D2
        have hq' : (4294967296 : Int) ≤ (k : Int) + 1 := by omega
        have HD2 : Hid (Dig U u1 yn1 yn0 k (r + yn1)) := D2
        have hkb : (k : Int) ≤ 4294967296 := by omega
        clear D D2 hqb hq0
        by_cases hr2 : 4294967296 ≤ r + yn1
        · have hr2' : (4294967296 : Int) ≤ (r : Int) + (yn1 : Int) := by omega
          have hk : Hid (k = q1) := by unfold Hid; rw [Hq1.out]; exact HD2.out.out HY0.out hn0 (by omega) hr2
          go_wp2_with fail
          go_meet
          exact ⟨by rw [hk.out], rfl⟩
        · have hr2' : ¬ (4294967296 : Int) ≤ (r : Int) + (yn1 : Int) := by omega
          go_wp2_with fail
          go_round
          case rel => exact ⟨k, r + yn1, by go_num, by go_num, by omega, HD2⟩
          case measure => simp [intOf]; omega
      · have hq' : ¬ (4294967296 : Int) ≤ (q : Int) := by omega
        obtain ⟨m, hm⟩ : ∃ m : Nat, q * yn0 = m := ⟨_, rfl⟩
        have hme : (q : Int) * (yn0 : Int) = (m : Int) := by rw [← hm]; simp
        have hmb : (m : Int) < 18446744073709551616 := by
          have := Nat.mul_le_mul (show q ≤ 4294967295 by omega) (show yn0 ≤ 4294967295 by omega)
          omega
        by_cases ht : 4294967296 * r + u1 < m
        · obtain ⟨hq0, D2⟩ := D.out.high HY0.out hu1 HUy.out (Or.inr (by rw [hm]; exact ht))
          have ht' : 4294967296 * (r : Int) + (u1 : Int) < (m : Int) := by omega
          have hqc : (1 : Int) ≤ (q : Int) := by omega
          have HD2 : Hid (Dig U u1 yn1 yn0 (q - 1) (r + yn1)) := D2
          have hk2 : ((q - 1 : Nat) : Int) = (q : Int) - 1 := by omega
          have Hk2 : Hid (((q - 1 : Nat) : Int) = (q : Int) - 1) := hk2
          clear D D2 hk2 hm
          by_cases hr2 : 4294967296 ≤ r + yn1
          · have hr2' : (4294967296 : Int) ≤ (r : Int) + (yn1 : Int) := by omega
            have hk : Hid (q - 1 = q1) := by unfold Hid; rw [Hq1.out]; exact HD2.out.out HY0.out hn0 (by omega) hr2
            go_wp2_with fail
            go_meet
            exact ⟨by rw [← hk.out, Hk2.out], rfl⟩
          · have hr2' : ¬ (4294967296 : Int) ≤ (r : Int) + (yn1 : Int) := by omega
            go_wp2_with fail
            go_round
            case rel => exact ⟨q - 1, r + yn1, by rw [Hk2.out], by go_num, by omega, HD2⟩
            case measure => simp [intOf]; omega
        · have ht' : ¬ 4294967296 * (r : Int) + (u1 : Int) < (m : Int) := by omega
          have hk : Hid (q = q1) := by unfold Hid; rw [Hq1.out]; exact D.out.low HY0.out (by rw [hm]; omega)
          clear D hm
          go_wp2_with fail
          go_meet
          exact ⟨by rw [← hk.out], rfl⟩
  case rest =>
    obtain ⟨rfl, hwc⟩ := hcut
    rw [hwc]
    clear hwc wc e8 e9 e10 hqab hPb HD0 Hrab hra hqa Hz
    have hYlt : Y < 18446744073709551616 := by have := hY.out; omega
    have hY0' : 0 < Y := by have := hY.out; omega
    have hq1b : (q1 : Int) ≤ 4294967295 := by
      have := dig_lt U u1 yn1 yn0 hu1 HUy.out
      rw [← Hq1.out] at this
      omega
    obtain ⟨A1, hA1⟩ : ∃ A1 : Nat, IntKind.u64.wrap ((U : Int) * 4294967296) = (A1 : Int) := ⟨U * 4294967296 % 18446744073709551616, by rw [IntKind.wrap_u64]; omega⟩
    obtain ⟨A2, hA2⟩ : ∃ A2 : Nat, IntKind.u64.wrap ((q1 : Int) * (Y : Int)) = (A2 : Int) := Int.eq_ofNat_of_zero_le (by rw [IntKind.wrap_u64]; exact Int.emod_nonneg _ (by omega))
    have hA1b : (A1 : Int) ≤ 18446744069414584320 := by rw [IntKind.wrap_u64] at hA1; omega
    have hA3 := left_word_eq U u1 Y q1 hYlt hY0' hq1.out
    rw [hA1, hA2, ← hU2.out] at hA3
    have hU2y : U2 < yn1 * 4294967296 + yn0 := by rw [hU2.out, ← hY.out]; exact Nat.mod_lt _ hY0'
    have hU2b : (U2 : Int) < 18446744073709551616 := by omega
    have D0 := Dig.start U2 u0 yn1 yn0 hn1 hn0 hu0 hU2y
    obtain ⟨qa, hqa⟩ : ∃ qa : Nat, U2 / yn1 = qa := ⟨_, rfl⟩
    obtain ⟨ra, hra⟩ : ∃ ra : Nat, U2 % yn1 = ra := ⟨_, rfl⟩
    have e8 : (U2 : Int) / (yn1 : Int) = (qa : Int) := by rw [← hqa]; simp
    rw [hqa, hra] at D0
    have hrab : ra < yn1 := by rw [← hra]; exact Nat.mod_lt _ (by omega)
    have hqab : (qa : Int) ≤ 4294967297 := by have := D0.le; omega
    obtain ⟨P, hP⟩ : ∃ P : Nat, qa * yn1 = P := ⟨_, rfl⟩
    have e9 : (qa : Int) * (yn1 : Int) = (P : Int) := by rw [← hP]; simp
    have hPU : P + ra = U2 := by have := D0.eq; omega
    have e10 : (U2 : Int) - (P : Int) = (ra : Int) := by omega
    have hPb : (P : Int) < 18446744073709551616 := by omega
    have HD0 : Hid (Dig U2 u0 yn1 yn0 qa ra) := D0
    have Hrab : Hid (ra < 4294967296) := by unfold Hid; omega
    have Hq0 : Hid (q0 = (U2 * 4294967296 + u0) / (yn1 * 4294967296 + yn0)) := by unfold Hid; rw [← hY.out]; exact hq0.out
    clear HUy
    have HUy : Hid (U2 < yn1 * 4294967296 + yn0) := hU2y
    clear D0 hP hPU hU2y hrab hqa hra
    go_upto_block 2 with fail
    go_cut [18] (fun x W => x = .int .u64 (q0 : Int) ∧ W = w)
    case first =>
      go_wp2_with fail
      go_loop [18, 16] (fun x z => ∃ q r : Nat, x = .int .u64 (q : Int) ∧ z = .int .u64 (r : Int) ∧ r < 4294967296 ∧ Hid (Dig U2 u0 yn1 yn0 q r)) (fun _ z => 8589934592 - (intOf z).toNat)
      case atStart => exact ⟨qa, ra, rfl, rfl, Hrab.out, HD0⟩
      case round =>
        clear e8 e9 e10 hqab hPb HD0 Hrab
        obtain ⟨q, r, rfl, rfl, hr, D⟩ := hrel
        have hqb : (q : Int) ≤ 4294967297 := by have := D.out.le; omega
        have hrb : (r : Int) < 4294967296 := by omega
        by_cases hq : 4294967296 ≤ q
        · obtain ⟨hq0, D2⟩ := D.out.high HY0.out hu0 HUy.out (Or.inl hq)
          obtain ⟨k, rfl⟩ : ∃ k, q = k + 1 := ⟨q - 1, by omega⟩
          rw [Nat.add_sub_cancel] at D2
          have hq' : (4294967296 : Int) ≤ (k : Int) + 1 := by omega
          have HD2 : Hid (Dig U2 u0 yn1 yn0 k (r + yn1)) := D2
          have hkb : (k : Int) ≤ 4294967296 := by omega
          clear D D2 hqb hq0
          by_cases hr2 : 4294967296 ≤ r + yn1
          · have hr2' : (4294967296 : Int) ≤ (r : Int) + (yn1 : Int) := by omega
            have hk : Hid (k = q0) := by unfold Hid; rw [Hq0.out]; exact HD2.out.out HY0.out hn0 (by omega) hr2
            go_wp2_with fail
            go_meet
            exact ⟨by rw [hk.out], rfl⟩
          · have hr2' : ¬ (4294967296 : Int) ≤ (r : Int) + (yn1 : Int) := by omega
            go_wp2_with fail
            go_round
            case rel => exact ⟨k, r + yn1, by go_num, by go_num, by omega, HD2⟩
            case measure => simp [intOf]; omega
        · have hq' : ¬ (4294967296 : Int) ≤ (q : Int) := by omega
          obtain ⟨m, hm⟩ : ∃ m : Nat, q * yn0 = m := ⟨_, rfl⟩
          have hme : (q : Int) * (yn0 : Int) = (m : Int) := by rw [← hm]; simp
          have hmb : (m : Int) < 18446744073709551616 := by
            have := Nat.mul_le_mul (show q ≤ 4294967295 by omega) (show yn0 ≤ 4294967295 by omega)
            omega
          by_cases ht : 4294967296 * r + u0 < m
          · obtain ⟨hq0, D2⟩ := D.out.high HY0.out hu0 HUy.out (Or.inr (by rw [hm]; exact ht))
            have ht' : 4294967296 * (r : Int) + (u0 : Int) < (m : Int) := by omega
            have hqc : (1 : Int) ≤ (q : Int) := by omega
            have HD2 : Hid (Dig U2 u0 yn1 yn0 (q - 1) (r + yn1)) := D2
            have hk2 : ((q - 1 : Nat) : Int) = (q : Int) - 1 := by omega
            have Hk2 : Hid (((q - 1 : Nat) : Int) = (q : Int) - 1) := hk2
            clear D D2 hk2 hm
            by_cases hr2 : 4294967296 ≤ r + yn1
            · have hr2' : (4294967296 : Int) ≤ (r : Int) + (yn1 : Int) := by omega
              have hk : Hid (q - 1 = q0) := by unfold Hid; rw [Hq0.out]; exact HD2.out.out HY0.out hn0 (by omega) hr2
              go_wp2_with fail
              go_meet
              exact ⟨by rw [← hk.out, Hk2.out], rfl⟩
            · have hr2' : ¬ (4294967296 : Int) ≤ (r : Int) + (yn1 : Int) := by omega
              go_wp2_with fail
              go_round
              case rel => exact ⟨q - 1, r + yn1, by rw [Hk2.out], by go_num, by omega, HD2⟩
              case measure => simp [intOf]; omega
          · have ht' : ¬ 4294967296 * (r : Int) + (u0 : Int) < (m : Int) := by omega
            have hk : Hid (q = q0) := by unfold Hid; rw [Hq0.out]; exact D.out.low HY0.out (by rw [hm]; omega)
            clear D hm
            go_wp2_with fail
            go_meet
            exact ⟨by rw [← hk.out], rfl⟩
    case rest =>
      obtain ⟨rfl, hwc⟩ := hcut
      rw [hwc]
      clear hwc wc e8 e9 e10 hqab hPb HD0 Hrab hA1 hA2 hA3
      have hq0b : (q0 : Int) ≤ 4294967295 := by
        have := dig_lt U2 u0 yn1 yn0 hu0 HUy.out
        rw [← Hq0.out] at this
        omega
      obtain ⟨B1, hB1⟩ : ∃ B1 : Nat, IntKind.u64.wrap ((U2 : Int) * 4294967296) = (B1 : Int) := ⟨U2 * 4294967296 % 18446744073709551616, by rw [IntKind.wrap_u64]; omega⟩
      obtain ⟨B2, hB2⟩ : ∃ B2 : Nat, IntKind.u64.wrap ((q0 : Int) * (Y : Int)) = (B2 : Int) := Int.eq_ofNat_of_zero_le (by rw [IntKind.wrap_u64]; exact Int.emod_nonneg _ (by omega))
      have hB1b : (B1 : Int) ≤ 18446744069414584320 := by rw [IntKind.wrap_u64] at hB1; omega
      have hB3 := left_word_eq U2 u0 Y q0 hYlt hY0' hq0.out
      rw [hB1, hB2, ← hR2.out] at hB3
      have hRe : (R : Int) / 2 ^ s = (Q : Int) := by rw [← hR.out]; simp
      go_wp2_with fail
      go_ret2
      exact ⟨by simp, rfl⟩

theorem div64_any (hi lo y : Nat) (w : World) (hlo : lo < 18446744073709551616) (hy : y < 18446744073709551616) (hhy : hi < y) :
    Calls Try.prog 46 #[.int .u64 (hi : Int), .int .u64 (lo : Int), .int .u64 (y : Int)] w fun e w' => e = .returned (.tuple #[.int .u64 (((hi * 18446744073709551616 + lo) / y : Nat) : Int), .int .u64 (((hi * 18446744073709551616 + lo) % y : Nat) : Int)]) ∧ ∃ n, w' = w.drewN n := by
  by_cases hh : hi = 0
  · subst hh
    rw [Nat.zero_mul, Nat.zero_add]
    exact div64_small lo y w hlo hy hhy
  · have hb : nbits y ≤ 64 := nbits_le y 64 (by omega)
    have hb0 : 0 < nbits y := by unfold nbits; rw [if_neg (by omega)]; omega
    obtain ⟨s, hs⟩ : ∃ s, s = 64 - nbits y := ⟨_, rfl⟩
    have hs63 : s ≤ 63 := by omega
    have hz : ∀ w, Calls Try.prog 59 #[.int .u64 (y : Int)] w fun e w' => e = .returned (.int .i64 (s : Int)) ∧ w' = w := by
      intro w
      have := lz64_any y w hy
      rwa [show 64 - (nbits y : Int) = (s : Int) by omega] at this
    have hYlt : y * 2 ^ s < 18446744073709551616 := by
      have h1 := lt_nbits' y
      have h2 : y * 2 ^ s < 2 ^ nbits y * 2 ^ s := Nat.mul_lt_mul_of_pos_right h1 (Nat.two_pow_pos s)
      rwa [← Nat.pow_add, show nbits y + s = 64 by omega] at h2
    have hYge : 9223372036854775808 ≤ y * 2 ^ s := by
      have h1 := nbits_pos' (show y ≠ 0 by omega)
      have h2 : 2 ^ (nbits y - 1) * 2 ^ s ≤ y * 2 ^ s := Nat.mul_le_mul_right _ h1
      rwa [← Nat.pow_add, show nbits y - 1 + s = 63 by omega] at h2
    have hhlt : hi * 2 ^ s < 18446744073709551616 := Nat.lt_of_le_of_lt (Nat.mul_le_mul_right _ (by omega)) hYlt
    have hlt2 : lo / 2 ^ (64 - s) < 2 ^ s := by
      rw [Nat.div_lt_iff_lt_mul (Nat.two_pow_pos _), ← Nat.pow_add, show s + (64 - s) = 64 by omega]
      exact hlo
    have hU : hi * 2 ^ s + lo / 2 ^ (64 - s) < y * 2 ^ s := by
      have h3 : (hi + 1) * 2 ^ s ≤ y * 2 ^ s := Nat.mul_le_mul_right _ (by omega)
      rw [Nat.add_mul, Nat.one_mul] at h3
      omega
    have e4 := two_words hi lo s hs63 hlo hhlt
    have hmv := moved hi lo s hs63 hlo
    obtain ⟨Y, hY⟩ : ∃ Y, y * 2 ^ s = Y := ⟨_, rfl⟩
    obtain ⟨U, hUe⟩ : ∃ U, hi * 2 ^ s + lo / 2 ^ (64 - s) = U := ⟨_, rfl⟩
    obtain ⟨L, hL⟩ : ∃ L, lo * 2 ^ s % 18446744073709551616 = L := ⟨_, rfl⟩
    rw [hUe, hL] at hmv
    rw [hUe] at e4 hU
    rw [hY] at hYlt hYge hU
    have hLb : L < 18446744073709551616 := by rw [← hL]; exact Nat.mod_lt _ (by omega)
    have e1 : IntKind.u64.wrap ((y : Int) * 2 ^ s) = (Y : Int) := by
      have : (y : Int) * 2 ^ s = ((y * 2 ^ s : Nat) : Int) := by simp
      rw [this, hY, IntKind.wrap_u64]; omega
    have e5 : IntKind.u64.wrap ((lo : Int) * 2 ^ s) = (L : Int) := by
      have : (lo : Int) * 2 ^ s = ((lo * 2 ^ s : Nat) : Int) := by simp
      rw [this, IntKind.wrap_u64, ← hL]; omega
    have e3 := mask32 Y hYlt
    have e7 := mask32 L hLb
    have key := div_whole (hi * 18446744073709551616 + lo) y s U L (L / 4294967296) (L % 4294967296) Y ((U * 4294967296 + L / 4294967296) / Y) (((U * 4294967296 + L / 4294967296) % Y * 4294967296 + L % 4294967296) / Y) ((U * 4294967296 + L / 4294967296) % Y) (((U * 4294967296 + L / 4294967296) % Y * 4294967296 + L % 4294967296) % Y) hY.symm (by omega) hmv (by omega) rfl rfl rfl rfl
    refine (div64_walk hi lo y s Y (Y / 4294967296) (Y % 4294967296) U L (L / 4294967296) (L % 4294967296) _ _ _ ((hi * 18446744073709551616 + lo) % y) _ w hy hhy (by omega) hs63 hz e1 (by simp) e3 e4 e5 (by simp) e7 (by unfold Hid; omega) (by omega) (by omega) (by omega) (by omega) (by omega) hU rfl rfl rfl key.2 rfl).mono fun e w' ⟨he, hw⟩ => ⟨?_, 0, by rw [hw]; rfl⟩
    rw [he, key.1]

end Go.Proofs.Ytdlocljnmaeikaa
