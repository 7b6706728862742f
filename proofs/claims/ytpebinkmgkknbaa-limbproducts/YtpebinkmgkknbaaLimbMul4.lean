/-
  The contract of limb's Mul: for two numbers below 2^256 it returns the eight words of their product and changes no memory that was there. Conditions: as the theorem says.
-/
import Derived.Test.YtpebinkmgkknbaaLimbMul
import Derived.Test.YtpebinkmgkknbaaLimbMid
namespace Go.Proofs.Ytpebinkmgkknbaa
open Go.RowKit

/-- The words of a row of a product, and its top. -/
theorem row_open (x : Nat) (b : Int) (hx : x < M4) (hb : Wd b) : ∃ r0 r1 r2 r3 t : Int, Wd r0 ∧ Wd r1 ∧ Wd r2 ∧ Wd r3 ∧ 0 ≤ t ∧ Hid ((x : Int) * b = (r0 + 18446744073709551616 * r1 + 340282366920938463463374607431768211456 * r2 + 6277101735386680763835789423207666416102355444464034512896 * r3) + 115792089237316195423570985008687907853269984665640564039457584007913129639936 * t) ∧
    ∀ w : World, Calls Try.prog 22 #[four x, .int .u64 b] w fun e w' => e = .returned (.tuple #[.agg #[.int .u64 r0, .int .u64 r1, .int .u64 r2, .int .u64 r3], .int .u64 t]) ∧
      ∃ c1 c2 c3 : Array Value, w' = ((w.alloc (.cells c1 24)).alloc (.cells c2 24)).alloc (.cells c3 24) := by
  obtain ⟨b0, b1⟩ := hb
  obtain ⟨n, rfl⟩ := Int.eq_ofNat_of_zero_le b0
  have hlt : x * n % M4 < M4 := Nat.mod_lt _ (by unfold M4; omega)
  obtain ⟨r0, r1, r2, r3, h0, h1, h2, h3, ea, hr⟩ := four_open (x * n % M4) hlt
  refine ⟨r0, r1, r2, r3, ((x * n / M4 : Nat) : Int), h0, h1, h2, h3, Int.natCast_nonneg _, ?_, fun w => ?_⟩
  · unfold Hid
    rw [← hr, ← Int.natCast_mul]
    unfold M4
    omega
  · rw [← ea]
    exact mulWord_raw x n hx (by omega) w

attribute [local go_sem] idx4_0 idx4_1 idx4_2 idx4_3

set_option linter.unusedVariables false
set_option maxHeartbeats 8000000 in
theorem mul_raw (x y : Nat) (hx : x < M4) (hy : y < M4) (w : World) :
    Calls Try.prog 19 #[four x, four y] w fun e w' => e = .returned (eight (x * y)) ∧ Below w.heap.size w w' := by
  obtain ⟨a0, a1, a2, a3, ha0, ha1, ha2, ha3, ea, hxa⟩ := four_open x hx
  obtain ⟨b0, b1, b2, b3, hb0, hb1, hb2, hb3, eb, hyb⟩ := four_open y hy
  have hX : 0 ≤ (x : Int) ∧ (x : Int) < 115792089237316195423570985008687907853269984665640564039457584007913129639936 := by unfold M4 at hx; omega
  obtain ⟨r00, r01, r02, r03, t0, hr00, hr01, hr02, hr03, ht0, Y0, Z0⟩ := row_open x b0 hx hb0
  obtain ⟨n00, c00, hn00, hc00, E00, R00⟩ := add_step 0 r00 0 ⟨by omega, by omega⟩ hr00 ⟨by omega, by omega⟩
  obtain ⟨n01, c01, hn01, hc01, E01, R01⟩ := add_step 0 r01 c00 ⟨by omega, by omega⟩ hr01 hc00
  obtain ⟨n02, c02, hn02, hc02, E02, R02⟩ := add_step 0 r02 c01 ⟨by omega, by omega⟩ hr02 hc01
  obtain ⟨n03, c03, hn03, hc03, E03, R03⟩ := add_step 0 r03 c02 ⟨by omega, by omega⟩ hr03 hc02
  obtain ⟨hv0, hq1, F0⟩ := rowV x b0 0 _ t0 c03 n00 n01 n02 n03 hX hb0 ⟨by omega, hX.1⟩ Y0 hn00 hn01 hn02 hn03 ht0 hc03.1 (by unfold Hid at *; omega)
  obtain ⟨v0, G0⟩ : ∃ v, t0 + c03 = v := ⟨_, rfl⟩
  rw [G0] at hv0 hq1 F0
  obtain ⟨q1, Q1⟩ : ∃ q, q = n01 + 18446744073709551616 * n02 + 340282366920938463463374607431768211456 * n03 + 6277101735386680763835789423207666416102355444464034512896 * v0 := ⟨_, rfl⟩
  rw [← Q1] at hq1 F0
  obtain ⟨r10, r11, r12, r13, t1, hr10, hr11, hr12, hr13, ht1, Y1, Z1⟩ := row_open x b1 hx hb1
  obtain ⟨n10, c10, hn10, hc10, E10, R10⟩ := add_step n01 r10 0 hn01 hr10 ⟨by omega, by omega⟩
  obtain ⟨n11, c11, hn11, hc11, E11, R11⟩ := add_step n02 r11 c10 hn02 hr11 hc10
  obtain ⟨n12, c12, hn12, hc12, E12, R12⟩ := add_step n03 r12 c11 hn03 hr12 hc11
  obtain ⟨n13, c13, hn13, hc13, E13, R13⟩ := add_step v0 r13 c12 hv0 hr13 hc12
  obtain ⟨hv1, hq2, F1⟩ := rowV x b1 q1 _ t1 c13 n10 n11 n12 n13 hX hb1 hq1 Y1 hn10 hn11 hn12 hn13 ht1 hc13.1 (by unfold Hid at *; rw [Q1]; omega)
  obtain ⟨v1, G1⟩ : ∃ v, t1 + c13 = v := ⟨_, rfl⟩
  rw [G1] at hv1 hq2 F1
  obtain ⟨q2, Q2⟩ : ∃ q, q = n11 + 18446744073709551616 * n12 + 340282366920938463463374607431768211456 * n13 + 6277101735386680763835789423207666416102355444464034512896 * v1 := ⟨_, rfl⟩
  rw [← Q2] at hq2 F1
  obtain ⟨r20, r21, r22, r23, t2, hr20, hr21, hr22, hr23, ht2, Y2, Z2⟩ := row_open x b2 hx hb2
  obtain ⟨n20, c20, hn20, hc20, E20, R20⟩ := add_step n11 r20 0 hn11 hr20 ⟨by omega, by omega⟩
  obtain ⟨n21, c21, hn21, hc21, E21, R21⟩ := add_step n12 r21 c20 hn12 hr21 hc20
  obtain ⟨n22, c22, hn22, hc22, E22, R22⟩ := add_step n13 r22 c21 hn13 hr22 hc21
  obtain ⟨n23, c23, hn23, hc23, E23, R23⟩ := add_step v1 r23 c22 hv1 hr23 hc22
  obtain ⟨hv2, hq3, F2⟩ := rowV x b2 q2 _ t2 c23 n20 n21 n22 n23 hX hb2 hq2 Y2 hn20 hn21 hn22 hn23 ht2 hc23.1 (by unfold Hid at *; rw [Q2]; omega)
  obtain ⟨v2, G2⟩ : ∃ v, t2 + c23 = v := ⟨_, rfl⟩
  rw [G2] at hv2 hq3 F2
  obtain ⟨q3, Q3⟩ : ∃ q, q = n21 + 18446744073709551616 * n22 + 340282366920938463463374607431768211456 * n23 + 6277101735386680763835789423207666416102355444464034512896 * v2 := ⟨_, rfl⟩
  rw [← Q3] at hq3 F2
  obtain ⟨r30, r31, r32, r33, t3, hr30, hr31, hr32, hr33, ht3, Y3, Z3⟩ := row_open x b3 hx hb3
  obtain ⟨n30, c30, hn30, hc30, E30, R30⟩ := add_step n21 r30 0 hn21 hr30 ⟨by omega, by omega⟩
  obtain ⟨n31, c31, hn31, hc31, E31, R31⟩ := add_step n22 r31 c30 hn22 hr31 hc30
  obtain ⟨n32, c32, hn32, hc32, E32, R32⟩ := add_step n23 r32 c31 hn23 hr32 hc31
  obtain ⟨n33, c33, hn33, hc33, E33, R33⟩ := add_step v2 r33 c32 hv2 hr33 hc32
  obtain ⟨hv3, hq4, F3⟩ := rowV x b3 q3 _ t3 c33 n30 n31 n32 n33 hX hb3 hq3 Y3 hn30 hn31 hn32 hn33 ht3 hc33.1 (by unfold Hid at *; rw [Q3]; omega)
  obtain ⟨v3, G3⟩ : ∃ v, t3 + c33 = v := ⟨_, rfl⟩
  rw [G3] at hv3 hq4 F3
  obtain ⟨q4, Q4⟩ : ∃ q, q = n31 + 18446744073709551616 * n32 + 340282366920938463463374607431768211456 * n33 + 6277101735386680763835789423207666416102355444464034512896 * v3 := ⟨_, rfl⟩
  rw [← Q4] at hq4 F3
  have W := rowsV x y b0 b1 b2 b3 q1 q2 q3 q4 n00 n10 n20 n30 hyb F0 F1 F2 F3
  rw [Q4] at W
  have V : Hid (eight (x * y) = .agg #[.int .u64 n00, .int .u64 n10, .int .u64 n20, .int .u64 n30, .int .u64 n31, .int .u64 n32, .int .u64 n33, .int .u64 v3]) := eight_eq _ _ _ _ _ _ _ _ _ hn00 hn10 hn20 hn30 hn31 hn32 hn33 hv3 (by rw [W]; omega)
  have hw0 : 0 ≤ v0 ∧ v0 ≤ 18446744073709551615 := by unfold Wd at hv0; omega
  have hw1 : 0 ≤ v1 ∧ v1 ≤ 18446744073709551615 := by unfold Wd at hv1; omega
  have hw2 : 0 ≤ v2 ∧ v2 ≤ 18446744073709551615 := by unfold Wd at hv2; omega
  have hw3 : 0 ≤ v3 ∧ v3 ≤ 18446744073709551615 := by unfold Wd at hv3; omega
  clear W F0 Y0 Q1 hq1 F1 Y1 Q2 hq2 F2 Y2 Q3 hq3 F3 Y3 Q4 hq4 E00 E01 E02 E03 E10 E11 E12 E13 E20 E21 E22 E23 E30 E31 E32 E33
  rw [eb]
  rw [ea] at Z0 Z1 Z2 Z3 ⊢
  clear hxa hyb ea eb hy
  clear hn00 hr00 hc00 hn01 hr01 hc01 hn02 hr02 hc02 hn03 hr03 hc03 hn10 hr10 hc10 hn11 hr11 hc11 hn12 hr12 hc12 hn13 hr13 hc13 hn20 hr20 hc20 hn21 hr21 hc21 hn22 hr22 hc22 hn23 hr23 hc23 hn30 hr30 hc30 hn31 hr31 hc31 hn32 hr32 hc32 hn33 hr33 hc33 ht0 hv0 hb0 ha0 ht1 hv1 hb1 ha1 ht2 hv2 hb2 ha2 ht3 hv3 hb3 ha3 hX hx
  go_enter Try.func19, Try.ntmps19
  go_wp2
  go_loopw [13] (fun i W => (i = .int .i64 0 ∧ Mid w a0 a1 a2 a3 [0, 0, 0, 0, 0, 0, 0, 0] W) ∨ (i = .int .i64 1 ∧ Mid w a0 a1 a2 a3 [n00, n01, n02, n03, v0, 0, 0, 0] W) ∨ (i = .int .i64 2 ∧ Mid w a0 a1 a2 a3 [n00, n10, n11, n12, n13, v1, 0, 0] W) ∨ (i = .int .i64 3 ∧ Mid w a0 a1 a2 a3 [n00, n10, n20, n21, n22, n23, v2, 0] W) ∨ (i = .int .i64 4 ∧ Mid w a0 a1 a2 a3 [n00, n10, n20, n30, n31, n32, n33, v3] W)) (fun i _ => 4 - (intOf i).toNat)
  case atStart => exact Or.inl ⟨rfl, Mid.base _ _ _ _ _ _ _ _ _ _ _ _ _ _⟩
  case round =>
    rcases hrel with ⟨rfl, hM⟩ | ⟨rfl, hM⟩ | ⟨rfl, hM⟩ | ⟨rfl, hM⟩ | ⟨rfl, hM⟩
    · have hsz := hM.size
      have ca0 := hM.ca0
      have ca1 := hM.ca1
      have ca2 := hM.ca2
      have ca3 := hM.ca3
      have fp := hM.fp
      have cp0 : wr.cell? ⟨w.heap.size + 1 + 1 + 1, 0, none⟩ = some (.int .u64 0) := hM.cp 0 (by omega)
      have cp1 : wr.cell? ⟨w.heap.size + 1 + 1 + 1, 1, none⟩ = some (.int .u64 0) := hM.cp 1 (by omega)
      have cp2 : wr.cell? ⟨w.heap.size + 1 + 1 + 1, 2, none⟩ = some (.int .u64 0) := hM.cp 2 (by omega)
      have cp3 : wr.cell? ⟨w.heap.size + 1 + 1 + 1, 3, none⟩ = some (.int .u64 0) := hM.cp 3 (by omega)
      have cp4 : wr.cell? ⟨w.heap.size + 1 + 1 + 1, 4, none⟩ = some (.int .u64 0) := hM.cp 4 (by omega)
      have cp5 : wr.cell? ⟨w.heap.size + 1 + 1 + 1, 5, none⟩ = some (.int .u64 0) := hM.cp 5 (by omega)
      have cp6 : wr.cell? ⟨w.heap.size + 1 + 1 + 1, 6, none⟩ = some (.int .u64 0) := hM.cp 6 (by omega)
      have cp7 : wr.cell? ⟨w.heap.size + 1 + 1 + 1, 7, none⟩ = some (.int .u64 0) := hM.cp 7 (by omega)
      have g1 : w.heap.size + 1 + 1 < wr.heap.size := by omega
      have g2 : w.heap.size + 1 < wr.heap.size := by omega
      have g3 : w.heap.size < wr.heap.size := by omega
      have g4 : w.heap.size ≤ wr.heap.size := by omega
      have HM : Hid _ := hM
      clear hM
      clear Z1 G1 hw1 R10 R11 R12 R13 Z2 G2 hw2 R20 R21 R22 R23 Z3 G3 hw3 R30 R31 R32 R33
      go_wp2_with (go_at_call 22; refine (Z0 _).mono ?_; rintro e w1 ⟨rfl, k1, k2, k3, rfl⟩)
      refine wp_unr 5 ?_
      refine unr_succ ?_
      go_wp2
      go_region
      go_wp2
      refine unr_succ ?_
      go_wp2
      go_region
      go_wp2
      refine unr_succ ?_
      go_wp2
      go_region
      go_wp2
      refine unr_succ ?_
      go_wp2
      go_region
      go_wp2
      refine unr_succ ?_
      go_wp2
      go_roundw
      case rel =>
        exact Or.inr (Or.inl ⟨rfl, (((((((((HM.out.set 0 n00 (by omega)).set 1 n01 (by omega)).set 2 n02 (by omega)).set 3 n03 (by omega)).set 4 v0 (by omega)).alloc _).alloc _).alloc _).alloc _).drew.drew.drew.drew⟩)
      case measure => simp [intOf]
    · have hsz := hM.size
      have ca0 := hM.ca0
      have ca1 := hM.ca1
      have ca2 := hM.ca2
      have ca3 := hM.ca3
      have fp := hM.fp
      have cp0 : wr.cell? ⟨w.heap.size + 1 + 1 + 1, 0, none⟩ = some (.int .u64 n00) := hM.cp 0 (by omega)
      have cp1 : wr.cell? ⟨w.heap.size + 1 + 1 + 1, 1, none⟩ = some (.int .u64 n01) := hM.cp 1 (by omega)
      have cp2 : wr.cell? ⟨w.heap.size + 1 + 1 + 1, 2, none⟩ = some (.int .u64 n02) := hM.cp 2 (by omega)
      have cp3 : wr.cell? ⟨w.heap.size + 1 + 1 + 1, 3, none⟩ = some (.int .u64 n03) := hM.cp 3 (by omega)
      have cp4 : wr.cell? ⟨w.heap.size + 1 + 1 + 1, 4, none⟩ = some (.int .u64 v0) := hM.cp 4 (by omega)
      have cp5 : wr.cell? ⟨w.heap.size + 1 + 1 + 1, 5, none⟩ = some (.int .u64 0) := hM.cp 5 (by omega)
      have cp6 : wr.cell? ⟨w.heap.size + 1 + 1 + 1, 6, none⟩ = some (.int .u64 0) := hM.cp 6 (by omega)
      have cp7 : wr.cell? ⟨w.heap.size + 1 + 1 + 1, 7, none⟩ = some (.int .u64 0) := hM.cp 7 (by omega)
      have g1 : w.heap.size + 1 + 1 < wr.heap.size := by omega
      have g2 : w.heap.size + 1 < wr.heap.size := by omega
      have g3 : w.heap.size < wr.heap.size := by omega
      have g4 : w.heap.size ≤ wr.heap.size := by omega
      have HM : Hid _ := hM
      clear hM
      clear Z0 G0 hw0 R00 R01 R02 R03 Z2 G2 hw2 R20 R21 R22 R23 Z3 G3 hw3 R30 R31 R32 R33
      go_wp2_with (go_at_call 22; refine (Z1 _).mono ?_; rintro e w1 ⟨rfl, k1, k2, k3, rfl⟩)
      refine wp_unr 5 ?_
      refine unr_succ ?_
      go_wp2
      go_region
      go_wp2
      refine unr_succ ?_
      go_wp2
      go_region
      go_wp2
      refine unr_succ ?_
      go_wp2
      go_region
      go_wp2
      refine unr_succ ?_
      go_wp2
      go_region
      go_wp2
      refine unr_succ ?_
      go_wp2
      go_roundw
      case rel =>
        exact Or.inr (Or.inr (Or.inl ⟨rfl, (((((((((HM.out.set 1 n10 (by omega)).set 2 n11 (by omega)).set 3 n12 (by omega)).set 4 n13 (by omega)).set 5 v1 (by omega)).alloc _).alloc _).alloc _).alloc _).drew.drew.drew.drew⟩))
      case measure => simp [intOf]
    · have hsz := hM.size
      have ca0 := hM.ca0
      have ca1 := hM.ca1
      have ca2 := hM.ca2
      have ca3 := hM.ca3
      have fp := hM.fp
      have cp0 : wr.cell? ⟨w.heap.size + 1 + 1 + 1, 0, none⟩ = some (.int .u64 n00) := hM.cp 0 (by omega)
      have cp1 : wr.cell? ⟨w.heap.size + 1 + 1 + 1, 1, none⟩ = some (.int .u64 n10) := hM.cp 1 (by omega)
      have cp2 : wr.cell? ⟨w.heap.size + 1 + 1 + 1, 2, none⟩ = some (.int .u64 n11) := hM.cp 2 (by omega)
      have cp3 : wr.cell? ⟨w.heap.size + 1 + 1 + 1, 3, none⟩ = some (.int .u64 n12) := hM.cp 3 (by omega)
      have cp4 : wr.cell? ⟨w.heap.size + 1 + 1 + 1, 4, none⟩ = some (.int .u64 n13) := hM.cp 4 (by omega)
      have cp5 : wr.cell? ⟨w.heap.size + 1 + 1 + 1, 5, none⟩ = some (.int .u64 v1) := hM.cp 5 (by omega)
      have cp6 : wr.cell? ⟨w.heap.size + 1 + 1 + 1, 6, none⟩ = some (.int .u64 0) := hM.cp 6 (by omega)
      have cp7 : wr.cell? ⟨w.heap.size + 1 + 1 + 1, 7, none⟩ = some (.int .u64 0) := hM.cp 7 (by omega)
      have g1 : w.heap.size + 1 + 1 < wr.heap.size := by omega
      have g2 : w.heap.size + 1 < wr.heap.size := by omega
      have g3 : w.heap.size < wr.heap.size := by omega
      have g4 : w.heap.size ≤ wr.heap.size := by omega
      have HM : Hid _ := hM
      clear hM
      clear Z0 G0 hw0 R00 R01 R02 R03 Z1 G1 hw1 R10 R11 R12 R13 Z3 G3 hw3 R30 R31 R32 R33
      go_wp2_with (go_at_call 22; refine (Z2 _).mono ?_; rintro e w1 ⟨rfl, k1, k2, k3, rfl⟩)
      refine wp_unr 5 ?_
      refine unr_succ ?_
      go_wp2
      go_region
      go_wp2
      refine unr_succ ?_
      go_wp2
      go_region
      go_wp2
      refine unr_succ ?_
      go_wp2
      go_region
      go_wp2
      refine unr_succ ?_
      go_wp2
      go_region
      go_wp2
      refine unr_succ ?_
      go_wp2
      go_roundw
      case rel =>
        exact Or.inr (Or.inr (Or.inr (Or.inl ⟨rfl, (((((((((HM.out.set 2 n20 (by omega)).set 3 n21 (by omega)).set 4 n22 (by omega)).set 5 n23 (by omega)).set 6 v2 (by omega)).alloc _).alloc _).alloc _).alloc _).drew.drew.drew.drew⟩)))
      case measure => simp [intOf]
    · have hsz := hM.size
      have ca0 := hM.ca0
      have ca1 := hM.ca1
      have ca2 := hM.ca2
      have ca3 := hM.ca3
      have fp := hM.fp
      have cp0 : wr.cell? ⟨w.heap.size + 1 + 1 + 1, 0, none⟩ = some (.int .u64 n00) := hM.cp 0 (by omega)
      have cp1 : wr.cell? ⟨w.heap.size + 1 + 1 + 1, 1, none⟩ = some (.int .u64 n10) := hM.cp 1 (by omega)
      have cp2 : wr.cell? ⟨w.heap.size + 1 + 1 + 1, 2, none⟩ = some (.int .u64 n20) := hM.cp 2 (by omega)
      have cp3 : wr.cell? ⟨w.heap.size + 1 + 1 + 1, 3, none⟩ = some (.int .u64 n21) := hM.cp 3 (by omega)
      have cp4 : wr.cell? ⟨w.heap.size + 1 + 1 + 1, 4, none⟩ = some (.int .u64 n22) := hM.cp 4 (by omega)
      have cp5 : wr.cell? ⟨w.heap.size + 1 + 1 + 1, 5, none⟩ = some (.int .u64 n23) := hM.cp 5 (by omega)
      have cp6 : wr.cell? ⟨w.heap.size + 1 + 1 + 1, 6, none⟩ = some (.int .u64 v2) := hM.cp 6 (by omega)
      have cp7 : wr.cell? ⟨w.heap.size + 1 + 1 + 1, 7, none⟩ = some (.int .u64 0) := hM.cp 7 (by omega)
      have g1 : w.heap.size + 1 + 1 < wr.heap.size := by omega
      have g2 : w.heap.size + 1 < wr.heap.size := by omega
      have g3 : w.heap.size < wr.heap.size := by omega
      have g4 : w.heap.size ≤ wr.heap.size := by omega
      have HM : Hid _ := hM
      clear hM
      clear Z0 G0 hw0 R00 R01 R02 R03 Z1 G1 hw1 R10 R11 R12 R13 Z2 G2 hw2 R20 R21 R22 R23
      go_wp2_with (go_at_call 22; refine (Z3 _).mono ?_; rintro e w1 ⟨rfl, k1, k2, k3, rfl⟩)
      refine wp_unr 5 ?_
      refine unr_succ ?_
      go_wp2
      go_region
      go_wp2
      refine unr_succ ?_
      go_wp2
      go_region
      go_wp2
      refine unr_succ ?_
      go_wp2
      go_region
      go_wp2
      refine unr_succ ?_
      go_wp2
      go_region
      go_wp2
      refine unr_succ ?_
      go_wp2
      go_roundw
      case rel =>
        exact Or.inr (Or.inr (Or.inr (Or.inr (⟨rfl, (((((((((HM.out.set 3 n30 (by omega)).set 4 n31 (by omega)).set 5 n32 (by omega)).set 6 n33 (by omega)).set 7 v3 (by omega)).alloc _).alloc _).alloc _).alloc _).drew.drew.drew.drew⟩))))
      case measure => simp [intOf]
    · have hsz := hM.size
      have ca0 := hM.ca0
      have ca1 := hM.ca1
      have ca2 := hM.ca2
      have ca3 := hM.ca3
      have fp := hM.fp
      have cp0 : wr.cell? ⟨w.heap.size + 1 + 1 + 1, 0, none⟩ = some (.int .u64 n00) := hM.cp 0 (by omega)
      have cp1 : wr.cell? ⟨w.heap.size + 1 + 1 + 1, 1, none⟩ = some (.int .u64 n10) := hM.cp 1 (by omega)
      have cp2 : wr.cell? ⟨w.heap.size + 1 + 1 + 1, 2, none⟩ = some (.int .u64 n20) := hM.cp 2 (by omega)
      have cp3 : wr.cell? ⟨w.heap.size + 1 + 1 + 1, 3, none⟩ = some (.int .u64 n30) := hM.cp 3 (by omega)
      have cp4 : wr.cell? ⟨w.heap.size + 1 + 1 + 1, 4, none⟩ = some (.int .u64 n31) := hM.cp 4 (by omega)
      have cp5 : wr.cell? ⟨w.heap.size + 1 + 1 + 1, 5, none⟩ = some (.int .u64 n32) := hM.cp 5 (by omega)
      have cp6 : wr.cell? ⟨w.heap.size + 1 + 1 + 1, 6, none⟩ = some (.int .u64 n33) := hM.cp 6 (by omega)
      have cp7 : wr.cell? ⟨w.heap.size + 1 + 1 + 1, 7, none⟩ = some (.int .u64 v3) := hM.cp 7 (by omega)
      have g1 : w.heap.size + 1 + 1 < wr.heap.size := by omega
      have g2 : w.heap.size + 1 < wr.heap.size := by omega
      have g3 : w.heap.size < wr.heap.size := by omega
      have g4 : w.heap.size ≤ wr.heap.size := by omega
      have HM : Hid _ := hM
      clear hM
      clear Z0 G0 hw0 R00 R01 R02 R03 Z1 G1 hw1 R10 R11 R12 R13 Z2 G2 hw2 R20 R21 R22 R23 Z3 G3 hw3 R30 R31 R32 R33
      have cr0 : wr.cell? ⟨w.heap.size + 1 + 1, 0, none⟩ = some (.int .u64 0) := HM.out.cr 0 (by omega)
      have cr1 : wr.cell? ⟨w.heap.size + 1 + 1, 1, none⟩ = some (.int .u64 0) := HM.out.cr 1 (by omega)
      have cr2 : wr.cell? ⟨w.heap.size + 1 + 1, 2, none⟩ = some (.int .u64 0) := HM.out.cr 2 (by omega)
      have cr3 : wr.cell? ⟨w.heap.size + 1 + 1, 3, none⟩ = some (.int .u64 0) := HM.out.cr 3 (by omega)
      have cr4 : wr.cell? ⟨w.heap.size + 1 + 1, 4, none⟩ = some (.int .u64 0) := HM.out.cr 4 (by omega)
      have cr5 : wr.cell? ⟨w.heap.size + 1 + 1, 5, none⟩ = some (.int .u64 0) := HM.out.cr 5 (by omega)
      have cr6 : wr.cell? ⟨w.heap.size + 1 + 1, 6, none⟩ = some (.int .u64 0) := HM.out.cr 6 (by omega)
      have cr7 : wr.cell? ⟨w.heap.size + 1 + 1, 7, none⟩ = some (.int .u64 0) := HM.out.cr 7 (by omega)
      have fr := HM.out.fr
      have hbel : Hid (Below w.heap.size w wr) := HM.out.below
      go_wp2
      have hR := eight_read wr (w.heap.size + 1 + 1) n00 n10 n20 n30 n31 n32 n33 v3 HM.out.cr
      have hL : Hid _ := ((((((((hbel.out.setCell (p := ⟨w.heap.size + 1 + 1, 0, none⟩) (by simp <;> omega) (.int .u64 n00)).setCell (p := ⟨w.heap.size + 1 + 1, 1, none⟩) (by simp <;> omega) (.int .u64 n10)).setCell (p := ⟨w.heap.size + 1 + 1, 2, none⟩) (by simp <;> omega) (.int .u64 n20)).setCell (p := ⟨w.heap.size + 1 + 1, 3, none⟩) (by simp <;> omega) (.int .u64 n30)).setCell (p := ⟨w.heap.size + 1 + 1, 4, none⟩) (by simp <;> omega) (.int .u64 n31)).setCell (p := ⟨w.heap.size + 1 + 1, 5, none⟩) (by simp <;> omega) (.int .u64 n32)).setCell (p := ⟨w.heap.size + 1 + 1, 6, none⟩) (by simp <;> omega) (.int .u64 n33)).setCell (p := ⟨w.heap.size + 1 + 1, 7, none⟩) (by simp <;> omega) (.int .u64 v3))
      obtain ⟨x0, x1, x2, x3, x4, x5, x6, x7⟩ := hR
      revert x0 x1 x2 x3 x4 x5 x6 x7 hL
      generalize ((((((((wr.setCell ⟨w.heap.size + 1 + 1, 0, none⟩ (.int .u64 n00)).setCell ⟨w.heap.size + 1 + 1, 1, none⟩ (.int .u64 n10)).setCell ⟨w.heap.size + 1 + 1, 2, none⟩ (.int .u64 n20)).setCell ⟨w.heap.size + 1 + 1, 3, none⟩ (.int .u64 n30)).setCell ⟨w.heap.size + 1 + 1, 4, none⟩ (.int .u64 n31)).setCell ⟨w.heap.size + 1 + 1, 5, none⟩ (.int .u64 n32)).setCell ⟨w.heap.size + 1 + 1, 6, none⟩ (.int .u64 n33)).setCell ⟨w.heap.size + 1 + 1, 7, none⟩ (.int .u64 v3)) = WF
      intro hL x0 x1 x2 x3 x4 x5 x6 x7
      clear cr0 cr1 cr2 cr3 cr4 cr5 cr6 cr7 cp0 cp1 cp2 cp3 cp4 cp5 cp6 cp7 ca0 ca1 ca2 ca3 fr fp g1 g2 g3 g4 hsz
      refine bodyPost_ret (v := .agg #[.int .u64 n00, .int .u64 n10, .int .u64 n20, .int .u64 n30, .int .u64 n31, .int .u64 n32, .int .u64 n33, .int .u64 v3]) (by simp [results, Try.results19, go_sem, x0, x1, x2, x3, x4, x5, x6, x7]) rfl ⟨?_, hL.out⟩
      rw [V.out]

end Go.Proofs.Ytpebinkmgkknbaa
