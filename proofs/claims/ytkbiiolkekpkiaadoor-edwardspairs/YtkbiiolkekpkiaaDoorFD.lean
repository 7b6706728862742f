/-
  The walk of the field's Mul: for tame elements it returns a tame element whose number is the product modulo 2^255 - 19, and changes no memory that was there. Conditions: as the theorem says.
-/
import Derived.Test.YtkbiiolkekpkiaaDoorFB
namespace Go.Proofs.YtkbiiolkekpkiaaDoor
open Go.RowKit
set_option linter.unusedVariables false

set_option maxHeartbeats 16000000 in
set_option maxRecDepth 100000 in
theorem mul_step5 (a0 a1 a2 a3 a4 b0 b1 b2 b3 b4 : Int) (ta : Tame a0 a1 a2 a3 a4) (tb : Tame b0 b1 b2 b3 b4) : ∃ t0 t1 t2 t3 t4 : Int, Tame t0 t1 t2 t3 t4 ∧ Hid (val5 t0 t1 t2 t3 t4 % (P25 : Int) = val5 a0 a1 a2 a3 a4 * val5 b0 b1 b2 b3 b4 % (P25 : Int)) ∧
    ∀ w : World, Calls Tryd.prog 49 #[.agg #[.int .u64 a0, .int .u64 a1, .int .u64 a2, .int .u64 a3, .int .u64 a4], .agg #[.int .u64 b0, .int .u64 b1, .int .u64 b2, .int .u64 b3, .int .u64 b4]] w fun e w' => e = .returned (.agg #[.int .u64 t0, .int .u64 t1, .int .u64 t2, .int .u64 t3, .int .u64 t4]) ∧ Below w.heap.size w w' := by
  obtain ⟨H, L, Y, z0, y0, y1, q, s0, s1, s2, s3, s4, t0, t1, t2, t3, t4, tt, ev, QS, QT⟩ := mul_cols a0 a1 a2 a3 a4 b0 b1 b2 b3 b4 ta tb
  refine ⟨t0, t1, t2, t3, t4, tt, ev, fun w => ?_⟩
  clear tt ev ta tb
  obtain ⟨yy0, yy1, yy2, yy3, yy4⟩ := y0
  have Z0 : Hid _ := z0
  have Y1 : Hid (∀ k, k < 5 → IntKind.u64.wrap (19 * Y 4 k) = Y 0 (k + 1) ∧ Y 0 k = Y 1 (k + 1) ∧ Y 1 k = Y 2 (k + 1) ∧ Y 2 k = Y 3 (k + 1) ∧ Y 3 k = Y 4 (k + 1)) := y1
  have Q : Hid (∀ k, k < 5 → ∀ j, j < 5 → PlusTo (H j k) (L j k) (pick5 a0 a1 a2 a3 a4 0 k) (Y j k) (H j (k + 1)) (L j (k + 1))) := q
  have qs : Hid (∀ w : World, Calls Tryd.prog 78 #[.agg #[.int .u64 (H 0 5), .int .u64 (L 0 5)], .agg #[.int .u64 (H 1 5), .int .u64 (L 1 5)], .agg #[.int .u64 (H 2 5), .int .u64 (L 2 5)], .agg #[.int .u64 (H 3 5), .int .u64 (L 3 5)], .agg #[.int .u64 (H 4 5), .int .u64 (L 4 5)]] w fun e w' => e = .returned (.tuple #[.int .u64 s0, .int .u64 s1, .int .u64 s2, .int .u64 s3, .int .u64 s4]) ∧ Below w.heap.size w w') := QS
  have qt : Hid (∀ w : World, Calls Tryd.prog 77 #[.int .u64 s0, .int .u64 s1, .int .u64 s2, .int .u64 s3, .int .u64 s4] w fun e w' => e = .returned (.tuple #[.int .u64 t0, .int .u64 t1, .int .u64 t2, .int .u64 t3, .int .u64 t4]) ∧ w' = w) := QT
  clear z0 y1 q QS QT
  go_enter Tryd.func49, Tryd.ntmps49
  go_wp2_with fail
  go_quiet (fail)
  go_wp2_with fail
  go_loopw [10, 11, 12, 13, 14, 27] (fun v0 v1 v2 v3 v4 i wr => ∃ k : Nat, k ≤ 5 ∧ i = .int .i64 (k : Int) ∧ v0 = .int .u64 (Y 0 k) ∧ v1 = .int .u64 (Y 1 k) ∧ v2 = .int .u64 (Y 2 k) ∧ v3 = .int .u64 (Y 3 k) ∧ v4 = .int .u64 (Y 4 k) ∧ Hid (Bl5 wr w.heap.size a0 a1 a2 a3 a4) ∧ Hid (Bl5 wr (w.heap.size + 1 + 1) 0 0 0 0 0) ∧ Hid (Bl2 wr (w.heap.size + 1 + 1 + 1) (H 0 k) (L 0 k)) ∧ Hid (Bl2 wr (w.heap.size + 1 + 1 + 1 + 1) (H 1 k) (L 1 k)) ∧ Hid (Bl2 wr (w.heap.size + 1 + 1 + 1 + 1 + 1) (H 2 k) (L 2 k)) ∧ Hid (Bl2 wr (w.heap.size + 1 + 1 + 1 + 1 + 1 + 1) (H 3 k) (L 3 k)) ∧ Hid (Bl2 wr (w.heap.size + 1 + 1 + 1 + 1 + 1 + 1 + 1) (H 4 k) (L 4 k)) ∧ Hid (Below w.heap.size w wr)) (fun _ _ _ _ _ i _ => 5 - (intOf i).toNat)
  case atStart =>
    refine ⟨0, by omega, rfl, by rw [yy0], by rw [yy1], by rw [yy2], by rw [yy3], by rw [yy4], ?_, ?_, ?_, ?_, ?_, ?_, ?_, ?_⟩
    all_goals (unfold Hid)
    · repeat (first | refine Bl5.drewN ?_ _ | (refine Bl5.new _ _ _ _ _ _ _ _ ?_; simp; done) | refine Bl5.alloc ?_ _)
    · repeat (first | refine Bl5.drewN ?_ _ | (refine Bl5.new _ _ _ _ _ _ _ _ ?_; simp; done) | refine Bl5.alloc ?_ _)
    iterate 5 (· rw [(Z0.out _).1, (Z0.out _).2]; repeat (first | refine Bl2.drewN ?_ _ | (refine Bl2.new _ _ _ _ _ ?_; simp; done) | refine Bl2.alloc ?_ _))
    · repeat (first | exact Below.refl _ _ | refine below_drewN ?_ _ | refine Below.alloc ?_ (by simp <;> omega) _)
  case round =>
    obtain ⟨k, hk, rfl, rfl, rfl, rfl, rfl, rfl, hA, hR, K0, K1, K2, K3, K4, hB⟩ := hrel
    clear yy0 yy1 yy2 yy3 yy4 Z0
    obtain ⟨w0, hw0⟩ : ∃ w0, wr = w0 := ⟨_, rfl⟩
    subst hw0
    by_cases hlt : k < 5
    · have q0 : Hid (PlusTo (H 0 k) (L 0 k) (pick5 a0 a1 a2 a3 a4 0 k) (Y 0 k) (H 0 (k + 1)) (L 0 (k + 1))) := Q.out k hlt 0 (by omega)
      have q1 : Hid (PlusTo (H 1 k) (L 1 k) (pick5 a0 a1 a2 a3 a4 0 k) (Y 1 k) (H 1 (k + 1)) (L 1 (k + 1))) := Q.out k hlt 1 (by omega)
      have q2 : Hid (PlusTo (H 2 k) (L 2 k) (pick5 a0 a1 a2 a3 a4 0 k) (Y 2 k) (H 2 (k + 1)) (L 2 (k + 1))) := Q.out k hlt 2 (by omega)
      have q3 : Hid (PlusTo (H 3 k) (L 3 k) (pick5 a0 a1 a2 a3 a4 0 k) (Y 3 k) (H 3 (k + 1)) (L 3 (k + 1))) := Q.out k hlt 3 (by omega)
      have q4 : Hid (PlusTo (H 4 k) (L 4 k) (pick5 a0 a1 a2 a3 a4 0 k) (Y 4 k) (H 4 (k + 1)) (L 4 (k + 1))) := Q.out k hlt 4 (by omega)
      have hx := hA.out.at k hlt
      obtain ⟨x, hX⟩ : ∃ x, pick5 a0 a1 a2 a3 a4 0 k = x := ⟨_, rfl⟩
      rw [hX] at hx q0 q1 q2 q3 q4
      obtain ⟨h0, eh0⟩ : ∃ z, H 0 k = z := ⟨_, rfl⟩
      obtain ⟨h0n, eh0n⟩ : ∃ z, H 0 (k + 1) = z := ⟨_, rfl⟩
      obtain ⟨l0, el0⟩ : ∃ z, L 0 k = z := ⟨_, rfl⟩
      obtain ⟨l0n, el0n⟩ : ∃ z, L 0 (k + 1) = z := ⟨_, rfl⟩
      obtain ⟨y0, ey0⟩ : ∃ z, Y 0 k = z := ⟨_, rfl⟩
      rw [eh0, el0, ey0, eh0n, el0n] at q0
      rw [eh0, el0] at K0
      obtain ⟨h1, eh1⟩ : ∃ z, H 1 k = z := ⟨_, rfl⟩
      obtain ⟨h1n, eh1n⟩ : ∃ z, H 1 (k + 1) = z := ⟨_, rfl⟩
      obtain ⟨l1, el1⟩ : ∃ z, L 1 k = z := ⟨_, rfl⟩
      obtain ⟨l1n, el1n⟩ : ∃ z, L 1 (k + 1) = z := ⟨_, rfl⟩
      obtain ⟨y1, ey1⟩ : ∃ z, Y 1 k = z := ⟨_, rfl⟩
      rw [eh1, el1, ey1, eh1n, el1n] at q1
      rw [eh1, el1] at K1
      obtain ⟨h2, eh2⟩ : ∃ z, H 2 k = z := ⟨_, rfl⟩
      obtain ⟨h2n, eh2n⟩ : ∃ z, H 2 (k + 1) = z := ⟨_, rfl⟩
      obtain ⟨l2, el2⟩ : ∃ z, L 2 k = z := ⟨_, rfl⟩
      obtain ⟨l2n, el2n⟩ : ∃ z, L 2 (k + 1) = z := ⟨_, rfl⟩
      obtain ⟨y2, ey2⟩ : ∃ z, Y 2 k = z := ⟨_, rfl⟩
      rw [eh2, el2, ey2, eh2n, el2n] at q2
      rw [eh2, el2] at K2
      obtain ⟨h3, eh3⟩ : ∃ z, H 3 k = z := ⟨_, rfl⟩
      obtain ⟨h3n, eh3n⟩ : ∃ z, H 3 (k + 1) = z := ⟨_, rfl⟩
      obtain ⟨l3, el3⟩ : ∃ z, L 3 k = z := ⟨_, rfl⟩
      obtain ⟨l3n, el3n⟩ : ∃ z, L 3 (k + 1) = z := ⟨_, rfl⟩
      obtain ⟨y3, ey3⟩ : ∃ z, Y 3 k = z := ⟨_, rfl⟩
      rw [eh3, el3, ey3, eh3n, el3n] at q3
      rw [eh3, el3] at K3
      obtain ⟨h4, eh4⟩ : ∃ z, H 4 k = z := ⟨_, rfl⟩
      obtain ⟨h4n, eh4n⟩ : ∃ z, H 4 (k + 1) = z := ⟨_, rfl⟩
      obtain ⟨l4, el4⟩ : ∃ z, L 4 k = z := ⟨_, rfl⟩
      obtain ⟨l4n, el4n⟩ : ∃ z, L 4 (k + 1) = z := ⟨_, rfl⟩
      obtain ⟨y4, ey4⟩ : ∃ z, Y 4 k = z := ⟨_, rfl⟩
      rw [eh4, el4, ey4, eh4n, el4n] at q4
      rw [eh4, el4] at K4
      obtain ⟨f0, f1, f2, f3, f4⟩ := Y1.out k hlt
      rw [ey4] at f0; rw [ey0] at f1; rw [ey1] at f2; rw [ey2] at f3; rw [ey3] at f4
      obtain ⟨yn, eyn⟩ : ∃ z, Y 0 (k + 1) = z := ⟨_, rfl⟩
      rw [eyn] at f0
      have F : Hid (Y 0 (k + 1) = yn ∧ y0 = Y 1 (k + 1) ∧ y1 = Y 2 (k + 1) ∧ y2 = Y 3 (k + 1) ∧ y3 = Y 4 (k + 1)) := ⟨eyn, f1, f2, f3, f4⟩
      have E0 : Hid (H 0 (k + 1) = h0n ∧ L 0 (k + 1) = l0n) := ⟨eh0n, el0n⟩
      have E1 : Hid (H 1 (k + 1) = h1n ∧ L 1 (k + 1) = l1n) := ⟨eh1n, el1n⟩
      have E2 : Hid (H 2 (k + 1) = h2n ∧ L 2 (k + 1) = l2n) := ⟨eh2n, el2n⟩
      have E3 : Hid (H 3 (k + 1) = h3n ∧ L 3 (k + 1) = l3n) := ⟨eh3n, el3n⟩
      have E4 : Hid (H 4 (k + 1) = h4n ∧ L 4 (k + 1) = l4n) := ⟨eh4n, el4n⟩
      rw [ey0, ey1, ey2, ey3, ey4]
      have I : Hid (k < 5) := hlt
      have hk1 : (k : Int) < 5 := by omega
      clear Q Y1 hX eyn f1 f2 f3 f4 eh0 el0 eh0n el0n ey0 eh1 el1 eh1n el1n ey1 eh2 el2 eh2n el2n ey2 eh3 el3 eh3n el3n ey3 eh4 el4 eh4n el4n ey4
      obtain ⟨al, -, -, -, -, -, af⟩ := hA.out
      obtain ⟨m0l, m0c, m0d, m0f⟩ := K0.out
      go_wp2_with fail
      refine (q0.out _).mono ?_
      rintro e w1 ⟨rfl, g1⟩
      clear m0l m0c m0d m0f hx al af
      have hA' := hold (hA.out.below g1)
      have hR' := hold (hR.out.below g1)
      have K0' := hold (K0.out.below g1)
      have K1' := hold (K1.out.below g1)
      have K2' := hold (K2.out.below g1)
      have K3' := hold (K3.out.below g1)
      have K4' := hold (K4.out.below g1)
      have hB' := hold (hB.out.trans (g1.mono hB.out.size))
      clear hA hR K0 K1 K2 K3 K4 hB g1
      have hA := hA'; clear hA'
      have hR := hR'; clear hR'
      have K0 := K0'; clear K0'
      have K1 := K1'; clear K1'
      have K2 := K2'; clear K2'
      have K3 := K3'; clear K3'
      have K4 := K4'; clear K4'
      have hB := hB'; clear hB'
      obtain ⟨m0l, m0c, m0d, m0f⟩ := K0.out
      obtain ⟨m1l, m1c, m1d, m1f⟩ := K1.out
      go_wp2_with fail
      refine (q1.out _).mono ?_
      rintro e w2 ⟨rfl, g2⟩
      clear m0l m0c m0d m0f m1l m1c m1d m1f
      have hA' : Hid (Bl5 w2 w.heap.size a0 a1 a2 a3 a4) := ((hA.out.other (w.heap.size + 1 + 1 + 1) 0 (.int .u64 h0n) (by omega)).other (w.heap.size + 1 + 1 + 1) 1 (.int .u64 l0n) (by omega)).below g2
      have hR' : Hid (Bl5 w2 (w.heap.size + 1 + 1) 0 0 0 0 0) := ((hR.out.other (w.heap.size + 1 + 1 + 1) 0 (.int .u64 h0n) (by omega)).other (w.heap.size + 1 + 1 + 1) 1 (.int .u64 l0n) (by omega)).below g2
      have K0' : Hid (Bl2 w2 (w.heap.size + 1 + 1 + 1) h0n l0n) := (K0.out.set h0n l0n).below g2
      have K1' : Hid (Bl2 w2 (w.heap.size + 1 + 1 + 1 + 1) h1 l1) := ((K1.out.other (w.heap.size + 1 + 1 + 1) 0 (.int .u64 h0n) (by omega)).other (w.heap.size + 1 + 1 + 1) 1 (.int .u64 l0n) (by omega)).below g2
      have K2' : Hid (Bl2 w2 (w.heap.size + 1 + 1 + 1 + 1 + 1) h2 l2) := ((K2.out.other (w.heap.size + 1 + 1 + 1) 0 (.int .u64 h0n) (by omega)).other (w.heap.size + 1 + 1 + 1) 1 (.int .u64 l0n) (by omega)).below g2
      have K3' : Hid (Bl2 w2 (w.heap.size + 1 + 1 + 1 + 1 + 1 + 1) h3 l3) := ((K3.out.other (w.heap.size + 1 + 1 + 1) 0 (.int .u64 h0n) (by omega)).other (w.heap.size + 1 + 1 + 1) 1 (.int .u64 l0n) (by omega)).below g2
      have K4' : Hid (Bl2 w2 (w.heap.size + 1 + 1 + 1 + 1 + 1 + 1 + 1) h4 l4) := ((K4.out.other (w.heap.size + 1 + 1 + 1) 0 (.int .u64 h0n) (by omega)).other (w.heap.size + 1 + 1 + 1) 1 (.int .u64 l0n) (by omega)).below g2
      have hB' : Hid (Below w.heap.size w w2) := ((hB.out.setCell (by simp <;> omega) _).setCell (by simp <;> omega) _).trans (g2.mono (by simp; exact hB.out.size))
      clear hA hR K0 K1 K2 K3 K4 hB g2
      have hA := hA'; clear hA'
      have hR := hR'; clear hR'
      have K0 := K0'; clear K0'
      have K1 := K1'; clear K1'
      have K2 := K2'; clear K2'
      have K3 := K3'; clear K3'
      have K4 := K4'; clear K4'
      have hB := hB'; clear hB'
      obtain ⟨m1l, m1c, m1d, m1f⟩ := K1.out
      obtain ⟨m2l, m2c, m2d, m2f⟩ := K2.out
      go_wp2_with fail
      refine (q2.out _).mono ?_
      rintro e w3 ⟨rfl, g3⟩
      clear m1l m1c m1d m1f m2l m2c m2d m2f
      have hA' : Hid (Bl5 w3 w.heap.size a0 a1 a2 a3 a4) := ((hA.out.other (w.heap.size + 1 + 1 + 1 + 1) 0 (.int .u64 h1n) (by omega)).other (w.heap.size + 1 + 1 + 1 + 1) 1 (.int .u64 l1n) (by omega)).below g3
      have hR' : Hid (Bl5 w3 (w.heap.size + 1 + 1) 0 0 0 0 0) := ((hR.out.other (w.heap.size + 1 + 1 + 1 + 1) 0 (.int .u64 h1n) (by omega)).other (w.heap.size + 1 + 1 + 1 + 1) 1 (.int .u64 l1n) (by omega)).below g3
      have K0' : Hid (Bl2 w3 (w.heap.size + 1 + 1 + 1) h0n l0n) := ((K0.out.other (w.heap.size + 1 + 1 + 1 + 1) 0 (.int .u64 h1n) (by omega)).other (w.heap.size + 1 + 1 + 1 + 1) 1 (.int .u64 l1n) (by omega)).below g3
      have K1' : Hid (Bl2 w3 (w.heap.size + 1 + 1 + 1 + 1) h1n l1n) := (K1.out.set h1n l1n).below g3
      have K2' : Hid (Bl2 w3 (w.heap.size + 1 + 1 + 1 + 1 + 1) h2 l2) := ((K2.out.other (w.heap.size + 1 + 1 + 1 + 1) 0 (.int .u64 h1n) (by omega)).other (w.heap.size + 1 + 1 + 1 + 1) 1 (.int .u64 l1n) (by omega)).below g3
      have K3' : Hid (Bl2 w3 (w.heap.size + 1 + 1 + 1 + 1 + 1 + 1) h3 l3) := ((K3.out.other (w.heap.size + 1 + 1 + 1 + 1) 0 (.int .u64 h1n) (by omega)).other (w.heap.size + 1 + 1 + 1 + 1) 1 (.int .u64 l1n) (by omega)).below g3
      have K4' : Hid (Bl2 w3 (w.heap.size + 1 + 1 + 1 + 1 + 1 + 1 + 1) h4 l4) := ((K4.out.other (w.heap.size + 1 + 1 + 1 + 1) 0 (.int .u64 h1n) (by omega)).other (w.heap.size + 1 + 1 + 1 + 1) 1 (.int .u64 l1n) (by omega)).below g3
      have hB' : Hid (Below w.heap.size w w3) := ((hB.out.setCell (by simp <;> omega) _).setCell (by simp <;> omega) _).trans (g3.mono (by simp; exact hB.out.size))
      clear hA hR K0 K1 K2 K3 K4 hB g3
      have hA := hA'; clear hA'
      have hR := hR'; clear hR'
      have K0 := K0'; clear K0'
      have K1 := K1'; clear K1'
      have K2 := K2'; clear K2'
      have K3 := K3'; clear K3'
      have K4 := K4'; clear K4'
      have hB := hB'; clear hB'
      obtain ⟨m2l, m2c, m2d, m2f⟩ := K2.out
      obtain ⟨m3l, m3c, m3d, m3f⟩ := K3.out
      go_wp2_with fail
      refine (q3.out _).mono ?_
      rintro e w4 ⟨rfl, g4⟩
      clear m2l m2c m2d m2f m3l m3c m3d m3f
      have hA' : Hid (Bl5 w4 w.heap.size a0 a1 a2 a3 a4) := ((hA.out.other (w.heap.size + 1 + 1 + 1 + 1 + 1) 0 (.int .u64 h2n) (by omega)).other (w.heap.size + 1 + 1 + 1 + 1 + 1) 1 (.int .u64 l2n) (by omega)).below g4
      have hR' : Hid (Bl5 w4 (w.heap.size + 1 + 1) 0 0 0 0 0) := ((hR.out.other (w.heap.size + 1 + 1 + 1 + 1 + 1) 0 (.int .u64 h2n) (by omega)).other (w.heap.size + 1 + 1 + 1 + 1 + 1) 1 (.int .u64 l2n) (by omega)).below g4
      have K0' : Hid (Bl2 w4 (w.heap.size + 1 + 1 + 1) h0n l0n) := ((K0.out.other (w.heap.size + 1 + 1 + 1 + 1 + 1) 0 (.int .u64 h2n) (by omega)).other (w.heap.size + 1 + 1 + 1 + 1 + 1) 1 (.int .u64 l2n) (by omega)).below g4
      have K1' : Hid (Bl2 w4 (w.heap.size + 1 + 1 + 1 + 1) h1n l1n) := ((K1.out.other (w.heap.size + 1 + 1 + 1 + 1 + 1) 0 (.int .u64 h2n) (by omega)).other (w.heap.size + 1 + 1 + 1 + 1 + 1) 1 (.int .u64 l2n) (by omega)).below g4
      have K2' : Hid (Bl2 w4 (w.heap.size + 1 + 1 + 1 + 1 + 1) h2n l2n) := (K2.out.set h2n l2n).below g4
      have K3' : Hid (Bl2 w4 (w.heap.size + 1 + 1 + 1 + 1 + 1 + 1) h3 l3) := ((K3.out.other (w.heap.size + 1 + 1 + 1 + 1 + 1) 0 (.int .u64 h2n) (by omega)).other (w.heap.size + 1 + 1 + 1 + 1 + 1) 1 (.int .u64 l2n) (by omega)).below g4
      have K4' : Hid (Bl2 w4 (w.heap.size + 1 + 1 + 1 + 1 + 1 + 1 + 1) h4 l4) := ((K4.out.other (w.heap.size + 1 + 1 + 1 + 1 + 1) 0 (.int .u64 h2n) (by omega)).other (w.heap.size + 1 + 1 + 1 + 1 + 1) 1 (.int .u64 l2n) (by omega)).below g4
      have hB' : Hid (Below w.heap.size w w4) := ((hB.out.setCell (by simp <;> omega) _).setCell (by simp <;> omega) _).trans (g4.mono (by simp; exact hB.out.size))
      clear hA hR K0 K1 K2 K3 K4 hB g4
      have hA := hA'; clear hA'
      have hR := hR'; clear hR'
      have K0 := K0'; clear K0'
      have K1 := K1'; clear K1'
      have K2 := K2'; clear K2'
      have K3 := K3'; clear K3'
      have K4 := K4'; clear K4'
      have hB := hB'; clear hB'
      obtain ⟨m3l, m3c, m3d, m3f⟩ := K3.out
      obtain ⟨m4l, m4c, m4d, m4f⟩ := K4.out
      go_wp2_with fail
      refine (q4.out _).mono ?_
      rintro e w5 ⟨rfl, g5⟩
      clear m3l m3c m3d m3f m4l m4c m4d m4f
      have hA' : Hid (Bl5 w5 w.heap.size a0 a1 a2 a3 a4) := ((hA.out.other (w.heap.size + 1 + 1 + 1 + 1 + 1 + 1) 0 (.int .u64 h3n) (by omega)).other (w.heap.size + 1 + 1 + 1 + 1 + 1 + 1) 1 (.int .u64 l3n) (by omega)).below g5
      have hR' : Hid (Bl5 w5 (w.heap.size + 1 + 1) 0 0 0 0 0) := ((hR.out.other (w.heap.size + 1 + 1 + 1 + 1 + 1 + 1) 0 (.int .u64 h3n) (by omega)).other (w.heap.size + 1 + 1 + 1 + 1 + 1 + 1) 1 (.int .u64 l3n) (by omega)).below g5
      have K0' : Hid (Bl2 w5 (w.heap.size + 1 + 1 + 1) h0n l0n) := ((K0.out.other (w.heap.size + 1 + 1 + 1 + 1 + 1 + 1) 0 (.int .u64 h3n) (by omega)).other (w.heap.size + 1 + 1 + 1 + 1 + 1 + 1) 1 (.int .u64 l3n) (by omega)).below g5
      have K1' : Hid (Bl2 w5 (w.heap.size + 1 + 1 + 1 + 1) h1n l1n) := ((K1.out.other (w.heap.size + 1 + 1 + 1 + 1 + 1 + 1) 0 (.int .u64 h3n) (by omega)).other (w.heap.size + 1 + 1 + 1 + 1 + 1 + 1) 1 (.int .u64 l3n) (by omega)).below g5
      have K2' : Hid (Bl2 w5 (w.heap.size + 1 + 1 + 1 + 1 + 1) h2n l2n) := ((K2.out.other (w.heap.size + 1 + 1 + 1 + 1 + 1 + 1) 0 (.int .u64 h3n) (by omega)).other (w.heap.size + 1 + 1 + 1 + 1 + 1 + 1) 1 (.int .u64 l3n) (by omega)).below g5
      have K3' : Hid (Bl2 w5 (w.heap.size + 1 + 1 + 1 + 1 + 1 + 1) h3n l3n) := (K3.out.set h3n l3n).below g5
      have K4' : Hid (Bl2 w5 (w.heap.size + 1 + 1 + 1 + 1 + 1 + 1 + 1) h4 l4) := ((K4.out.other (w.heap.size + 1 + 1 + 1 + 1 + 1 + 1) 0 (.int .u64 h3n) (by omega)).other (w.heap.size + 1 + 1 + 1 + 1 + 1 + 1) 1 (.int .u64 l3n) (by omega)).below g5
      have hB' : Hid (Below w.heap.size w w5) := ((hB.out.setCell (by simp <;> omega) _).setCell (by simp <;> omega) _).trans (g5.mono (by simp; exact hB.out.size))
      clear hA hR K0 K1 K2 K3 K4 hB g5
      have hA := hA'; clear hA'
      have hR := hR'; clear hR'
      have K0 := K0'; clear K0'
      have K1 := K1'; clear K1'
      have K2 := K2'; clear K2'
      have K3 := K3'; clear K3'
      have K4 := K4'; clear K4'
      have hB := hB'; clear hB'
      obtain ⟨m4l, m4c, m4d, m4f⟩ := K4.out
      go_wp2_with fail
      go_roundw
      case rel =>
        obtain ⟨F0, F1, F2, F3, F4⟩ := F.out
        refine ⟨k + 1, by omega, by go_num, by rw [F0], by rw [F1], by rw [F2], by rw [F3], by rw [F4], ?_, ?_, ?_, ?_, ?_, ?_, ?_, ?_⟩
        all_goals unfold Hid
        · exact ((hA.out.other (w.heap.size + 1 + 1 + 1 + 1 + 1 + 1 + 1) 0 (.int .u64 h4n) (by omega)).other (w.heap.size + 1 + 1 + 1 + 1 + 1 + 1 + 1) 1 (.int .u64 l4n) (by omega))
        · exact ((hR.out.other (w.heap.size + 1 + 1 + 1 + 1 + 1 + 1 + 1) 0 (.int .u64 h4n) (by omega)).other (w.heap.size + 1 + 1 + 1 + 1 + 1 + 1 + 1) 1 (.int .u64 l4n) (by omega))
        · rw [E0.out.1, E0.out.2]; exact ((K0.out.other (w.heap.size + 1 + 1 + 1 + 1 + 1 + 1 + 1) 0 (.int .u64 h4n) (by omega)).other (w.heap.size + 1 + 1 + 1 + 1 + 1 + 1 + 1) 1 (.int .u64 l4n) (by omega))
        · rw [E1.out.1, E1.out.2]; exact ((K1.out.other (w.heap.size + 1 + 1 + 1 + 1 + 1 + 1 + 1) 0 (.int .u64 h4n) (by omega)).other (w.heap.size + 1 + 1 + 1 + 1 + 1 + 1 + 1) 1 (.int .u64 l4n) (by omega))
        · rw [E2.out.1, E2.out.2]; exact ((K2.out.other (w.heap.size + 1 + 1 + 1 + 1 + 1 + 1 + 1) 0 (.int .u64 h4n) (by omega)).other (w.heap.size + 1 + 1 + 1 + 1 + 1 + 1 + 1) 1 (.int .u64 l4n) (by omega))
        · rw [E3.out.1, E3.out.2]; exact ((K3.out.other (w.heap.size + 1 + 1 + 1 + 1 + 1 + 1 + 1) 0 (.int .u64 h4n) (by omega)).other (w.heap.size + 1 + 1 + 1 + 1 + 1 + 1 + 1) 1 (.int .u64 l4n) (by omega))
        · rw [E4.out.1, E4.out.2]; exact K4.out.set h4n l4n
        · exact (hB.out.setCell (by simp <;> omega) _).setCell (by simp <;> omega) _
      case measure => have := I.out; simp [intOf]; omega
    · obtain rfl : k = 5 := by omega
      obtain ⟨m0l, m0c, m0d, m0f⟩ := K0.out
      obtain ⟨m1l, m1c, m1d, m1f⟩ := K1.out
      obtain ⟨m2l, m2c, m2d, m2f⟩ := K2.out
      obtain ⟨m3l, m3c, m3d, m3f⟩ := K3.out
      obtain ⟨m4l, m4c, m4d, m4f⟩ := K4.out
      clear Y1 Q
      go_wp2_with fail
      refine (qs.out _).mono ?_
      rintro e w1 ⟨rfl, g1⟩
      have R1 := hold (hR.out.below g1)
      have B1 := hold (hB.out.trans (g1.mono hB.out.size))
      clear m0l m0c m0d m0f m1l m1c m1d m1f m2l m2c m2d m2f m3l m3c m3d m3f m4l m4c m4d m4f hA hR K0 K1 K2 K3 K4 hB g1 qs
      go_wp2_with fail
      refine (qt.out _).mono ?_
      rintro e w2 ⟨rfl, hw2⟩
      rw [hw2]; clear hw2 w2 qt
      obtain ⟨rl, r0, r1, r2, r3, r4, rf⟩ := R1.out
      go_wp2_with fail
      refine body_cut (fun W => Bl5 W (w.heap.size + 1 + 1) t0 t1 t2 t3 t4 ∧ Below w.heap.size w W) ⟨(R1.out.set t0 t1 t2 t3 t4).set t0 t1 t2 t3 t4, ?_⟩ ?_
      · iterate 10 (refine Below.setCell ?_ (by simp <;> omega) _)
        exact B1.out
      · clear rl r0 r1 r2 r3 r4 rf R1 B1
        rintro W ⟨⟨rl, r0, r1, r2, r3, r4, rf⟩, hb⟩
        refine bodyPost_ret (v := .agg #[.int .u64 t0, .int .u64 t1, .int .u64 t2, .int .u64 t3, .int .u64 t4]) (by simp [results, Tryd.results49, go_sem, r0, r1, r2, r3, r4]) rfl ⟨rfl, hb⟩

theorem mul_fe (x y : L5) (hx : x.Tm) (hy : y.Tm) : ∃ z : L5, z.Tm ∧ Hid (z.num % (P25 : Int) = x.num * y.num % (P25 : Int)) ∧ ∀ w : World, Calls Tryd.prog 49 #[.agg #[.int .u64 x.l0, .int .u64 x.l1, .int .u64 x.l2, .int .u64 x.l3, .int .u64 x.l4], .agg #[.int .u64 y.l0, .int .u64 y.l1, .int .u64 y.l2, .int .u64 y.l3, .int .u64 y.l4]] w fun e w' => e = .returned (.agg #[.int .u64 z.l0, .int .u64 z.l1, .int .u64 z.l2, .int .u64 z.l3, .int .u64 z.l4]) ∧ Below w.heap.size w w' := by
  obtain ⟨t0, t1, t2, t3, t4, h1, h2, h3⟩ := mul_step5 x.l0 x.l1 x.l2 x.l3 x.l4 y.l0 y.l1 y.l2 y.l3 y.l4 hx hy
  exact ⟨⟨t0, t1, t2, t3, t4⟩, h1, h2, h3⟩

end Go.Proofs.YtkbiiolkekpkiaaDoor

/-
  The contract of the field's Square: for a tame element and any n it returns a tame element whose number is the element's, squared n times (none below 1, at most 1000), modulo 2^255 - 19, and changes no memory that was there. Conditions: as the theorem says.
-/
namespace Go.Proofs.YtkbiiolkekpkiaaDoor
open Go.RowKit
set_option linter.unusedVariables false

theorem sq_poly (x0 x1 x2 x3 x4 B : Int) :
    (x0 + B * x1 + B ^ 2 * x2 + B ^ 3 * x3 + B ^ 4 * x4) * (x0 + B * x1 + B ^ 2 * x2 + B ^ 3 * x3 + B ^ 4 * x4) =
    (x0 * x0 + (2 * x1) * (19 * x4) + (2 * x2) * (19 * x3)) + B * ((2 * x0) * x1 + (2 * x2) * (19 * x4) + x3 * (19 * x3)) + B ^ 2 * ((2 * x0) * x2 + x1 * x1 + (2 * x3) * (19 * x4)) + B ^ 3 * ((2 * x0) * x3 + (2 * x1) * x2 + x4 * (19 * x4)) + B ^ 4 * ((2 * x0) * x4 + (2 * x1) * x3 + x2 * x2)
     + (B ^ 5 - 19) * (2 * (x1 * x4 + x2 * x3) + B * (2 * x2 * x4 + x3 * x3) + B ^ 2 * (2 * x3 * x4) + B ^ 3 * (x4 * x4)) := by
  grind
theorem sq_val5 (x0 x1 x2 x3 x4 : Int) : ∃ k : Int, val5 x0 x1 x2 x3 x4 * val5 x0 x1 x2 x3 x4 =
    val5 (x0 * x0 + (2 * x1) * (19 * x4) + (2 * x2) * (19 * x3)) ((2 * x0) * x1 + (2 * x2) * (19 * x4) + x3 * (19 * x3)) ((2 * x0) * x2 + x1 * x1 + (2 * x3) * (19 * x4)) ((2 * x0) * x3 + (2 * x1) * x2 + x4 * (19 * x4)) ((2 * x0) * x4 + (2 * x1) * x3 + x2 * x2) + (P25 : Int) * k :=
  ⟨_, sq_poly x0 x1 x2 x3 x4 2251799813685248⟩
set_option maxHeartbeats 4000000 in
/-- The columns of a square. -/
theorem sq_cols (x0 x1 x2 x3 x4 : Int) (tx : Tame x0 x1 x2 x3 x4) : ∃ h0_1 l0_1 h0_2 l0_2 h0_3 l0_3 : Int, ∃ h1_1 l1_1 h1_2 l1_2 h1_3 l1_3 : Int, ∃ h2_1 l2_1 h2_2 l2_2 h2_3 l2_3 : Int, ∃ h3_1 l3_1 h3_2 l3_2 h3_3 l3_3 : Int, ∃ h4_1 l4_1 h4_2 l4_2 h4_3 l4_3 : Int, PlusTo 0 0 x0 x0 h0_1 l0_1 ∧ PlusTo h0_1 l0_1 (2 * x1) (19 * x4) h0_2 l0_2 ∧ PlusTo h0_2 l0_2 (2 * x2) (19 * x3) h0_3 l0_3 ∧ PlusTo 0 0 (2 * x0) x1 h1_1 l1_1 ∧ PlusTo h1_1 l1_1 (2 * x2) (19 * x4) h1_2 l1_2 ∧ PlusTo h1_2 l1_2 x3 (19 * x3) h1_3 l1_3 ∧ PlusTo 0 0 (2 * x0) x2 h2_1 l2_1 ∧ PlusTo h2_1 l2_1 x1 x1 h2_2 l2_2 ∧ PlusTo h2_2 l2_2 (2 * x3) (19 * x4) h2_3 l2_3 ∧ PlusTo 0 0 (2 * x0) x3 h3_1 l3_1 ∧ PlusTo h3_1 l3_1 (2 * x1) x2 h3_2 l3_2 ∧ PlusTo h3_2 l3_2 x4 (19 * x4) h3_3 l3_3 ∧ PlusTo 0 0 (2 * x0) x4 h4_1 l4_1 ∧ PlusTo h4_1 l4_1 (2 * x1) x3 h4_2 l4_2 ∧ PlusTo h4_2 l4_2 x2 x2 h4_3 l4_3 ∧ 
    ∃ s0 s1 s2 s3 s4 t0 t1 t2 t3 t4 : Int, Tame t0 t1 t2 t3 t4 ∧ Hid (val5 t0 t1 t2 t3 t4 % (P25 : Int) = val5 x0 x1 x2 x3 x4 * val5 x0 x1 x2 x3 x4 % (P25 : Int)) ∧
    (∀ w : World, Calls Tryd.prog 78 #[.agg #[.int .u64 h0_3, .int .u64 l0_3], .agg #[.int .u64 h1_3, .int .u64 l1_3], .agg #[.int .u64 h2_3, .int .u64 l2_3], .agg #[.int .u64 h3_3, .int .u64 l3_3], .agg #[.int .u64 h4_3, .int .u64 l4_3]] w fun e w' => e = .returned (.tuple #[.int .u64 s0, .int .u64 s1, .int .u64 s2, .int .u64 s3, .int .u64 s4]) ∧ Below w.heap.size w w') ∧
    (∀ w : World, Calls Tryd.prog 77 #[.int .u64 s0, .int .u64 s1, .int .u64 s2, .int .u64 s3, .int .u64 s4] w fun e w' => e = .returned (.tuple #[.int .u64 t0, .int .u64 t1, .int .u64 t2, .int .u64 t3, .int .u64 t4]) ∧ w' = w) ∧
    IntKind.u64.wrap (2 * x0) = 2 * x0 ∧ IntKind.u64.wrap (2 * x1) = 2 * x1 ∧ IntKind.u64.wrap (2 * x2) = 2 * x2 ∧ IntKind.u64.wrap (2 * x3) = 2 * x3 ∧ IntKind.u64.wrap (19 * x3) = 19 * x3 ∧ IntKind.u64.wrap (19 * x4) = 19 * x4 := by
  have W19_x3 : Wd (19 * x3) := by unfold Tame at tx; unfold Wd; omega
  have W19_x4 : Wd (19 * x4) := by unfold Tame at tx; unfold Wd; omega
  have W2_x0 : Wd (2 * x0) := by unfold Tame at tx; unfold Wd; omega
  have W2_x1 : Wd (2 * x1) := by unfold Tame at tx; unfold Wd; omega
  have W2_x2 : Wd (2 * x2) := by unfold Tame at tx; unfold Wd; omega
  have W2_x3 : Wd (2 * x3) := by unfold Tame at tx; unfold Wd; omega
  have Wx0 : Wd (x0) := by unfold Tame at tx; unfold Wd; omega
  have Wx1 : Wd (x1) := by unfold Tame at tx; unfold Wd; omega
  have Wx2 : Wd (x2) := by unfold Tame at tx; unfold Wd; omega
  have Wx3 : Wd (x3) := by unfold Tame at tx; unfold Wd; omega
  have Wx4 : Wd (x4) := by unfold Tame at tx; unfold Wd; omega
  have p00 := mul_lt' x0 x0 4503599627370496 4503599627370496 (by unfold Tame at tx; omega) (by unfold Tame at tx; omega) (by unfold Tame at tx; omega) (by unfold Tame at tx; omega)
  have p01 := mul_lt' (2 * x1) (19 * x4) 9007199254740992 85568392920039424 (by unfold Tame at tx; omega) (by unfold Tame at tx; omega) (by unfold Tame at tx; omega) (by unfold Tame at tx; omega)
  have p02 := mul_lt' (2 * x2) (19 * x3) 9007199254740992 85568392920039424 (by unfold Tame at tx; omega) (by unfold Tame at tx; omega) (by unfold Tame at tx; omega) (by unfold Tame at tx; omega)
  have p10 := mul_lt' (2 * x0) x1 9007199254740992 4503599627370496 (by unfold Tame at tx; omega) (by unfold Tame at tx; omega) (by unfold Tame at tx; omega) (by unfold Tame at tx; omega)
  have p11 := mul_lt' (2 * x2) (19 * x4) 9007199254740992 85568392920039424 (by unfold Tame at tx; omega) (by unfold Tame at tx; omega) (by unfold Tame at tx; omega) (by unfold Tame at tx; omega)
  have p12 := mul_lt' x3 (19 * x3) 4503599627370496 85568392920039424 (by unfold Tame at tx; omega) (by unfold Tame at tx; omega) (by unfold Tame at tx; omega) (by unfold Tame at tx; omega)
  have p20 := mul_lt' (2 * x0) x2 9007199254740992 4503599627370496 (by unfold Tame at tx; omega) (by unfold Tame at tx; omega) (by unfold Tame at tx; omega) (by unfold Tame at tx; omega)
  have p21 := mul_lt' x1 x1 4503599627370496 4503599627370496 (by unfold Tame at tx; omega) (by unfold Tame at tx; omega) (by unfold Tame at tx; omega) (by unfold Tame at tx; omega)
  have p22 := mul_lt' (2 * x3) (19 * x4) 9007199254740992 85568392920039424 (by unfold Tame at tx; omega) (by unfold Tame at tx; omega) (by unfold Tame at tx; omega) (by unfold Tame at tx; omega)
  have p30 := mul_lt' (2 * x0) x3 9007199254740992 4503599627370496 (by unfold Tame at tx; omega) (by unfold Tame at tx; omega) (by unfold Tame at tx; omega) (by unfold Tame at tx; omega)
  have p31 := mul_lt' (2 * x1) x2 9007199254740992 4503599627370496 (by unfold Tame at tx; omega) (by unfold Tame at tx; omega) (by unfold Tame at tx; omega) (by unfold Tame at tx; omega)
  have p32 := mul_lt' x4 (19 * x4) 4503599627370496 85568392920039424 (by unfold Tame at tx; omega) (by unfold Tame at tx; omega) (by unfold Tame at tx; omega) (by unfold Tame at tx; omega)
  have p40 := mul_lt' (2 * x0) x4 9007199254740992 4503599627370496 (by unfold Tame at tx; omega) (by unfold Tame at tx; omega) (by unfold Tame at tx; omega) (by unfold Tame at tx; omega)
  have p41 := mul_lt' (2 * x1) x3 9007199254740992 4503599627370496 (by unfold Tame at tx; omega) (by unfold Tame at tx; omega) (by unfold Tame at tx; omega) (by unfold Tame at tx; omega)
  have p42 := mul_lt' x2 x2 4503599627370496 4503599627370496 (by unfold Tame at tx; omega) (by unfold Tame at tx; omega) (by unfold Tame at tx; omega) (by unfold Tame at tx; omega)
  obtain ⟨h0_1, l0_1, h0_2, l0_2, h0_3, l0_3, Q0_0, Q0_1, Q0_2, y0, z0, E0⟩ := col3 x0 (2 * x1) (2 * x2) x0 (19 * x4) (19 * x3) Wx0 Wx0 ⟨p00.1, by have := p00.2; omega⟩ W2_x1 W19_x4 ⟨p01.1, by have := p01.2; omega⟩ W2_x2 W19_x3 ⟨p02.1, by have := p02.2; omega⟩
  obtain ⟨h1_1, l1_1, h1_2, l1_2, h1_3, l1_3, Q1_0, Q1_1, Q1_2, y1, z1, E1⟩ := col3 (2 * x0) (2 * x2) x3 x1 (19 * x4) (19 * x3) W2_x0 Wx1 ⟨p10.1, by have := p10.2; omega⟩ W2_x2 W19_x4 ⟨p11.1, by have := p11.2; omega⟩ Wx3 W19_x3 ⟨p12.1, by have := p12.2; omega⟩
  obtain ⟨h2_1, l2_1, h2_2, l2_2, h2_3, l2_3, Q2_0, Q2_1, Q2_2, y2, z2, E2⟩ := col3 (2 * x0) x1 (2 * x3) x2 x1 (19 * x4) W2_x0 Wx2 ⟨p20.1, by have := p20.2; omega⟩ Wx1 Wx1 ⟨p21.1, by have := p21.2; omega⟩ W2_x3 W19_x4 ⟨p22.1, by have := p22.2; omega⟩
  obtain ⟨h3_1, l3_1, h3_2, l3_2, h3_3, l3_3, Q3_0, Q3_1, Q3_2, y3, z3, E3⟩ := col3 (2 * x0) (2 * x1) x4 x3 x2 (19 * x4) W2_x0 Wx3 ⟨p30.1, by have := p30.2; omega⟩ W2_x1 Wx2 ⟨p31.1, by have := p31.2; omega⟩ Wx4 W19_x4 ⟨p32.1, by have := p32.2; omega⟩
  obtain ⟨h4_1, l4_1, h4_2, l4_2, h4_3, l4_3, Q4_0, Q4_1, Q4_2, y4, z4, E4⟩ := col3 (2 * x0) (2 * x1) x2 x4 x3 x2 W2_x0 Wx4 ⟨p40.1, by have := p40.2; omega⟩ W2_x1 Wx3 ⟨p41.1, by have := p41.2; omega⟩ Wx2 Wx2 ⟨p42.1, by have := p42.2; omega⟩
  have m0 : h0_3 < 140737488355328 := by unfold Hid at E0; unfold Wd at z0; have := p00; have := p01; have := p02; omega
  have m1 : h1_3 < 140737488355328 := by unfold Hid at E1; unfold Wd at z1; have := p10; have := p11; have := p12; omega
  have m2 : h2_3 < 140737488355328 := by unfold Hid at E2; unfold Wd at z2; have := p20; have := p21; have := p22; omega
  have m3 : h3_3 < 140737488355328 := by unfold Hid at E3; unfold Wd at z3; have := p30; have := p31; have := p32; omega
  have m4 : h4_3 < 70368744177664 := by unfold Hid at E4; unfold Wd at z4; have := p40; have := p41; have := p42; omega
  obtain ⟨s0, s1, s2, s3, s4, ws0, ws1, ws2, ws3, ws4, S, QS⟩ := spread_step h0_3 l0_3 h1_3 l1_3 h2_3 l2_3 h3_3 l3_3 h4_3 l4_3 y0 z0 m0 y1 z1 m1 y2 z2 m2 y3 z3 m3 y4 z4 m4
  obtain ⟨t0, t1, t2, t3, t4, T, QT⟩ := settle_step s0 s1 s2 s3 s4 ws0 ws1 ws2 ws3 ws4
  refine ⟨h0_1, l0_1, h0_2, l0_2, h0_3, l0_3, h1_1, l1_1, h1_2, l1_2, h1_3, l1_3, h2_1, l2_1, h2_2, l2_2, h2_3, l2_3, h3_1, l3_1, h3_2, l3_2, h3_3, l3_3, h4_1, l4_1, h4_2, l4_2, h4_3, l4_3, plusTo_of Q0_0, plusTo_of Q0_1, plusTo_of Q0_2, plusTo_of Q1_0, plusTo_of Q1_1, plusTo_of Q1_2, plusTo_of Q2_0, plusTo_of Q2_1, plusTo_of Q2_2, plusTo_of Q3_0, plusTo_of Q3_1, plusTo_of Q3_2, plusTo_of Q4_0, plusTo_of Q4_1, plusTo_of Q4_2, s0, s1, s2, s3, s4, t0, t1, t2, t3, t4, T.out.1, ?_, QS, QT, wrapW _ W2_x0.1 W2_x0.2, wrapW _ W2_x1.1 W2_x1.2, wrapW _ W2_x2.1 W2_x2.2, wrapW _ W2_x3.1 W2_x3.2, wrapW _ W19_x3.1 W19_x3.2, wrapW _ W19_x4.1 W19_x4.2⟩
  unfold Hid at E0 E1 E2 E3 E4 ⊢
  obtain ⟨k1, e1⟩ := sq_val5 x0 x1 x2 x3 x4
  obtain ⟨k2, e2⟩ := spread_val _ _ _ _ _ _ _ _ _ _ _ _ _ _ _ S.out T.out.2
  rw [E0, E1, E2, E3, E4] at e2
  rw [mod_of_sum e2, ← mod_of_sum e1]

/-- How one square goes, column by column. -/
def SqTo (x0 x1 x2 x3 x4 t0 t1 t2 t3 t4 : Int) : Prop := ∃ h0_1 l0_1 h0_2 l0_2 h0_3 l0_3 : Int, ∃ h1_1 l1_1 h1_2 l1_2 h1_3 l1_3 : Int, ∃ h2_1 l2_1 h2_2 l2_2 h2_3 l2_3 : Int, ∃ h3_1 l3_1 h3_2 l3_2 h3_3 l3_3 : Int, ∃ h4_1 l4_1 h4_2 l4_2 h4_3 l4_3 : Int, PlusTo 0 0 x0 x0 h0_1 l0_1 ∧ PlusTo h0_1 l0_1 (2 * x1) (19 * x4) h0_2 l0_2 ∧ PlusTo h0_2 l0_2 (2 * x2) (19 * x3) h0_3 l0_3 ∧ PlusTo 0 0 (2 * x0) x1 h1_1 l1_1 ∧ PlusTo h1_1 l1_1 (2 * x2) (19 * x4) h1_2 l1_2 ∧ PlusTo h1_2 l1_2 x3 (19 * x3) h1_3 l1_3 ∧ PlusTo 0 0 (2 * x0) x2 h2_1 l2_1 ∧ PlusTo h2_1 l2_1 x1 x1 h2_2 l2_2 ∧ PlusTo h2_2 l2_2 (2 * x3) (19 * x4) h2_3 l2_3 ∧ PlusTo 0 0 (2 * x0) x3 h3_1 l3_1 ∧ PlusTo h3_1 l3_1 (2 * x1) x2 h3_2 l3_2 ∧ PlusTo h3_2 l3_2 x4 (19 * x4) h3_3 l3_3 ∧ PlusTo 0 0 (2 * x0) x4 h4_1 l4_1 ∧ PlusTo h4_1 l4_1 (2 * x1) x3 h4_2 l4_2 ∧ PlusTo h4_2 l4_2 x2 x2 h4_3 l4_3 ∧  ∃ s0 s1 s2 s3 s4 : Int, (∀ w : World, Calls Tryd.prog 78 #[.agg #[.int .u64 h0_3, .int .u64 l0_3], .agg #[.int .u64 h1_3, .int .u64 l1_3], .agg #[.int .u64 h2_3, .int .u64 l2_3], .agg #[.int .u64 h3_3, .int .u64 l3_3], .agg #[.int .u64 h4_3, .int .u64 l4_3]] w fun e w' => e = .returned (.tuple #[.int .u64 s0, .int .u64 s1, .int .u64 s2, .int .u64 s3, .int .u64 s4]) ∧ Below w.heap.size w w') ∧ (∀ w : World, Calls Tryd.prog 77 #[.int .u64 s0, .int .u64 s1, .int .u64 s2, .int .u64 s3, .int .u64 s4] w fun e w' => e = .returned (.tuple #[.int .u64 t0, .int .u64 t1, .int .u64 t2, .int .u64 t3, .int .u64 t4]) ∧ w' = w) ∧ IntKind.u64.wrap (2 * x0) = 2 * x0 ∧ IntKind.u64.wrap (2 * x1) = 2 * x1 ∧ IntKind.u64.wrap (2 * x2) = 2 * x2 ∧ IntKind.u64.wrap (2 * x3) = 2 * x3 ∧ IntKind.u64.wrap (19 * x3) = 19 * x3 ∧ IntKind.u64.wrap (19 * x4) = 19 * x4
theorem sqTo_ex (x : L5) (hx : x.Tm) : ∃ t : L5, t.Tm ∧ t.num % (P25 : Int) = x.num * x.num % (P25 : Int) ∧ SqTo x.l0 x.l1 x.l2 x.l3 x.l4 t.l0 t.l1 t.l2 t.l3 t.l4 := by
  obtain ⟨h0_1, l0_1, h0_2, l0_2, h0_3, l0_3, h1_1, l1_1, h1_2, l1_2, h1_3, l1_3, h2_1, l2_1, h2_2, l2_2, h2_3, l2_3, h3_1, l3_1, h3_2, l3_2, h3_3, l3_3, h4_1, l4_1, h4_2, l4_2, h4_3, l4_3, q0_0, q0_1, q0_2, q1_0, q1_1, q1_2, q2_0, q2_1, q2_2, q3_0, q3_1, q3_2, q4_0, q4_1, q4_2, s0, s1, s2, s3, s4, t0, t1, t2, t3, t4, tt, ev, QS, QT, f0, f1, f2, f3, f4, f5⟩ := sq_cols x.l0 x.l1 x.l2 x.l3 x.l4 hx
  exact ⟨⟨t0, t1, t2, t3, t4⟩, tt, ev.out, h0_1, l0_1, h0_2, l0_2, h0_3, l0_3, h1_1, l1_1, h1_2, l1_2, h1_3, l1_3, h2_1, l2_1, h2_2, l2_2, h2_3, l2_3, h3_1, l3_1, h3_2, l3_2, h3_3, l3_3, h4_1, l4_1, h4_2, l4_2, h4_3, l4_3, q0_0, q0_1, q0_2, q1_0, q1_1, q1_2, q2_0, q2_1, q2_2, q3_0, q3_1, q3_2, q4_0, q4_1, q4_2, s0, s1, s2, s3, s4, QS, QT, f0, f1, f2, f3, f4, f5⟩

/-- Squared k times. -/
theorem pow_sq (v y : Int) (k : Nat) (h : y % (P25 : Int) = v ^ 2 ^ k % (P25 : Int)) : y * y % (P25 : Int) = v ^ 2 ^ (k + 1) % (P25 : Int) := by
  rw [Nat.pow_succ, Int.pow_mul, Int.pow_succ, Int.pow_succ, Int.pow_zero, Int.one_mul, Int.mul_emod, h, ← Int.mul_emod]

theorem sq_seq (x : L5) (hx : x.Tm) : ∃ X : Nat → L5, X 0 = x ∧ ∀ k, (X k).Tm ∧ (X k).num % (P25 : Int) = x.num ^ 2 ^ k % (P25 : Int) ∧ SqTo (X k).l0 (X k).l1 (X k).l2 (X k).l3 (X k).l4 (X (k + 1)).l0 (X (k + 1)).l1 (X (k + 1)).l2 (X (k + 1)).l3 (X (k + 1)).l4 := by
  let f : {y : L5 // y.Tm} → {y : L5 // y.Tm} := fun y => ⟨Classical.choose (sqTo_ex y.1 y.2), (Classical.choose_spec (sqTo_ex y.1 y.2)).1⟩
  let S : Nat → {y : L5 // y.Tm} := fun k => Nat.rec ⟨x, hx⟩ (fun _ y => f y) k
  have hS : ∀ k, S (k + 1) = f (S k) := fun k => rfl
  refine ⟨fun k => (S k).1, rfl, fun k => ⟨(S k).2, ?_, ?_⟩⟩
  · induction k with
    | zero => show x.num % _ = _; rw [Nat.pow_zero, Int.pow_succ, Int.pow_zero, Int.one_mul]
    | succ k ih =>
      have h := (Classical.choose_spec (sqTo_ex (S k).1 (S k).2)).2.1
      show (f (S k)).1.num % _ = _
      exact h.trans (pow_sq _ _ k ih)
  · exact (Classical.choose_spec (sqTo_ex (S k).1 (S k).2)).2.2

set_option maxHeartbeats 16000000 in
set_option maxRecDepth 100000 in
theorem square_fe (x : L5) (n : Int) (hx : x.Tm) (hn : -9223372036854775808 ≤ n ∧ n ≤ 9223372036854775807) (m : Nat) (hm : (n ≤ 0 ∧ m = 0) ∨ (0 ≤ n ∧ n ≤ 1000 ∧ n = (m : Int)) ∨ (1000 < n ∧ m = 1000)) :
    ∃ t : L5, t.Tm ∧ Hid (t.num % (P25 : Int) = x.num ^ 2 ^ m % (P25 : Int)) ∧ ∀ w : World, Calls Tryd.prog 51 #[.agg #[.int .u64 x.l0, .int .u64 x.l1, .int .u64 x.l2, .int .u64 x.l3, .int .u64 x.l4], .int .i64 n] w fun e w' => e = .returned (.agg #[.int .u64 t.l0, .int .u64 t.l1, .int .u64 t.l2, .int .u64 t.l3, .int .u64 t.l4]) ∧ Below w.heap.size w w' := by
  obtain ⟨X, hX0, hX⟩ := sq_seq x hx
  refine ⟨X m, (hX m).1, (hX m).2.1, fun w => ?_⟩
  have HS : Hid (∀ k, SqTo (X k).l0 (X k).l1 (X k).l2 (X k).l3 (X k).l4 (X (k + 1)).l0 (X (k + 1)).l1 (X (k + 1)).l2 (X (k + 1)).l3 (X (k + 1)).l4) := fun k => (hX k).2.2
  have HX0 : Hid (X 0 = x) := hX0
  obtain ⟨a0, a1, a2, a3, a4⟩ := x
  dsimp only
  clear hX hX0 hx
  obtain ⟨r, hr⟩ : ∃ r : Int, min n 1000 = r := ⟨_, rfl⟩
  have hr1 : r ≤ (m : Int) := by omega
  have hr2 : 0 < m → r = (m : Int) := by omega
  have hr3 : -9223372036854775808 ≤ r ∧ r ≤ 1000 := by omega
  go_enter Tryd.func51, Tryd.ntmps51
  go_wp2_with fail
  go_quiet (fail)
  go_wp2_with fail
  go_loopw [5, 6, 7, 8, 9, 31] (fun v0 v1 v2 v3 v4 i wr => ∃ (k : Nat), k ≤ m ∧ i = .int .i64 (k : Int) ∧ v0 = .int .u64 (X k).l0 ∧ v1 = .int .u64 (X k).l1 ∧ v2 = .int .u64 (X k).l2 ∧ v3 = .int .u64 (X k).l3 ∧ v4 = .int .u64 (X k).l4 ∧ Hid (Bl5 wr (w.heap.size + 1) 0 0 0 0 0) ∧ Hid (Below w.heap.size w wr)) (fun _ _ _ _ _ i _ => m - (intOf i).toNat)
  case atStart =>
    refine ⟨0, by omega, rfl, by rw [HX0.out], by rw [HX0.out], by rw [HX0.out], by rw [HX0.out], by rw [HX0.out], ?_, ?_⟩
    all_goals (unfold Hid)
    · refine Bl5.drewN ?_ _
      refine Bl5.new _ _ _ _ _ _ _ _ ?_
      simp
    · repeat (first | exact Below.refl _ _ | refine below_drewN ?_ _ | refine Below.alloc ?_ (by simp <;> omega) _)
  case round =>
    obtain ⟨k, hk, rfl, rfl, rfl, rfl, rfl, rfl, hR, hB⟩ := hrel
    clear HX0 hr hn hm
    obtain ⟨w0, hw0⟩ : ∃ w0, wr = w0 := ⟨_, rfl⟩
    subst hw0
    by_cases hlt : k < m
    · have HK := HS.out k
      obtain ⟨⟨x0, x1, x2, x3, x4⟩, hXk⟩ : ∃ y, X k = y := ⟨_, rfl⟩
      obtain ⟨⟨t0, t1, t2, t3, t4⟩, hXn⟩ : ∃ y, X (k + 1) = y := ⟨_, rfl⟩
      rw [hXk, hXn] at HK
      rw [hXk]
      dsimp only at HK ⊢
      have HXn : Hid (X (k + 1) = ⟨t0, t1, t2, t3, t4⟩) := hXn
      obtain ⟨h0_1, l0_1, h0_2, l0_2, h0_3, l0_3, h1_1, l1_1, h1_2, l1_2, h1_3, l1_3, h2_1, l2_1, h2_2, l2_2, h2_3, l2_3, h3_1, l3_1, h3_2, l3_2, h3_3, l3_3, h4_1, l4_1, h4_2, l4_2, h4_3, l4_3, q0_0, q0_1, q0_2, q1_0, q1_1, q1_2, q2_0, q2_1, q2_2, q3_0, q3_1, q3_2, q4_0, q4_1, q4_2, s0, s1, s2, s3, s4, QS, QT, f0, f1, f2, f3, f4, f5⟩ := HK
      have Q0_0 : Hid (PlusTo 0 0 x0 x0 h0_1 l0_1) := q0_0
      have Q0_1 : Hid (PlusTo h0_1 l0_1 (2 * x1) (19 * x4) h0_2 l0_2) := q0_1
      have Q0_2 : Hid (PlusTo h0_2 l0_2 (2 * x2) (19 * x3) h0_3 l0_3) := q0_2
      have Q1_0 : Hid (PlusTo 0 0 (2 * x0) x1 h1_1 l1_1) := q1_0
      have Q1_1 : Hid (PlusTo h1_1 l1_1 (2 * x2) (19 * x4) h1_2 l1_2) := q1_1
      have Q1_2 : Hid (PlusTo h1_2 l1_2 x3 (19 * x3) h1_3 l1_3) := q1_2
      have Q2_0 : Hid (PlusTo 0 0 (2 * x0) x2 h2_1 l2_1) := q2_0
      have Q2_1 : Hid (PlusTo h2_1 l2_1 x1 x1 h2_2 l2_2) := q2_1
      have Q2_2 : Hid (PlusTo h2_2 l2_2 (2 * x3) (19 * x4) h2_3 l2_3) := q2_2
      have Q3_0 : Hid (PlusTo 0 0 (2 * x0) x3 h3_1 l3_1) := q3_0
      have Q3_1 : Hid (PlusTo h3_1 l3_1 (2 * x1) x2 h3_2 l3_2) := q3_1
      have Q3_2 : Hid (PlusTo h3_2 l3_2 x4 (19 * x4) h3_3 l3_3) := q3_2
      have Q4_0 : Hid (PlusTo 0 0 (2 * x0) x4 h4_1 l4_1) := q4_0
      have Q4_1 : Hid (PlusTo h4_1 l4_1 (2 * x1) x3 h4_2 l4_2) := q4_1
      have Q4_2 : Hid (PlusTo h4_2 l4_2 x2 x2 h4_3 l4_3) := q4_2
      have qs : Hid (∀ w : World, Calls Tryd.prog 78 #[.agg #[.int .u64 h0_3, .int .u64 l0_3], .agg #[.int .u64 h1_3, .int .u64 l1_3], .agg #[.int .u64 h2_3, .int .u64 l2_3], .agg #[.int .u64 h3_3, .int .u64 l3_3], .agg #[.int .u64 h4_3, .int .u64 l4_3]] w fun e w' => e = .returned (.tuple #[.int .u64 s0, .int .u64 s1, .int .u64 s2, .int .u64 s3, .int .u64 s4]) ∧ Below w.heap.size w w') := QS
      have qt : Hid (∀ w : World, Calls Tryd.prog 77 #[.int .u64 s0, .int .u64 s1, .int .u64 s2, .int .u64 s3, .int .u64 s4] w fun e w' => e = .returned (.tuple #[.int .u64 t0, .int .u64 t1, .int .u64 t2, .int .u64 t3, .int .u64 t4]) ∧ w' = w) := QT
      have hm0 : (k : Int) < r := by omega
      have hk3 : (k : Int) < 1000 := by omega
      clear QS QT hXk hXn q0_0 q0_1 q0_2 q1_0 q1_1 q1_2 q2_0 q2_1 q2_2 q3_0 q3_1 q3_2 q4_0 q4_1 q4_2
      have I : Hid (k < m) := hlt
      clear hr1 hr2 hr3
      go_wp2_with fail
      refine (Q0_0.out _).mono ?_
      rintro e w1 ⟨rfl, g⟩
      have hR' := hold (hR.out.below g)
      have hB' := hold (hB.out.trans (g.mono hB.out.size))
      clear hR hB g 
      have hR := hR'; clear hR'
      have hB := hB'; clear hB'
      clear Q0_0
      go_wp2_with fail
      refine (Q0_1.out _).mono ?_
      rintro e w2 ⟨rfl, g⟩
      have hR' := hold (hR.out.below g)
      have hB' := hold (hB.out.trans (g.mono hB.out.size))
      clear hR hB g 
      have hR := hR'; clear hR'
      have hB := hB'; clear hB'
      clear Q0_1
      go_wp2_with fail
      refine (Q0_2.out _).mono ?_
      rintro e w3 ⟨rfl, g⟩
      have hR' := hold (hR.out.below g)
      have hB' := hold (hB.out.trans (g.mono hB.out.size))
      clear hR hB g 
      have hR := hR'; clear hR'
      have hB := hB'; clear hB'
      clear Q0_2
      go_wp2_with fail
      refine (Q1_0.out _).mono ?_
      rintro e w4 ⟨rfl, g⟩
      have K0' : Hid (Bl2 w4 w3.heap.size h0_3 l0_3) := (Bl2.new w3 _ h0_3 l0_3 90 rfl).below g
      have hR' : Hid (Bl5 w4 (w.heap.size + 1) 0 0 0 0 0) := (hR.out.alloc _).below g
      have hB' : Hid (Below w.heap.size w w4) := (hB.out.alloc hB.out.size _).trans (g.mono (by simp; have := hB.out.size; omega))
      clear hR hB g 
      have hR := hR'; clear hR'
      have hB := hB'; clear hB'
      have K0 := K0'; clear K0'
      clear Q1_0
      go_wp2_with fail
      refine (Q1_1.out _).mono ?_
      rintro e w5 ⟨rfl, g⟩
      have K0' := hold (K0.out.below g)
      have hR' := hold (hR.out.below g)
      have hB' := hold (hB.out.trans (g.mono hB.out.size))
      clear hR hB g K0
      have hR := hR'; clear hR'
      have hB := hB'; clear hB'
      have K0 := K0'; clear K0'
      clear Q1_1
      go_wp2_with fail
      refine (Q1_2.out _).mono ?_
      rintro e w6 ⟨rfl, g⟩
      have K0' := hold (K0.out.below g)
      have hR' := hold (hR.out.below g)
      have hB' := hold (hB.out.trans (g.mono hB.out.size))
      clear hR hB g K0
      have hR := hR'; clear hR'
      have hB := hB'; clear hB'
      have K0 := K0'; clear K0'
      clear Q1_2
      go_wp2_with fail
      refine (Q2_0.out _).mono ?_
      rintro e w7 ⟨rfl, g⟩
      have K1' : Hid (Bl2 w7 w6.heap.size h1_3 l1_3) := (Bl2.new w6 _ h1_3 l1_3 90 rfl).below g
      have K0' : Hid (Bl2 w7 w3.heap.size h0_3 l0_3) := (K0.out.alloc _).below g
      have hR' : Hid (Bl5 w7 (w.heap.size + 1) 0 0 0 0 0) := (hR.out.alloc _).below g
      have hB' : Hid (Below w.heap.size w w7) := (hB.out.alloc hB.out.size _).trans (g.mono (by simp; have := hB.out.size; omega))
      clear hR hB g K0
      have hR := hR'; clear hR'
      have hB := hB'; clear hB'
      have K0 := K0'; clear K0'
      have K1 := K1'; clear K1'
      clear Q2_0
      go_wp2_with fail
      refine (Q2_1.out _).mono ?_
      rintro e w8 ⟨rfl, g⟩
      have K0' := hold (K0.out.below g)
      have K1' := hold (K1.out.below g)
      have hR' := hold (hR.out.below g)
      have hB' := hold (hB.out.trans (g.mono hB.out.size))
      clear hR hB g K0 K1
      have hR := hR'; clear hR'
      have hB := hB'; clear hB'
      have K0 := K0'; clear K0'
      have K1 := K1'; clear K1'
      clear Q2_1
      go_wp2_with fail
      refine (Q2_2.out _).mono ?_
      rintro e w9 ⟨rfl, g⟩
      have K0' := hold (K0.out.below g)
      have K1' := hold (K1.out.below g)
      have hR' := hold (hR.out.below g)
      have hB' := hold (hB.out.trans (g.mono hB.out.size))
      clear hR hB g K0 K1
      have hR := hR'; clear hR'
      have hB := hB'; clear hB'
      have K0 := K0'; clear K0'
      have K1 := K1'; clear K1'
      clear Q2_2
      go_wp2_with fail
      refine (Q3_0.out _).mono ?_
      rintro e w10 ⟨rfl, g⟩
      have K2' : Hid (Bl2 w10 w9.heap.size h2_3 l2_3) := (Bl2.new w9 _ h2_3 l2_3 90 rfl).below g
      have K0' : Hid (Bl2 w10 w3.heap.size h0_3 l0_3) := (K0.out.alloc _).below g
      have K1' : Hid (Bl2 w10 w6.heap.size h1_3 l1_3) := (K1.out.alloc _).below g
      have hR' : Hid (Bl5 w10 (w.heap.size + 1) 0 0 0 0 0) := (hR.out.alloc _).below g
      have hB' : Hid (Below w.heap.size w w10) := (hB.out.alloc hB.out.size _).trans (g.mono (by simp; have := hB.out.size; omega))
      clear hR hB g K0 K1
      have hR := hR'; clear hR'
      have hB := hB'; clear hB'
      have K0 := K0'; clear K0'
      have K1 := K1'; clear K1'
      have K2 := K2'; clear K2'
      clear Q3_0
      go_wp2_with fail
      refine (Q3_1.out _).mono ?_
      rintro e w11 ⟨rfl, g⟩
      have K0' := hold (K0.out.below g)
      have K1' := hold (K1.out.below g)
      have K2' := hold (K2.out.below g)
      have hR' := hold (hR.out.below g)
      have hB' := hold (hB.out.trans (g.mono hB.out.size))
      clear hR hB g K0 K1 K2
      have hR := hR'; clear hR'
      have hB := hB'; clear hB'
      have K0 := K0'; clear K0'
      have K1 := K1'; clear K1'
      have K2 := K2'; clear K2'
      clear Q3_1
      go_wp2_with fail
      refine (Q3_2.out _).mono ?_
      rintro e w12 ⟨rfl, g⟩
      have K0' := hold (K0.out.below g)
      have K1' := hold (K1.out.below g)
      have K2' := hold (K2.out.below g)
      have hR' := hold (hR.out.below g)
      have hB' := hold (hB.out.trans (g.mono hB.out.size))
      clear hR hB g K0 K1 K2
      have hR := hR'; clear hR'
      have hB := hB'; clear hB'
      have K0 := K0'; clear K0'
      have K1 := K1'; clear K1'
      have K2 := K2'; clear K2'
      clear Q3_2
      go_wp2_with fail
      refine (Q4_0.out _).mono ?_
      rintro e w13 ⟨rfl, g⟩
      have K3' : Hid (Bl2 w13 w12.heap.size h3_3 l3_3) := (Bl2.new w12 _ h3_3 l3_3 90 rfl).below g
      have K0' : Hid (Bl2 w13 w3.heap.size h0_3 l0_3) := (K0.out.alloc _).below g
      have K1' : Hid (Bl2 w13 w6.heap.size h1_3 l1_3) := (K1.out.alloc _).below g
      have K2' : Hid (Bl2 w13 w9.heap.size h2_3 l2_3) := (K2.out.alloc _).below g
      have hR' : Hid (Bl5 w13 (w.heap.size + 1) 0 0 0 0 0) := (hR.out.alloc _).below g
      have hB' : Hid (Below w.heap.size w w13) := (hB.out.alloc hB.out.size _).trans (g.mono (by simp; have := hB.out.size; omega))
      clear hR hB g K0 K1 K2
      have hR := hR'; clear hR'
      have hB := hB'; clear hB'
      have K0 := K0'; clear K0'
      have K1 := K1'; clear K1'
      have K2 := K2'; clear K2'
      have K3 := K3'; clear K3'
      clear Q4_0
      go_wp2_with fail
      refine (Q4_1.out _).mono ?_
      rintro e w14 ⟨rfl, g⟩
      have K0' := hold (K0.out.below g)
      have K1' := hold (K1.out.below g)
      have K2' := hold (K2.out.below g)
      have K3' := hold (K3.out.below g)
      have hR' := hold (hR.out.below g)
      have hB' := hold (hB.out.trans (g.mono hB.out.size))
      clear hR hB g K0 K1 K2 K3
      have hR := hR'; clear hR'
      have hB := hB'; clear hB'
      have K0 := K0'; clear K0'
      have K1 := K1'; clear K1'
      have K2 := K2'; clear K2'
      have K3 := K3'; clear K3'
      clear Q4_1
      go_wp2_with fail
      refine (Q4_2.out _).mono ?_
      rintro e w15 ⟨rfl, g⟩
      have K0' := hold (K0.out.below g)
      have K1' := hold (K1.out.below g)
      have K2' := hold (K2.out.below g)
      have K3' := hold (K3.out.below g)
      have hR' := hold (hR.out.below g)
      have hB' := hold (hB.out.trans (g.mono hB.out.size))
      clear hR hB g K0 K1 K2 K3
      have hR := hR'; clear hR'
      have hB := hB'; clear hB'
      have K0 := K0'; clear K0'
      have K1 := K1'; clear K1'
      have K2 := K2'; clear K2'
      have K3 := K3'; clear K3'
      clear Q4_2
      obtain ⟨k0l, k0c, k0d, k0f⟩ := K0.out
      obtain ⟨k1l, k1c, k1d, k1f⟩ := K1.out
      obtain ⟨k2l, k2c, k2d, k2f⟩ := K2.out
      obtain ⟨k3l, k3c, k3d, k3f⟩ := K3.out
      go_wp2_with fail
      refine (qs.out _).mono ?_
      rintro e w16 ⟨rfl, g⟩
      have hR' : Hid (Bl5 w16 (w.heap.size + 1) 0 0 0 0 0) := (hR.out.alloc _).below g
      have hB' : Hid (Below w.heap.size w w16) := (hB.out.alloc hB.out.size _).trans (g.mono (by simp; have := hB.out.size; omega))
      clear hR hB g qs K0 K1 K2 K3 k0l k0c k0d k0f k1l k1c k1d k1f k2l k2c k2d k2f k3l k3c k3d k3f
      have hR := hR'; clear hR'
      have hB := hB'; clear hB'
      go_wp2_with fail
      refine (qt.out _).mono ?_
      rintro e w18 ⟨rfl, hw⟩
      rw [hw]; clear hw w18 qt
      go_wp2_with fail
      go_roundw
      case rel => exact ⟨k + 1, by have := I.out; omega, by go_num, by rw [HXn.out], by rw [HXn.out], by rw [HXn.out], by rw [HXn.out], by rw [HXn.out], hR, hB⟩
      case measure => have := I.out; simp [intOf]; omega
    · obtain rfl : k = m := by omega
      obtain ⟨⟨x0, x1, x2, x3, x4⟩, hXk⟩ : ∃ y, X k = y := ⟨_, rfl⟩
      have HXk : Hid (X k = ⟨x0, x1, x2, x3, x4⟩) := hXk
      rw [hXk]
      dsimp only
      clear hXk HS
      have hm0 : ¬ ((k : Int) < r) := by omega
      obtain ⟨rl, r0, r1, r2, r3, r4, rf⟩ := hR.out
      go_wp2_with fail
      refine body_cut (fun W => Bl5 W (w.heap.size + 1) x0 x1 x2 x3 x4 ∧ Below w.heap.size w W) ⟨hR.out.set x0 x1 x2 x3 x4, ?_⟩ ?_
      · iterate 5 (refine Below.setCell ?_ (by simp <;> omega) _)
        exact hB.out
      · clear rl r0 r1 r2 r3 r4 rf hR hB
        rintro W ⟨⟨rl, r0, r1, r2, r3, r4, rf⟩, hb⟩
        refine bodyPost_ret (v := .agg #[.int .u64 x0, .int .u64 x1, .int .u64 x2, .int .u64 x3, .int .u64 x4]) (by simp [results, Tryd.results51, go_sem, r0, r1, r2, r3, r4]) rfl ⟨by rw [HXk.out], hb⟩

end Go.Proofs.YtkbiiolkekpkiaaDoor
