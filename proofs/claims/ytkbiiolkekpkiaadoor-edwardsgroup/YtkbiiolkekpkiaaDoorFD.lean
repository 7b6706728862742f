/-
  The walk of the field's Mul: for tame elements it returns a tame element whose number is the product modulo 2^255 - 19, and changes no memory that was there. Conditions: as the theorem says.
-/
import Derived.Test.YtkbiiolkekpkiaaDoorFB
namespace Go.Proofs.YtkbiiolkekpkiaaDoor
open Go.RowKit
set_option linter.unusedVariables false

set_option maxHeartbeats 16000000 in
set_option maxRecDepth 100000 in
theorem mul_step5 (a0 a1 a2 a3 a4 b0 b1 b2 b3 b4 : Int) (ta : Tame a0 a1 a2 a3 a4) (tb : Tame b0 b1 b2 b3 b4) : ∃ t0 t1 t2 t3 t4 : Int, Tame t0 t1 t2 t3 t4 ∧ Hid (val5 t0 t1 t2 t3 t4 % (P25 : Int) = val5 a0 a1 a2 a3 a4 * val5 b0 b1 b2 b3 b4 % (P25 : Int)) ∧
    ∀ w : World, Calls Tryd.prog 49 #[.agg #[.int .u64 a0, .int .u64 a1, .int .u64 a2, .int .u64 a3, .int .u64 a4], .agg #[.int .u64 b0, .int .u64 b1, .int .u64 b2, .int .u64 b3, .int .u64 b4]] w fun e w' => e = .returned (.agg #[.int .u64 t0, .int .u64 t1, .int .u64 t2, .int .u64 t3, .int .u64 t4]) ∧ Below w.heap.size w w' := by
  obtain ⟨H, L, Y, z0, y0, y1, q, s0, s1, s2, s3, s4, t0, t1, t2, t3, t4, tt, ev, QS, QT⟩ := mul_cols a0 a1 a2 a3 a4 b0 b1 b2 b3 b4 ta tb
  refine ⟨t0, t1, t2, t3, t4, tt, ev, fun w => ?_⟩
  clear tt ev ta tb
  obtain ⟨yy0, yy1, yy2, yy3, yy4⟩ := y0
  have Z0 : Hid _ := z0
  have Y1 : Hid (∀ k, k < 5 → IntKind.u64.wrap (19 * Y 4 k) = Y 0 (k + 1) ∧ Y 0 k = Y 1 (k + 1) ∧ Y 1 k = Y 2 (k + 1) ∧ Y 2 k = Y 3 (k + 1) ∧ Y 3 k = Y 4 (k + 1)) := y1
  have Q : Hid (∀ k, k < 5 → ∀ j, j < 5 → PlusTo (H j k) (L j k) (pick5 a0 a1 a2 a3 a4 0 k) (Y j k) (H j (k + 1)) (L j (k + 1))) := q
  have qs : Hid (∀ w : World, Calls Tryd.prog 78 #[.agg #[.int .u64 (H 0 5), .int .u64 (L 0 5)], .agg #[.int .u64 (H 1 5), .int .u64 (L 1 5)], .agg #[.int .u64 (H 2 5), .int .u64 (L 2 5)], .agg #[.int .u64 (H 3 5), .int .u64 (L 3 5)], .agg #[.int .u64 (H 4 5), .int .u64 (L 4 5)]] w fun e w' => e = .returned (.tuple #[.int .u64 s0, .int .u64 s1, .int .u64 s2, .int .u64 s3, .int .u64 s4]) ∧ Below w.heap.size w w') := QS
  have qt : Hid (∀ w : World, Calls Tryd.prog 77 #[.int .u64 s0, .int .u64 s1, .int .u64 s2, .int .u64 s3, .int .u64 s4] w fun e w' => e = .returned (.tuple #[.int .u64 t0, .int .u64 t1, .int .u64 t2, .int .u64 t3, .int .u64 t4]) ∧ w' = w) := QT
  clear z0 y1 q QS QT
  go_enter Tryd.func49, Tryd.ntmps49
  go_wp2_with fail
  go_quiet (fail)
  go_wp2_with fail
  go_loopw [10, 11, 12, 13, 14, 27] (fun v0 v1 v2 v3 v4 i wr => ∃ k : Nat, k ≤ 5 ∧ i = .int .i64 (k : Int) ∧ v0 = .int .u64 (Y 0 k) ∧ v1 = .int .u64 (Y 1 k) ∧ v2 = .int .u64 (Y 2 k) ∧ v3 = .int .u64 (Y 3 k) ∧ v4 = .int .u64 (Y 4 k) ∧ Hid (Bl5 wr w.heap.size a0 a1 a2 a3 a4) ∧ Hid (Bl5 wr (w.heap.size + 1 + 1) 0 0 0 0 0) ∧ Hid (Bl2 wr (w.heap.size + 1 + 1 + 1) (H 0 k) (L 0 k)) ∧ Hid (Bl2 wr (w.heap.size + 1 + 1 + 1 + 1) (H 1 k) (L 1 k)) ∧ Hid (Bl2 wr (w.heap.size + 1 + 1 + 1 + 1 + 1) (H 2 k) (L 2 k)) ∧ Hid (Bl2 wr (w.heap.size + 1 + 1 + 1 + 1 + 1 + 1) (H 3 k) (L 3 k)) ∧ Hid (Bl2 wr (w.heap.size + 1 + 1 + 1 + 1 + 1 + 1 + 1) (H 4 k) (L 4 k)) ∧ Hid (Below w.heap.size w wr)) (fun _ _ _ _ _ i _ => 5 - (intOf i).toNat)
  case atStart =>
    refine ⟨0, by omega, rfl, by rw [yy0], by rw [yy1], by rw [yy2], by rw [yy3], by rw [yy4], ?_, ?_, ?_, ?_, ?_, ?_, ?_, ?_⟩
    all_goals (unfold Hid)
    · repeat (first | refine Bl5.drewN ?_ _ | (refine Bl5.new _ _ _ _ _ _ _ _ ?_; simp; done) | refine Bl5.alloc ?_ _)
    · repeat (first | refine Bl5.drewN ?_ _ | (refine Bl5.new _ _ _ _ _ _ _ _ ?_; simp; done) | refine Bl5.alloc ?_ _)
    iterate 5 (· rw [(Z0.out _).1, (Z0.out _).2]; repeat (first | refine Bl2.drewN ?_ _ | (refine Bl2.new _ _ _ _ _ ?_; simp; done) | refine Bl2.alloc ?_ _))
    · repeat (first | exact Below.refl _ _ | refine below_drewN ?_ _ | refine Below.alloc ?_ (by simp <;> omega) _)
  case round =>
    obtain ⟨k, hk, rfl, rfl, rfl, rfl, rfl, rfl, hA, hR, K0, K1, K2, K3, K4, hB⟩ := hrel
    clear yy0 yy1 yy2 yy3 yy4 Z0
    obtain ⟨w0, hw0⟩ : ∃ w0, wr = w0 := ⟨_, rfl⟩
    subst hw0
    by_cases hlt : k < 5
    · have q0 : Hid (PlusTo (H 0 k) (L 0 k) (pick5 a0 a1 a2 a3 a4 0 k) (Y 0 k) (H 0 (k + 1)) (L 0 (k + 1))) := Q.out k hlt 0 (by omega)
      have q1 : Hid (PlusTo (H 1 k) (L 1 k) (pick5 a0 a1 a2 a3 a4 0 k) (Y 1 k) (H 1 (k + 1)) (L 1 (k + 1))) := Q.out k hlt 1 (by omega)
      have q2 : Hid (PlusTo (H 2 k) (L 2 k) (pick5 a0 a1 a2 a3 a4 0 k) (Y 2 k) (H 2 (k + 1)) (L 2 (k + 1))) := Q.out k hlt 2 (by omega)
      have q3 : Hid (PlusTo (H 3 k) (L 3 k) (pick5 a0 a1 a2 a3 a4 0 k) (Y 3 k) (H 3 (k + 1)) (L 3 (k + 1))) := Q.out k hlt 3 (by omega)
      have q4 : Hid (PlusTo (H 4 k) (L 4 k) (pick5 a0 a1 a2 a3 a4 0 k) (Y 4 k) (H 4 (k + 1)) (L 4 (k + 1))) := Q.out k hlt 4 (by omega)
      have hx := hA.out.at k hlt
      obtain ⟨x, hX⟩ : ∃ x, pick5 a0 a1 a2 a3 a4 0 k = x := ⟨_, rfl⟩
      rw [hX] at hx q0 q1 q2 q3 q4
      obtain ⟨h0, eh0⟩ : ∃ z, H 0 k = z := ⟨_, rfl⟩
      obtain ⟨h0n, eh0n⟩ : ∃ z, H 0 (k + 1) = z := ⟨_, rfl⟩
      obtain ⟨l0, el0⟩ : ∃ z, L 0 k = z := ⟨_, rfl⟩
      obtain ⟨l0n, el0n⟩ : ∃ z, L 0 (k + 1) = z := ⟨_, rfl⟩
      obtain ⟨y0, ey0⟩ : ∃ z, Y 0 k = z := ⟨_, rfl⟩
      rw [eh0, el0, ey0, eh0n, el0n] at q0
      rw [eh0, el0] at K0
      obtain ⟨h1, eh1⟩ : ∃ z, H 1 k = z := ⟨_, rfl⟩
      obtain ⟨h1n, eh1n⟩ : ∃ z, H 1 (k + 1) = z := ⟨_, rfl⟩
      obtain ⟨l1, el1⟩ : ∃ z, L 1 k = z := ⟨_, rfl⟩
      obtain ⟨l1n, el1n⟩ : ∃ z, L 1 (k + 1) = z := ⟨_, rfl⟩
      obtain ⟨y1, ey1⟩ : ∃ z, Y 1 k = z := ⟨_, rfl⟩
      rw [eh1, el1, ey1, eh1n, el1n] at q1
      rw [eh1, el1] at K1
      obtain ⟨h2, eh2⟩ : ∃ z, H 2 k = z := ⟨_, rfl⟩
      obtain ⟨h2n, eh2n⟩ : ∃ z, H 2 (k + 1) = z := ⟨_, rfl⟩
      obtain ⟨l2, el2⟩ : ∃ z, L 2 k = z := ⟨_, rfl⟩
      obtain ⟨l2n, el2n⟩ : ∃ z, L 2 (k + 1) = z := ⟨_, rfl⟩
      obtain ⟨y2, ey2⟩ : ∃ z, Y 2 k = z := ⟨_, rfl⟩
      rw [eh2, el2, ey2, eh2n, el2n] at q2
      rw [eh2, el2] at K2
      obtain ⟨h3, eh3⟩ : ∃ z, H 3 k = z := ⟨_, rfl⟩
      obtain ⟨h3n, eh3n⟩ : ∃ z, H 3 (k + 1) = z := ⟨_, rfl⟩
      obtain ⟨l3, el3⟩ : ∃ z, L 3 k = z := ⟨_, rfl⟩
      obtain ⟨l3n, el3n⟩ : ∃ z, L 3 (k + 1) = z := ⟨_, rfl⟩
      obtain ⟨y3, ey3⟩ : ∃ z, Y 3 k = z := ⟨_, rfl⟩
      rw [eh3, el3, ey3, eh3n, el3n] at q3
      rw [eh3, el3] at K3
      obtain ⟨h4, eh4⟩ : ∃ z, H 4 k = z := ⟨_, rfl⟩
      obtain ⟨h4n, eh4n⟩ : ∃ z, H 4 (k + 1) = z := ⟨_, rfl⟩
      obtain ⟨l4, el4⟩ : ∃ z, L 4 k = z := ⟨_, rfl⟩
      obtain ⟨l4n, el4n⟩ : ∃ z, L 4 (k + 1) = z := ⟨_, rfl⟩
      obtain ⟨y4, ey4⟩ : ∃ z, Y 4 k = z := ⟨_, rfl⟩
      rw [eh4, el4, ey4, eh4n, el4n] at q4
      rw [eh4, el4] at K4
      obtain ⟨f0, f1, f2, f3, f4⟩ := Y1.out k hlt
      rw [ey4] at f0; rw [ey0] at f1; rw [ey1] at f2; rw [ey2] at f3; rw [ey3] at f4
      obtain ⟨yn, eyn⟩ : ∃ z, Y 0 (k + 1) = z := ⟨_, rfl⟩
      rw [eyn] at f0
      have F : Hid (Y 0 (k + 1) = yn ∧ y0 = Y 1 (k + 1) ∧ y1 = Y 2 (k + 1) ∧ y2 = Y 3 (k + 1) ∧ y3 = Y 4 (k + 1)) := ⟨eyn, f1, f2, f3, f4⟩
      have E0 : Hid (H 0 (k + 1) = h0n ∧ L 0 (k + 1) = l0n) := ⟨eh0n, el0n⟩
      have E1 : Hid (H 1 (k + 1) = h1n ∧ L 1 (k + 1) = l1n) := ⟨eh1n, el1n⟩
      have E2 : Hid (H 2 (k + 1) = h2n ∧ L 2 (k + 1) = l2n) := ⟨eh2n, el2n⟩
      have E3 : Hid (H 3 (k + 1) = h3n ∧ L 3 (k + 1) = l3n) := ⟨eh3n, el3n⟩
      have E4 : Hid (H 4 (k + 1) = h4n ∧ L 4 (k + 1) = l4n) := ⟨eh4n, el4n⟩
      rw [ey0, ey1, ey2, ey3, ey4]
      have I : Hid (k < 5) := hlt
      have hk1 : (k : Int) < 5 := by omega
      clear Q Y1 hX eyn f1 f2 f3 f4 eh0 el0 eh0n el0n ey0 eh1 el1 eh1n el1n ey1 eh2 el2 eh2n el2n ey2 eh3 el3 eh3n el3n ey3 eh4 el4 eh4n el4n ey4
      obtain ⟨al, -, -, -, -, -, af⟩ := hA.out
      obtain ⟨m0l, m0c, m0d, m0f⟩ := K0.out
      go_wp2_with fail
      refine (q0.out _).mono ?_
      rintro e w1 ⟨rfl, g1⟩
      clear m0l m0c m0d m0f hx al af
      have hA' : Hid (Bl5 w1 w.heap.size a0 a1 a2 a3 a4) := hA.out.below g1
      have hR' : Hid (Bl5 w1 (w.heap.size + 1 + 1) 0 0 0 0 0) := hR.out.below g1
      have K0' : Hid (Bl2 w1 (w.heap.size + 1 + 1 + 1) h0 l0) := K0.out.below g1
      have K1' : Hid (Bl2 w1 (w.heap.size + 1 + 1 + 1 + 1) h1 l1) := K1.out.below g1
      have K2' : Hid (Bl2 w1 (w.heap.size + 1 + 1 + 1 + 1 + 1) h2 l2) := K2.out.below g1
      have K3' : Hid (Bl2 w1 (w.heap.size + 1 + 1 + 1 + 1 + 1 + 1) h3 l3) := K3.out.below g1
      have K4' : Hid (Bl2 w1 (w.heap.size + 1 + 1 + 1 + 1 + 1 + 1 + 1) h4 l4) := K4.out.below g1
      have hB' : Hid (Below w.heap.size w w1) := hB.out.trans (g1.mono hB.out.size)
      clear hA hR K0 K1 K2 K3 K4 hB g1
      have hA := hA'; clear hA'
      have hR := hR'; clear hR'
      have K0 := K0'; clear K0'
      have K1 := K1'; clear K1'
      have K2 := K2'; clear K2'
      have K3 := K3'; clear K3'
      have K4 := K4'; clear K4'
      have hB := hB'; clear hB'
      obtain ⟨m0l, m0c, m0d, m0f⟩ := K0.out
      obtain ⟨m1l, m1c, m1d, m1f⟩ := K1.out
      go_wp2_with fail
      refine (q1.out _).mono ?_
      rintro e w2 ⟨rfl, g2⟩
      clear m0l m0c m0d m0f m1l m1c m1d m1f
      have hA' : Hid (Bl5 w2 w.heap.size a0 a1 a2 a3 a4) := ((hA.out.other (w.heap.size + 1 + 1 + 1) 0 (.int .u64 h0n) (by omega)).other (w.heap.size + 1 + 1 + 1) 1 (.int .u64 l0n) (by omega)).below g2
      have hR' : Hid (Bl5 w2 (w.heap.size + 1 + 1) 0 0 0 0 0) := ((hR.out.other (w.heap.size + 1 + 1 + 1) 0 (.int .u64 h0n) (by omega)).other (w.heap.size + 1 + 1 + 1) 1 (.int .u64 l0n) (by omega)).below g2
      have K0' : Hid (Bl2 w2 (w.heap.size + 1 + 1 + 1) h0n l0n) := (K0.out.set h0n l0n).below g2
      have K1' : Hid (Bl2 w2 (w.heap.size + 1 + 1 + 1 + 1) h1 l1) := ((K1.out.other (w.heap.size + 1 + 1 + 1) 0 (.int .u64 h0n) (by omega)).other (w.heap.size + 1 + 1 + 1) 1 (.int .u64 l0n) (by omega)).below g2
      have K2' : Hid (Bl2 w2 (w.heap.size + 1 + 1 + 1 + 1 + 1) h2 l2) := ((K2.out.other (w.heap.size + 1 + 1 + 1) 0 (.int .u64 h0n) (by omega)).other (w.heap.size + 1 + 1 + 1) 1 (.int .u64 l0n) (by omega)).below g2
      have K3' : Hid (Bl2 w2 (w.heap.size + 1 + 1 + 1 + 1 + 1 + 1) h3 l3) := ((K3.out.other (w.heap.size + 1 + 1 + 1) 0 (.int .u64 h0n) (by omega)).other (w.heap.size + 1 + 1 + 1) 1 (.int .u64 l0n) (by omega)).below g2
      have K4' : Hid (Bl2 w2 (w.heap.size + 1 + 1 + 1 + 1 + 1 + 1 + 1) h4 l4) := ((K4.out.other (w.heap.size + 1 + 1 + 1) 0 (.int .u64 h0n) (by omega)).other (w.heap.size + 1 + 1 + 1) 1 (.int .u64 l0n) (by omega)).below g2
      have hB' : Hid (Below w.heap.size w w2) := ((hB.out.setCell (by simp <;> omega) _).setCell (by simp <;> omega) _).trans (g2.mono (by simp; exact hB.out.size))
      clear hA hR K0 K1 K2 K3 K4 hB g2
      have hA := hA'; clear hA'
      have hR := hR'; clear hR'
      have K0 := K0'; clear K0'
      have K1 := K1'; clear K1'
      have K2 := K2'; clear K2'
      have K3 := K3'; clear K3'
      have K4 := K4'; clear K4'
      have hB := hB'; clear hB'
      obtain ⟨m1l, m1c, m1d, m1f⟩ := K1.out
      obtain ⟨m2l, m2c, m2d, m2f⟩ := K2.out
      go_wp2_with fail
      refine (q2.out _).mono ?_
      rintro e w3 ⟨rfl, g3⟩
      clear m1l m1c m1d m1f m2l m2c m2d m2f
      have hA' : Hid (Bl5 w3 w.heap.size a0 a1 a2 a3 a4) := ((hA.out.other (w.heap.size + 1 + 1 + 1 + 1) 0 (.int .u64 h1n) (by omega)).other (w.heap.size + 1 + 1 + 1 + 1) 1 (.int .u64 l1n) (by omega)).below g3
      have hR' : Hid (Bl5 w3 (w.heap.size + 1 + 1) 0 0 0 0 0) := ((hR.out.other (w.heap.size + 1 + 1 + 1 + 1) 0 (.int .u64 h1n) (by omega)).other (w.heap.size + 1 + 1 + 1 + 1) 1 (.int .u64 l1n) (by omega)).below g3
      have K0' : Hid (Bl2 w3 (w.heap.size + 1 + 1 + 1) h0n l0n) := ((K0.out.other (w.heap.size + 1 + 1 + 1 + 1) 0 (.int .u64 h1n) (by omega)).other (w.heap.size + 1 + 1 + 1 + 1) 1 (.int .u64 l1n) (by omega)).below g3
      have K1' : Hid (Bl2 w3 (w.heap.size + 1 + 1 + 1 + 1) h1n l1n) := (K1.out.set h1n l1n).below g3
      have K2' : Hid (Bl2 w3 (w.heap.size + 1 + 1 + 1 + 1 + 1) h2 l2) := ((K2.out.other (w.heap.size + 1 + 1 + 1 + 1) 0 (.int .u64 h1n) (by omega)).other (w.heap.size + 1 + 1 + 1 + 1) 1 (.int .u64 l1n) (by omega)).below g3
      have K3' : Hid (Bl2 w3 (w.heap.size + 1 + 1 + 1 + 1 + 1 + 1) h3 l3) := ((K3.out.other (w.heap.size + 1 + 1 + 1 + 1) 0 (.int .u64 h1n) (by omega)).other (w.heap.size + 1 + 1 + 1 + 1) 1 (.int .u64 l1n) (by omega)).below g3
      have K4' : Hid (Bl2 w3 (w.heap.size + 1 + 1 + 1 + 1 + 1 + 1 + 1) h4 l4) := ((K4.out.other (w.heap.size + 1 + 1 + 1 + 1) 0 (.int .u64 h1n) (by omega)).other (w.heap.size + 1 + 1 + 1 + 1) 1 (.int .u64 l1n) (by omega)).below g3
      have hB' : Hid (Below w.heap.size w w3) := ((hB.out.setCell (by simp <;> omega) _).setCell (by simp <;> omega) _).trans (g3.mono (by simp; exact hB.out.size))
      clear hA hR K0 K1 K2 K3 K4 hB g3
      have hA := hA'; clear hA'
      have hR := hR'; clear hR'
      have K0 := K0'; clear K0'
      have K1 := K1'; clear K1'
      have K2 := K2'; clear K2'
      have K3 := K3'; clear K3'
      have K4 := K4'; clear K4'
      have hB := hB'; clear hB'
      obtain ⟨m2l, m2c, m2d, m2f⟩ := K2.out
      obtain ⟨m3l, m3c, m3d, m3f⟩ := K3.out
      go_wp2_with fail
      refine (q3.out _).mono ?_
      rintro e w4 ⟨rfl, g4⟩
      clear m2l m2c m2d m2f m3l m3c m3d m3f
      have hA' : Hid (Bl5 w4 w.heap.size a0 a1 a2 a3 a4) := ((hA.out.other (w.heap.size + 1 + 1 + 1 + 1 + 1) 0 (.int .u64 h2n) (by omega)).other (w.heap.size + 1 + 1 + 1 + 1 + 1) 1 (.int .u64 l2n) (by omega)).below g4
      have hR' : Hid (Bl5 w4 (w.heap.size + 1 + 1) 0 0 0 0 0) := ((hR.out.other (w.heap.size + 1 + 1 + 1 + 1 + 1) 0 (.int .u64 h2n) (by omega)).other (w.heap.size + 1 + 1 + 1 + 1 + 1) 1 (.int .u64 l2n) (by omega)).below g4
      have K0' : Hid (Bl2 w4 (w.heap.size + 1 + 1 + 1) h0n l0n) := ((K0.out.other (w.heap.size + 1 + 1 + 1 + 1 + 1) 0 (.int .u64 h2n) (by omega)).other (w.heap.size + 1 + 1 + 1 + 1 + 1) 1 (.int .u64 l2n) (by omega)).below g4
      have K1' : Hid (Bl2 w4 (w.heap.size + 1 + 1 + 1 + 1) h1n l1n) := ((K1.out.other (w.heap.size + 1 + 1 + 1 + 1 + 1) 0 (.int .u64 h2n) (by omega)).other (w.heap.size + 1 + 1 + 1 + 1 + 1) 1 (.int .u64 l2n) (by omega)).below g4
      have K2' : Hid (Bl2 w4 (w.heap.size + 1 + 1 + 1 + 1 + 1) h2n l2n) := (K2.out.set h2n l2n).below g4
      have K3' : Hid (Bl2 w4 (w.heap.size + 1 + 1 + 1 + 1 + 1 + 1) h3 l3) := ((K3.out.other (w.heap.size + 1 + 1 + 1 + 1 + 1) 0 (.int .u64 h2n) (by omega)).other (w.heap.size + 1 + 1 + 1 + 1 + 1) 1 (.int .u64 l2n) (by omega)).below g4
      have K4' : Hid (Bl2 w4 (w.heap.size + 1 + 1 + 1 + 1 + 1 + 1 + 1) h4 l4) := ((K4.out.other (w.heap.size + 1 + 1 + 1 + 1 + 1) 0 (.int .u64 h2n) (by omega)).other (w.heap.size + 1 + 1 + 1 + 1 + 1) 1 (.int .u64 l2n) (by omega)).below g4
      have hB' : Hid (Below w.heap.size w w4) := ((hB.out.setCell (by simp <;> omega) _).setCell (by simp <;> omega) _).trans (g4.mono (by simp; exact hB.out.size))
      clear hA hR K0 K1 K2 K3 K4 hB g4
      have hA := hA'; clear hA'
      have hR := hR'; clear hR'
      have K0 := K0'; clear K0'
      have K1 := K1'; clear K1'
      have K2 := K2'; clear K2'
      have K3 := K3'; clear K3'
      have K4 := K4'; clear K4'
      have hB := hB'; clear hB'
      obtain ⟨m3l, m3c, m3d, m3f⟩ := K3.out
      obtain ⟨m4l, m4c, m4d, m4f⟩ := K4.out
      go_wp2_with fail
      refine (q4.out _).mono ?_
      rintro e w5 ⟨rfl, g5⟩
      clear m3l m3c m3d m3f m4l m4c m4d m4f
      have hA' : Hid (Bl5 w5 w.heap.size a0 a1 a2 a3 a4) := ((hA.out.other (w.heap.size + 1 + 1 + 1 + 1 + 1 + 1) 0 (.int .u64 h3n) (by omega)).other (w.heap.size + 1 + 1 + 1 + 1 + 1 + 1) 1 (.int .u64 l3n) (by omega)).below g5
      have hR' : Hid (Bl5 w5 (w.heap.size + 1 + 1) 0 0 0 0 0) := ((hR.out.other (w.heap.size + 1 + 1 + 1 + 1 + 1 + 1) 0 (.int .u64 h3n) (by omega)).other (w.heap.size + 1 + 1 + 1 + 1 + 1 + 1) 1 (.int .u64 l3n) (by omega)).below g5
      have K0' : Hid (Bl2 w5 (w.heap.size + 1 + 1 + 1) h0n l0n) := ((K0.out.other (w.heap.size + 1 + 1 + 1 + 1 + 1 + 1) 0 (.int .u64 h3n) (by omega)).other (w.heap.size + 1 + 1 + 1 + 1 + 1 + 1) 1 (.int .u64 l3n) (by omega)).below g5
      have K1' : Hid (Bl2 w5 (w.heap.size + 1 + 1 + 1 + 1) h1n l1n) := ((K1.out.other (w.heap.size + 1 + 1 + 1 + 1 + 1 + 1) 0 (.int .u64 h3n) (by omega)).other (w.heap.size + 1 + 1 + 1 + 1 + 1 + 1) 1 (.int .u64 l3n) (by omega)).below g5
      have K2' : Hid (Bl2 w5 (w.heap.size + 1 + 1 + 1 + 1 + 1) h2n l2n) := ((K2.out.other (w.heap.size + 1 + 1 + 1 + 1 + 1 + 1) 0 (.int .u64 h3n) (by omega)).other (w.heap.size + 1 + 1 + 1 + 1 + 1 + 1) 1 (.int .u64 l3n) (by omega)).below g5
      have K3' : Hid (Bl2 w5 (w.heap.size + 1 + 1 + 1 + 1 + 1 + 1) h3n l3n) := (K3.out.set h3n l3n).below g5
      have K4' : Hid (Bl2 w5 (w.heap.size + 1 + 1 + 1 + 1 + 1 + 1 + 1) h4 l4) := ((K4.out.other (w.heap.size + 1 + 1 + 1 + 1 + 1 + 1) 0 (.int .u64 h3n) (by omega)).other (w.heap.size + 1 + 1 + 1 + 1 + 1 + 1) 1 (.int .u64 l3n) (by omega)).below g5
      have hB' : Hid (Below w.heap.size w w5) := ((hB.out.setCell (by simp <;> omega) _).setCell (by simp <;> omega) _).trans (g5.mono (by simp; exact hB.out.size))
      clear hA hR K0 K1 K2 K3 K4 hB g5
      have hA := hA'; clear hA'
      have hR := hR'; clear hR'
      have K0 := K0'; clear K0'
      have K1 := K1'; clear K1'
      have K2 := K2'; clear K2'
      have K3 := K3'; clear K3'
      have K4 := K4'; clear K4'
      have hB := hB'; clear hB'
      obtain ⟨m4l, m4c, m4d, m4f⟩ := K4.out
      go_wp2_with fail
      go_roundw
      case rel =>
        obtain ⟨F0, F1, F2, F3, F4⟩ := F.out
        refine ⟨k + 1, by omega, by go_num, by rw [F0], by rw [F1], by rw [F2], by rw [F3], by rw [F4], ?_, ?_, ?_, ?_, ?_, ?_, ?_, ?_⟩
        all_goals unfold Hid
        · exact ((hA.out.other (w.heap.size + 1 + 1 + 1 + 1 + 1 + 1 + 1) 0 (.int .u64 h4n) (by omega)).other (w.heap.size + 1 + 1 + 1 + 1 + 1 + 1 + 1) 1 (.int .u64 l4n) (by omega))
        · exact ((hR.out.other (w.heap.size + 1 + 1 + 1 + 1 + 1 + 1 + 1) 0 (.int .u64 h4n) (by omega)).other (w.heap.size + 1 + 1 + 1 + 1 + 1 + 1 + 1) 1 (.int .u64 l4n) (by omega))
        · rw [E0.out.1, E0.out.2]; exact ((K0.out.other (w.heap.size + 1 + 1 + 1 + 1 + 1 + 1 + 1) 0 (.int .u64 h4n) (by omega)).other (w.heap.size + 1 + 1 + 1 + 1 + 1 + 1 + 1) 1 (.int .u64 l4n) (by omega))
        · rw [E1.out.1, E1.out.2]; exact ((K1.out.other (w.heap.size + 1 + 1 + 1 + 1 + 1 + 1 + 1) 0 (.int .u64 h4n) (by omega)).other (w.heap.size + 1 + 1 + 1 + 1 + 1 + 1 + 1) 1 (.int .u64 l4n) (by omega))
        · rw [E2.out.1, E2.out.2]; exact ((K2.out.other (w.heap.size + 1 + 1 + 1 + 1 + 1 + 1 + 1) 0 (.int .u64 h4n) (by omega)).other (w.heap.size + 1 + 1 + 1 + 1 + 1 + 1 + 1) 1 (.int .u64 l4n) (by omega))
        · rw [E3.out.1, E3.out.2]; exact ((K3.out.other (w.heap.size + 1 + 1 + 1 + 1 + 1 + 1 + 1) 0 (.int .u64 h4n) (by omega)).other (w.heap.size + 1 + 1 + 1 + 1 + 1 + 1 + 1) 1 (.int .u64 l4n) (by omega))
        · rw [E4.out.1, E4.out.2]; exact K4.out.set h4n l4n
        · exact (hB.out.setCell (by simp <;> omega) _).setCell (by simp <;> omega) _
      case measure => have := I.out; simp [intOf]; omega
    · obtain rfl : k = 5 := by omega
      obtain ⟨m0l, m0c, m0d, m0f⟩ := K0.out
      obtain ⟨m1l, m1c, m1d, m1f⟩ := K1.out
      obtain ⟨m2l, m2c, m2d, m2f⟩ := K2.out
      obtain ⟨m3l, m3c, m3d, m3f⟩ := K3.out
      obtain ⟨m4l, m4c, m4d, m4f⟩ := K4.out
      clear Y1 Q
      go_wp2_with fail
      refine (qs.out _).mono ?_
      rintro e w1 ⟨rfl, g1⟩
      have R1 : Hid (Bl5 w1 (w.heap.size + 1 + 1) 0 0 0 0 0) := hR.out.below g1
      have B1 : Hid (Below w.heap.size w w1) := hB.out.trans (g1.mono hB.out.size)
      clear m0l m0c m0d m0f m1l m1c m1d m1f m2l m2c m2d m2f m3l m3c m3d m3f m4l m4c m4d m4f hA hR K0 K1 K2 K3 K4 hB g1 qs
      go_wp2_with fail
      refine (qt.out _).mono ?_
      rintro e w2 ⟨rfl, hw2⟩
      rw [hw2]; clear hw2 w2 qt
      obtain ⟨rl, r0, r1, r2, r3, r4, rf⟩ := R1.out
      go_wp2_with fail
      refine body_cut (fun W => Bl5 W (w.heap.size + 1 + 1) t0 t1 t2 t3 t4 ∧ Below w.heap.size w W) ⟨(R1.out.set t0 t1 t2 t3 t4).set t0 t1 t2 t3 t4, ?_⟩ ?_
      · iterate 10 (refine Below.setCell ?_ (by simp <;> omega) _)
        exact B1.out
      · clear rl r0 r1 r2 r3 r4 rf R1 B1
        rintro W ⟨⟨rl, r0, r1, r2, r3, r4, rf⟩, hb⟩
        refine bodyPost_ret (v := .agg #[.int .u64 t0, .int .u64 t1, .int .u64 t2, .int .u64 t3, .int .u64 t4]) (by simp [results, Tryd.results49, go_sem, r0, r1, r2, r3, r4]) rfl ⟨rfl, hb⟩

theorem mul_fe (x y : L5) (hx : x.Tm) (hy : y.Tm) : ∃ z : L5, z.Tm ∧ Hid (z.num % (P25 : Int) = x.num * y.num % (P25 : Int)) ∧ ∀ w : World, Calls Tryd.prog 49 #[.agg #[.int .u64 x.l0, .int .u64 x.l1, .int .u64 x.l2, .int .u64 x.l3, .int .u64 x.l4], .agg #[.int .u64 y.l0, .int .u64 y.l1, .int .u64 y.l2, .int .u64 y.l3, .int .u64 y.l4]] w fun e w' => e = .returned (.agg #[.int .u64 z.l0, .int .u64 z.l1, .int .u64 z.l2, .int .u64 z.l3, .int .u64 z.l4]) ∧ Below w.heap.size w w' := by
  obtain ⟨t0, t1, t2, t3, t4, h1, h2, h3⟩ := mul_step5 x.l0 x.l1 x.l2 x.l3 x.l4 y.l0 y.l1 y.l2 y.l3 y.l4 hx hy
  exact ⟨⟨t0, t1, t2, t3, t4⟩, h1, h2, h3⟩

end Go.Proofs.YtkbiiolkekpkiaaDoor
