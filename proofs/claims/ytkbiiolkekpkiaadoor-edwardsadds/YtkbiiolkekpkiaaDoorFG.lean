/-
  The contracts of the field's reduced, Same and Negative: for tame elements they return the limbs of the number, whether two are one, and whether it is odd, and change no memory that was there. Conditions: as each theorem says.
-/
import Derived.Test.YtkbiiolkekpkiaaDoorFF
namespace Go.Proofs.YtkbiiolkekpkiaaDoor
open Go.RowKit
set_option linter.unusedVariables false
set_option linter.unusedSimpArgs false

/-- Limbs of 51 bits. -/
def L5.Low (z : L5) : Prop := (0 ≤ z.l0 ∧ z.l0 < 2251799813685248) ∧ (0 ≤ z.l1 ∧ z.l1 < 2251799813685248) ∧ (0 ≤ z.l2 ∧ z.l2 < 2251799813685248) ∧ (0 ≤ z.l3 ∧ z.l3 < 2251799813685248) ∧ (0 ≤ z.l4 ∧ z.l4 < 2251799813685248)
theorem L5.Low.tm {z : L5} (h : z.Low) : z.Tm := by unfold L5.Low at h; unfold L5.Tm Tame; omega
theorem L5.Low.eq {y z : L5} (hy : y.Low) (hz : z.Low) (h : y.num = z.num) : y = z := by
  obtain ⟨y0, y1, y2, y3, y4⟩ := y
  obtain ⟨z0, z1, z2, z3, z4⟩ := z
  unfold L5.Low at hy hz
  unfold L5.num val5 at h
  dsimp only at hy hz h
  have e0 : y0 = z0 := by omega
  have e1 : y1 = z1 := by omega
  have e2 : y2 = z2 := by omega
  have e3 : y3 = z3 := by omega
  have e4 : y4 = z4 := by omega
  rw [e0, e1, e2, e3, e4]
theorem red_pos (t0 t1 t2 t3 t4 : Int) (h0 : 0 ≤ t0 ∧ t0 < 2251799813685268) (h1 : 0 ≤ t1 ∧ t1 ≤ 2251799813685248) (h2 : 0 ≤ t2 ∧ t2 ≤ 2251799813685248) (h3 : 0 ≤ t3 ∧ t3 ≤ 2251799813685248) (h4 : 0 ≤ t4 ∧ t4 ≤ 2251799813685248) : 0 ≤ val5 t0 t1 t2 t3 t4 ∧ val5 t0 t1 t2 t3 t4 < 57896044618658097711785492504343953926634992332820282019728792003956564819949 + 57896044618658097711785492504343953926634992332820282019728792003956564819949 := by
  unfold val5; omega
theorem red_end (V M r o : Int) (h0 : 0 ≤ V) (h1 : V < 57896044618658097711785492504343953926634992332820282019728792003956564819949 + 57896044618658097711785492504343953926634992332820282019728792003956564819949) (m0 : 0 ≤ M) (m1 : M < 57896044618658097711785492504343953926634992332820282019728792003956564819968)
    (R : Int) (r0 : 0 ≤ R) (r1 : R < 57896044618658097711785492504343953926634992332820282019728792003956564819968) (e1 : V + 19 = R + 57896044618658097711785492504343953926634992332820282019728792003956564819968 * r) (e2 : V + 19 * r = M + 57896044618658097711785492504343953926634992332820282019728792003956564819968 * o) : M = V % (P25 : Int) := by
  unfold P25
  have hr : r = 0 ∨ r = 1 := by omega
  rcases hr with rfl | rfl
  · have : o = 0 := by omega
    subst this
    omega
  · have : o = 1 := by omega
    subst this
    omega
set_option maxHeartbeats 4000000 in
theorem reduced_fe (x : L5) (hx : x.Tm) : ∃ z : L5, z.Low ∧ Hid (z.num = x.num % (P25 : Int)) ∧ ∀ w : World, Calls Tryd.prog 66 #[.agg #[.int .u64 x.l0, .int .u64 x.l1, .int .u64 x.l2, .int .u64 x.l3, .int .u64 x.l4]] w fun e w' => e = .returned (.agg #[.int .u64 z.l0, .int .u64 z.l1, .int .u64 z.l2, .int .u64 z.l3, .int .u64 z.l4]) ∧ Below w.heap.size w w' := by
  obtain ⟨x0, x1, x2, x3, x4⟩ := x
  unfold L5.Tm Tame at hx
  dsimp only at hx ⊢
  obtain ⟨t0, t1, t2, t3, t4, E, Q⟩ := settled_step x0 x1 x2 x3 x4 (by unfold Wd; omega) (by unfold Wd; omega) (by unfold Wd; omega) (by unfold Wd; omega) (by unfold Wd; omega)
  have T : Hid ((0 ≤ t0 ∧ t0 < 2251799813685268) ∧ (0 ≤ t1 ∧ t1 ≤ 2251799813685248) ∧ (0 ≤ t2 ∧ t2 ≤ 2251799813685248) ∧ (0 ≤ t3 ∧ t3 ≤ 2251799813685248) ∧ (0 ≤ t4 ∧ t4 ≤ 2251799813685248)) := by
    have := E.out.2
    unfold Hid
    clear E Q
    omega
  have TT := T.out
  have wu0 : Wd (t0 + 19) := by unfold Wd; omega
  obtain ⟨p0, r1, -, f0, F0⟩ := cut51 (t0 + 19) wu0
  have wu1 : Wd (t1 + r1) := by unfold Wd; have := F0.out; clear F0; omega
  obtain ⟨p1, r2, -, f1, F1⟩ := cut51 (t1 + r1) wu1
  have wu2 : Wd (t2 + r2) := by unfold Wd; have := F1.out; clear F1; omega
  obtain ⟨p2, r3, -, f2, F2⟩ := cut51 (t2 + r2) wu2
  have wu3 : Wd (t3 + r3) := by unfold Wd; have := F2.out; clear F2; omega
  obtain ⟨p3, r4, -, f3, F3⟩ := cut51 (t3 + r3) wu3
  have wu4 : Wd (t4 + r4) := by unfold Wd; have := F3.out; clear F3; omega
  obtain ⟨p4, r5, -, f4, F4⟩ := cut51 (t4 + r4) wu4
  have hr5 : Hid (0 ≤ r5 ∧ r5 < 8192) := by have := F4.out; unfold Hid; omega
  have wv0 : Wd (t0 + 19 * r5) := by unfold Wd; have := hr5.out; omega
  obtain ⟨m0, o1, a0, b0, G0⟩ := cut51 (t0 + 19 * r5) wv0
  have wv1 : Wd (t1 + o1) := by unfold Wd; have := G0.out; clear G0; omega
  obtain ⟨m1, o2, a1, b1, G1⟩ := cut51 (t1 + o1) wv1
  have wv2 : Wd (t2 + o2) := by unfold Wd; have := G1.out; clear G1; omega
  obtain ⟨m2, o3, a2, b2, G2⟩ := cut51 (t2 + o2) wv2
  have wv3 : Wd (t3 + o3) := by unfold Wd; have := G2.out; clear G2; omega
  obtain ⟨m3, o4, a3, b3, G3⟩ := cut51 (t3 + o3) wv3
  have wv4 : Wd (t4 + o4) := by unfold Wd; have := G3.out; clear G3; omega
  obtain ⟨m4, o5, a4, b4, G4⟩ := cut51 (t4 + o4) wv4
  refine ⟨⟨m0, m1, m2, m3, m4⟩, ?_, ?_, fun w => ?_⟩
  · unfold L5.Low
    dsimp only
    have g0 := G0.out; have g1 := G1.out; have g2 := G2.out; have g3 := G3.out; have g4 := G4.out
    clear F0 F1 F2 F3 F4 G0 G1 G2 G3 G4 a0 a1 a2 a3 a4 wu0 wu1 wu2 wu3 wu4 wv0 wv1 wv2 wv3 wv4 Q E
    exact ⟨g0.2.imp id And.left |> fun h => ⟨h.1, h.2⟩, ⟨g1.2.1, g1.2.2.1⟩, ⟨g2.2.1, g2.2.2.1⟩, ⟨g3.2.1, g3.2.2.1⟩, ⟨g4.2.1, g4.2.2.1⟩⟩
  · unfold Hid L5.num
    dsimp only
    rw [← settle_val _ _ _ _ _ _ _ _ _ _ E.out.2]
    obtain ⟨c0, c1, c2, c3, c4⟩ := TT
    have hV := red_pos t0 t1 t2 t3 t4 c0 c1 c2 c3 c4
    obtain ⟨e0, u0, v0, -, -⟩ := F0.out
    obtain ⟨e1, u1, v1, -, -⟩ := F1.out
    obtain ⟨e2, u2, v2, -, -⟩ := F2.out
    obtain ⟨e3, u3, v3, -, -⟩ := F3.out
    obtain ⟨e4, u4, v4, -, -⟩ := F4.out
    obtain ⟨d0, i0, j0, -, -⟩ := G0.out
    obtain ⟨d1, i1, j1, -, -⟩ := G1.out
    obtain ⟨d2, i2, j2, -, -⟩ := G2.out
    obtain ⟨d3, i3, j3, -, -⟩ := G3.out
    obtain ⟨d4, i4, j4, -, -⟩ := G4.out
    clear F0 F1 F2 F3 F4 G0 G1 G2 G3 G4 a0 a1 a2 a3 a4 b0 b1 b2 b3 b4 f0 f1 f2 f3 f4 wu0 wu1 wu2 wu3 wu4 wv0 wv1 wv2 wv3 wv4 Q E T hx c0 c1 c2 c3 c4
    refine red_end (val5 t0 t1 t2 t3 t4) (val5 m0 m1 m2 m3 m4) r5 o5 hV.1 hV.2 ?_ ?_ (val5 p0 p1 p2 p3 p4) ?_ ?_ ?_ ?_
    · clear hV e0 e1 e2 e3 e4 d0 d1 d2 d3 d4; unfold val5; omega
    · clear hV e0 e1 e2 e3 e4 d0 d1 d2 d3 d4; unfold val5; omega
    · clear hV e0 e1 e2 e3 e4 d0 d1 d2 d3 d4; unfold val5; omega
    · clear hV e0 e1 e2 e3 e4 d0 d1 d2 d3 d4; unfold val5; omega
    · clear hV d0 d1 d2 d3 d4 u0 u1 u2 u3 u4 v0 v1 v2 v3 v4 i0 i1 i2 i3 i4 j0 j1 j2 j3 j4; unfold val5; omega
    · clear hV e0 e1 e2 e3 e4 u0 u1 u2 u3 u4 v0 v1 v2 v3 v4 i0 i1 i2 i3 i4 j0 j1 j2 j3 j4; unfold val5; omega
  · have k0 : IntKind.u64.wrap (t0 + 19) = t0 + 19 := wrapW _ wu0.1 wu0.2
    have h0 : IntKind.u64.wrap (t0 + 19 * r5) = t0 + 19 * r5 := wrapW _ wv0.1 wv0.2
    have k1 : IntKind.u64.wrap (t1 + r1) = t1 + r1 := wrapW _ wu1.1 wu1.2
    have h1 : IntKind.u64.wrap (t1 + o1) = t1 + o1 := wrapW _ wv1.1 wv1.2
    have k2 : IntKind.u64.wrap (t2 + r2) = t2 + r2 := wrapW _ wu2.1 wu2.2
    have h2 : IntKind.u64.wrap (t2 + o2) = t2 + o2 := wrapW _ wv2.1 wv2.2
    have k3 : IntKind.u64.wrap (t3 + r3) = t3 + r3 := wrapW _ wu3.1 wu3.2
    have h3 : IntKind.u64.wrap (t3 + o3) = t3 + o3 := wrapW _ wv3.1 wv3.2
    have k4 : IntKind.u64.wrap (t4 + r4) = t4 + r4 := wrapW _ wu4.1 wu4.2
    have h4 : IntKind.u64.wrap (t4 + o4) = t4 + o4 := wrapW _ wv4.1 wv4.2
    have kr : IntKind.u64.wrap (19 * r5) = 19 * r5 := wrapW _ (by have := hr5.out; omega) (by have := hr5.out; omega)
    have q : Hid (∀ w : World, Calls Tryd.prog 80 #[.agg #[.int .u64 x0, .int .u64 x1, .int .u64 x2, .int .u64 x3, .int .u64 x4]] w fun e w' => e = .returned (.agg #[.int .u64 t0, .int .u64 t1, .int .u64 t2, .int .u64 t3, .int .u64 t4]) ∧ Below w.heap.size w w') := Q
    clear F0 F1 F2 F3 F4 G0 G1 G2 G3 G4 wu0 wu1 wu2 wu3 wu4 wv0 wv1 wv2 wv3 wv4 Q E T TT hx hr5
    go_enter Tryd.func66, Tryd.ntmps66
    go_wp2_with fail
    refine calls_at (fun W => Bl5 W w.heap.size x0 x1 x2 x3 x4 ∧ Bl5 W (w.heap.size + 1) 0 0 0 0 0 ∧ Below w.heap.size w W) ⟨?_, ?_, ?_⟩ ?_
    · (repeat (first | refine Bl5.drew ?_ | refine Bl5.drewN ?_ _ | (refine Bl5.new _ _ _ _ _ _ _ _ ?_; simp; done) | refine Bl5.alloc ?_ _))
    · (repeat (first | refine Bl5.drew ?_ | refine Bl5.drewN ?_ _ | (refine Bl5.new _ _ _ _ _ _ _ _ ?_; simp; done) | refine Bl5.alloc ?_ _))
    · (repeat (first | exact Below.refl _ _ | refine Below.drew ?_ | refine below_drewN ?_ _ | refine Below.alloc ?_ (by simp <;> omega) _ | refine Below.setCell ?_ (by simp <;> omega) _))
    rintro W ⟨hA, hR, hB⟩
    refine (q.out _).mono ?_
    rintro e w1 ⟨rfl, g⟩
    have A1 : Hid (Bl5 w1 w.heap.size x0 x1 x2 x3 x4) := hA.below g
    have R1 : Hid (Bl5 w1 (w.heap.size + 1) 0 0 0 0 0) := hR.below g
    have B1 : Hid (Below w.heap.size w w1) := hB.trans (g.mono hB.size)
    clear hA hR hB g q W
    obtain ⟨al, c0, c1, c2, c3, c4, cf⟩ := A1.out
    go_wp2_with fail
    refine wp_cut (fun W => Bl5 W w.heap.size t0 t1 t2 t3 t4 ∧ Bl5 W (w.heap.size + 1) 0 0 0 0 0 ∧ Below w.heap.size w W) ⟨A1.out.set t0 t1 t2 t3 t4, (((((R1.out.other w.heap.size 0 (.int .u64 t0) (by omega)).other w.heap.size 1 (.int .u64 t1) (by omega)).other w.heap.size 2 (.int .u64 t2) (by omega)).other w.heap.size 3 (.int .u64 t3) (by omega)).other w.heap.size 4 (.int .u64 t4) (by omega)), ?_⟩ ?_
    · iterate 5 (refine Below.setCell ?_ (by simp <;> omega) _)
      exact B1.out
    clear al c0 c1 c2 c3 c4 cf A1 R1 B1 w1
    rintro W ⟨hA, hR, hB⟩
    have A1 : Hid (Bl5 W w.heap.size t0 t1 t2 t3 t4) := hA
    have R1 : Hid (Bl5 W (w.heap.size + 1) 0 0 0 0 0) := hR
    have B1 : Hid (Below w.heap.size w W) := hB
    obtain ⟨al, c0, c1, c2, c3, c4, cf⟩ := hA
    clear hR hB
    refine wp_unr 6 ?_
    refine unr_succ ?_
    go_wp2_with fail
    refine unr_succ ?_
    go_wp2_with fail
    refine unr_succ ?_
    go_wp2_with fail
    refine unr_succ ?_
    go_wp2_with fail
    refine unr_succ ?_
    go_wp2_with fail
    refine unr_succ ?_
    go_wp2_with fail
    refine wp_unr 6 ?_
    refine unr_succ ?_
    go_wp2_with fail
    refine unr_succ ?_
    go_wp2_with fail
    refine unr_succ ?_
    go_wp2_with fail
    refine unr_succ ?_
    go_wp2_with fail
    refine unr_succ ?_
    go_wp2_with fail
    obtain ⟨rl, y0, y1, y2, y3, y4, yf⟩ := R1.out
    refine unr_succ ?_
    go_wp2_with fail
    refine body_cut (fun V => Bl5 V (w.heap.size + 1) m0 m1 m2 m3 m4 ∧ Below w.heap.size w V) ⟨(((((R1.out.other w.heap.size 0 (.int .u64 m0) (by omega)).other w.heap.size 1 (.int .u64 m1) (by omega)).other w.heap.size 2 (.int .u64 m2) (by omega)).other w.heap.size 3 (.int .u64 m3) (by omega)).other w.heap.size 4 (.int .u64 m4) (by omega)).set m0 m1 m2 m3 m4, ?_⟩ ?_
    · iterate 10 (refine Below.setCell ?_ (by simp <;> omega) _)
      exact B1.out
    · clear rl y0 y1 y2 y3 y4 yf R1 B1
      rintro W ⟨⟨rl, r0, r1, r2, r3, r4, rf⟩, hb⟩
      exact bodyPost_ret (v := .agg #[.int .u64 m0, .int .u64 m1, .int .u64 m2, .int .u64 m3, .int .u64 m4]) (by simp [results, Tryd.results66, go_sem, r0, r1, r2, r3, r4]) rfl ⟨rfl, hb⟩

theorem eqlIn_same5 (a0 a1 a2 a3 a4 : Int) (w : World) :
    (Op.equalIn 10000 26 (.agg #[.int .u64 a0, .int .u64 a1, .int .u64 a2, .int .u64 a3, .int .u64 a4]) (.agg #[.int .u64 a0, .int .u64 a1, .int .u64 a2, .int .u64 a3, .int .u64 a4])).run Tryd.prog w = .ok true w := by
  rw [show (10000 : Nat) = 9998 + 1 + 1 from rfl]
  unfold Op.equalIn
  have r : List.range' 0 5 = [0, 1, 2, 3, 4] := rfl
  simp only [Sem.run_bind, run_underlying Tryd.underlying26, Result.andThen_ok]
  simp [go_sem, r]
set_option maxHeartbeats 8000000 in
theorem eqlIn_other5 (a0 a1 a2 a3 a4 b0 b1 b2 b3 b4 : Int) (h : ¬ (a0 = b0 ∧ a1 = b1 ∧ a2 = b2 ∧ a3 = b3 ∧ a4 = b4)) (w : World) :
    (Op.equalIn 10000 26 (.agg #[.int .u64 a0, .int .u64 a1, .int .u64 a2, .int .u64 a3, .int .u64 a4]) (.agg #[.int .u64 b0, .int .u64 b1, .int .u64 b2, .int .u64 b3, .int .u64 b4])).run Tryd.prog w = .ok false w := by
  rw [show (10000 : Nat) = 9998 + 1 + 1 from rfl]
  unfold Op.equalIn
  have r : List.range' 0 5 = [0, 1, 2, 3, 4] := rfl
  simp only [Sem.run_bind, run_underlying Tryd.underlying26, Result.andThen_ok]
  by_cases h0 : a0 = b0 <;> by_cases h1 : a1 = b1 <;> by_cases h2 : a2 = b2 <;> by_cases h3 : a3 = b3 <;> by_cases h4 : a4 = b4 <;> first | (exfalso; omega) | simp [go_sem, r, h0, h1, h2, h3, h4]
theorem eql5 (a0 a1 a2 a3 a4 : Int) (w : World) : (binOp .eql 26 (.agg #[.int .u64 a0, .int .u64 a1, .int .u64 a2, .int .u64 a3, .int .u64 a4]) (.agg #[.int .u64 a0, .int .u64 a1, .int .u64 a2, .int .u64 a3, .int .u64 a4])).run Tryd.prog w = .ok (.bool true) w := by
  simp [go_sem, eqlIn_same5]
theorem eql5_no (a0 a1 a2 a3 a4 b0 b1 b2 b3 b4 : Int) (h : ¬ (a0 = b0 ∧ a1 = b1 ∧ a2 = b2 ∧ a3 = b3 ∧ a4 = b4)) (w : World) : (binOp .eql 26 (.agg #[.int .u64 a0, .int .u64 a1, .int .u64 a2, .int .u64 a3, .int .u64 a4]) (.agg #[.int .u64 b0, .int .u64 b1, .int .u64 b2, .int .u64 b3, .int .u64 b4])).run Tryd.prog w = .ok (.bool false) w := by
  simp [go_sem, eqlIn_other5 _ _ _ _ _ _ _ _ _ _ h]
theorem neq5 (a0 a1 a2 a3 a4 : Int) (w : World) : (binOp .neq 26 (.agg #[.int .u64 a0, .int .u64 a1, .int .u64 a2, .int .u64 a3, .int .u64 a4]) (.agg #[.int .u64 a0, .int .u64 a1, .int .u64 a2, .int .u64 a3, .int .u64 a4])).run Tryd.prog w = .ok (.bool false) w := by
  simp [go_sem, eqlIn_same5]
theorem neq5_no (a0 a1 a2 a3 a4 b0 b1 b2 b3 b4 : Int) (h : ¬ (a0 = b0 ∧ a1 = b1 ∧ a2 = b2 ∧ a3 = b3 ∧ a4 = b4)) (w : World) : (binOp .neq 26 (.agg #[.int .u64 a0, .int .u64 a1, .int .u64 a2, .int .u64 a3, .int .u64 a4]) (.agg #[.int .u64 b0, .int .u64 b1, .int .u64 b2, .int .u64 b3, .int .u64 b4])).run Tryd.prog w = .ok (.bool true) w := by
  simp [go_sem, eqlIn_other5 _ _ _ _ _ _ _ _ _ _ h]
theorem idx5_0 (k : IntKind) (v0 v1 v2 v3 v4 : Int) (w : World) : (Instr.index 26 (.agg #[.int k v0, .int k v1, .int k v2, .int k v3, .int k v4]) (.int .i64 0)).run Tryd.prog w = .ok (.int k v0) w := by
  simp [Instr.index, run_underlying Tryd.underlying26, asIntOf, go_sem]

attribute [local go_sem] ext_cell ext_frozen
set_option maxHeartbeats 1000000 in
theorem same_fe (x y : L5) (hx : x.Tm) (hy : y.Tm) (b : Bool) (hb : b = decide (x.num % (P25 : Int) = y.num % (P25 : Int))) (w : World) : Calls Tryd.prog 54 #[.agg #[.int .u64 x.l0, .int .u64 x.l1, .int .u64 x.l2, .int .u64 x.l3, .int .u64 x.l4], .agg #[.int .u64 y.l0, .int .u64 y.l1, .int .u64 y.l2, .int .u64 y.l3, .int .u64 y.l4]] w fun e w' => e = .returned (.bool b) ∧ Below w.heap.size w w' := by
  obtain ⟨u, hu, eu, Qu⟩ := reduced_fe x hx
  obtain ⟨v, hv, ev, Qv⟩ := reduced_fe y hy
  have HE : ∀ w : World, (binOp .eql 26 (.agg #[.int .u64 u.l0, .int .u64 u.l1, .int .u64 u.l2, .int .u64 u.l3, .int .u64 u.l4]) (.agg #[.int .u64 v.l0, .int .u64 v.l1, .int .u64 v.l2, .int .u64 v.l3, .int .u64 v.l4])).run Tryd.prog w = .ok (.bool b) w := by
    intro w
    by_cases h : x.num % (P25 : Int) = y.num % (P25 : Int)
    · have := hu.eq hv (by rw [eu.out, ev.out]; exact h)
      subst this
      rw [hb, decide_eq_true h]
      exact eql5 _ _ _ _ _ w
    · rw [hb, decide_eq_false h]
      refine eql5_no _ _ _ _ _ _ _ _ _ _ ?_ w
      rintro ⟨h0, h1, h2, h3, h4⟩
      refine h ?_
      rw [← eu.out, ← ev.out]
      unfold L5.num
      rw [h0, h1, h2, h3, h4]
  obtain ⟨x0, x1, x2, x3, x4⟩ := x
  obtain ⟨y0, y1, y2, y3, y4⟩ := y
  obtain ⟨u0, u1, u2, u3, u4⟩ := u
  obtain ⟨v0, v1, v2, v3, v4⟩ := v
  dsimp only at Qu Qv HE ⊢
  have qu : Hid (∀ w : World, Calls Tryd.prog 66 #[.agg #[.int .u64 x0, .int .u64 x1, .int .u64 x2, .int .u64 x3, .int .u64 x4]] w fun e w' => e = .returned (.agg #[.int .u64 u0, .int .u64 u1, .int .u64 u2, .int .u64 u3, .int .u64 u4]) ∧ Below w.heap.size w w') := Qu
  have qv : Hid (∀ w : World, Calls Tryd.prog 66 #[.agg #[.int .u64 y0, .int .u64 y1, .int .u64 y2, .int .u64 y3, .int .u64 y4]] w fun e w' => e = .returned (.agg #[.int .u64 v0, .int .u64 v1, .int .u64 v2, .int .u64 v3, .int .u64 v4]) ∧ Below w.heap.size w w') := Qv
  clear Qu Qv eu ev hu hv hx hy hb
  go_enter Tryd.func54, Tryd.ntmps54
  go_wp2_with fail
  refine wp_region_ext (by kernel_rfl) (by kernel_rfl) ?_
  repeat (go_big_quiet_step ((first
    | with_reducible exact calls_ext (qu.out _)
    | with_reducible exact calls_ext (qv.out _))))
  refine wpQuiet_nil ?_
  intro W1 hw
  obtain ⟨n, rfl⟩ := hw
  have Hb := ext_below ((w.alloc (.cells #[.int .u64 x0, .int .u64 x1, .int .u64 x2, .int .u64 x3, .int .u64 x4] 26)).alloc (.cells #[.int .u64 y0, .int .u64 y1, .int .u64 y2, .int .u64 y3, .int .u64 y4] 26)) n
  go_wp2_with fail
  go_ret
  refine ⟨rfl, Below.trans ?_ (Hb.mono (by simp <;> omega))⟩
  repeat (first | exact Below.refl _ _ | refine Below.alloc ?_ (by simp <;> omega) _)

theorem and1_nat (a : Nat) (ha : a < 18446744073709551616) : bits .and .u64 (a : Int) 1 = ((a % 2 : Nat) : Int) := by
  have := bits_and_u64_nat a 1 ha (by omega)
  rw [Nat.and_one_is_mod] at this
  exact this
theorem and1_int (a : Int) (h : Wd a) : bits .and .u64 a 1 = a % 2 := by
  unfold Wd at h
  obtain ⟨n, rfl⟩ := Int.eq_ofNat_of_zero_le h.1
  rw [and1_nat n (by omega)]
  omega
theorem low_parity (z : L5) : z.l0 % 2 = z.num % 2 := by unfold L5.num val5; omega
attribute [local go_sem] idx5_0
set_option maxHeartbeats 1000000 in
theorem negative_fe (x : L5) (hx : x.Tm) (b : Bool) (hb : b = decide (x.num % (P25 : Int) % 2 = 1)) (w : World) : Calls Tryd.prog 37 #[.agg #[.int .u64 x.l0, .int .u64 x.l1, .int .u64 x.l2, .int .u64 x.l3, .int .u64 x.l4]] w fun e w' => e = .returned (.bool b) ∧ Below w.heap.size w w' := by
  obtain ⟨u, hu, eu, Qu⟩ := reduced_fe x hx
  have e1 : bits .and .u64 u.l0 1 = x.num % (P25 : Int) % 2 := by
    rw [and1_int _ (by unfold L5.Low at hu; unfold Wd; omega), low_parity, eu.out]
  obtain ⟨r, hr⟩ : ∃ r : Int, x.num % (P25 : Int) % 2 = r := ⟨_, rfl⟩
  rw [hr] at e1 hb
  have hr2 : r = 0 ∨ r = 1 := by omega
  obtain ⟨x0, x1, x2, x3, x4⟩ := x
  obtain ⟨u0, u1, u2, u3, u4⟩ := u
  dsimp only at Qu e1 ⊢
  have qu : Hid (∀ w : World, Calls Tryd.prog 66 #[.agg #[.int .u64 x0, .int .u64 x1, .int .u64 x2, .int .u64 x3, .int .u64 x4]] w fun e w' => e = .returned (.agg #[.int .u64 u0, .int .u64 u1, .int .u64 u2, .int .u64 u3, .int .u64 u4]) ∧ Below w.heap.size w w') := Qu
  clear Qu eu hu hx hr
  go_enter Tryd.func37, Tryd.ntmps37
  go_wp2_with fail
  refine calls_at (fun W => Below w.heap.size w W) ?_ ?_
  · (repeat (first | exact Below.refl _ _ | refine Below.drew ?_ | refine below_drewN ?_ _ | refine Below.alloc ?_ (by simp <;> omega) _ | refine Below.setCell ?_ (by simp <;> omega) _))
  rintro W hB
  refine (qu.out _).mono ?_
  rintro e w1 ⟨rfl, g⟩
  have B1 : Hid (Below w.heap.size w w1) := hB.trans (g.mono hB.size)
  clear hB g qu
  rcases hr2 with rfl | rfl
  all_goals
    subst hb
    go_wp2_with fail
    go_ret
    exact ⟨rfl, B1.out⟩

end Go.Proofs.YtkbiiolkekpkiaaDoor
