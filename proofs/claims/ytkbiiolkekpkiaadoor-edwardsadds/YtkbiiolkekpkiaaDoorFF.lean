/-
  The contracts of the field's Add, Sub, Neg, Small and Select: for tame elements they return tame elements of the numbers that the document says, and change no memory that was there. Sub and Neg: where the package's variables are as the program lays them. Conditions: as each theorem says.
-/
import Derived.Test.YtkbiiolkekpkiaaDoorFB
namespace Go.Proofs.YtkbiiolkekpkiaaDoor
open Go.RowKit
set_option linter.unusedVariables false
set_option linter.unusedSimpArgs false

/-- The package's two variables, in memory. -/
structure Gl (W : World) : Prop where
  lt : 5 < W.heap.size
  a0 : W.cell? ⟨4, 0, none⟩ = some (.int .u64 9007199254740916)
  a1 : W.cell? ⟨4, 1, none⟩ = some (.int .u64 9007199254740988)
  a2 : W.cell? ⟨4, 2, none⟩ = some (.int .u64 9007199254740988)
  a3 : W.cell? ⟨4, 3, none⟩ = some (.int .u64 9007199254740988)
  a4 : W.cell? ⟨4, 4, none⟩ = some (.int .u64 9007199254740988)
  b0 : W.cell? ⟨5, 0, none⟩ = some (.int .u64 1718705420411056)
  b1 : W.cell? ⟨5, 1, none⟩ = some (.int .u64 234908883556509)
  b2 : W.cell? ⟨5, 2, none⟩ = some (.int .u64 2233514472574048)
  b3 : W.cell? ⟨5, 3, none⟩ = some (.int .u64 2117202627021982)
  b4 : W.cell? ⟨5, 4, none⟩ = some (.int .u64 765476049583133)
theorem Gl.below {W W' : World} (h : Gl W) {n : Nat} (hb : Below n W W') (hn : 5 < n) : Gl W' :=
  ⟨Nat.lt_of_lt_of_le h.lt hb.size, (hb.cell (p := ⟨4, 0, none⟩) (show 4 < n by omega)).trans h.a0, (hb.cell (p := ⟨4, 1, none⟩) (show 4 < n by omega)).trans h.a1, (hb.cell (p := ⟨4, 2, none⟩) (show 4 < n by omega)).trans h.a2, (hb.cell (p := ⟨4, 3, none⟩) (show 4 < n by omega)).trans h.a3, (hb.cell (p := ⟨4, 4, none⟩) (show 4 < n by omega)).trans h.a4, (hb.cell (p := ⟨5, 0, none⟩) (show 5 < n by omega)).trans h.b0, (hb.cell (p := ⟨5, 1, none⟩) (show 5 < n by omega)).trans h.b1, (hb.cell (p := ⟨5, 2, none⟩) (show 5 < n by omega)).trans h.b2, (hb.cell (p := ⟨5, 3, none⟩) (show 5 < n by omega)).trans h.b3, (hb.cell (p := ⟨5, 4, none⟩) (show 5 < n by omega)).trans h.b4⟩
theorem Gl.grown {W W' : World} (h : Gl W) (hb : Below W.heap.size W W') : Gl W' := h.below hb h.lt
/-- The first of them alone. -/
structure Gf (W : World) : Prop where
  lt : 4 < W.heap.size
  a0 : W.cell? ⟨4, 0, none⟩ = some (.int .u64 9007199254740916)
  a1 : W.cell? ⟨4, 1, none⟩ = some (.int .u64 9007199254740988)
  a2 : W.cell? ⟨4, 2, none⟩ = some (.int .u64 9007199254740988)
  a3 : W.cell? ⟨4, 3, none⟩ = some (.int .u64 9007199254740988)
  a4 : W.cell? ⟨4, 4, none⟩ = some (.int .u64 9007199254740988)
theorem Gf.below {W W' : World} (h : Gf W) {n : Nat} (hb : Below n W W') (hn : 4 < n) : Gf W' :=
  ⟨Nat.lt_of_lt_of_le h.lt hb.size, (hb.cell (p := ⟨4, 0, none⟩) (show 4 < n by omega)).trans h.a0, (hb.cell (p := ⟨4, 1, none⟩) (show 4 < n by omega)).trans h.a1, (hb.cell (p := ⟨4, 2, none⟩) (show 4 < n by omega)).trans h.a2, (hb.cell (p := ⟨4, 3, none⟩) (show 4 < n by omega)).trans h.a3, (hb.cell (p := ⟨4, 4, none⟩) (show 4 < n by omega)).trans h.a4⟩
theorem Gf.grown {W W' : World} (h : Gf W) (hb : Below W.heap.size W W') : Gf W' := h.below hb h.lt
theorem Gl.f {W : World} (h : Gl W) : Gf W := ⟨by have := h.lt; omega, h.a0, h.a1, h.a2, h.a3, h.a4⟩
theorem settle_val (l0 l1 l2 l3 l4 t0 t1 t2 t3 t4 : Int) (h : t0 = l0 % 2251799813685248 + 19 * (l4 / 2251799813685248) ∧ t1 = l1 % 2251799813685248 + l0 / 2251799813685248 ∧ t2 = l2 % 2251799813685248 + l1 / 2251799813685248 ∧ t3 = l3 % 2251799813685248 + l2 / 2251799813685248 ∧ t4 = l4 % 2251799813685248 + l3 / 2251799813685248) :
    val5 t0 t1 t2 t3 t4 % (P25 : Int) = val5 l0 l1 l2 l3 l4 % (P25 : Int) := by
  refine mod_of_sum (k := l4 / 2251799813685248) ?_
  unfold val5 P25
  omega
set_option maxHeartbeats 2000000 in
theorem add_fe (x y : L5) (hx : x.Tm) (hy : y.Tm) : ∃ z : L5, z.Tm ∧ Hid (z.num % (P25 : Int) = (x.num + y.num) % (P25 : Int)) ∧ ∀ w : World, Calls Tryd.prog 52 #[.agg #[.int .u64 x.l0, .int .u64 x.l1, .int .u64 x.l2, .int .u64 x.l3, .int .u64 x.l4], .agg #[.int .u64 y.l0, .int .u64 y.l1, .int .u64 y.l2, .int .u64 y.l3, .int .u64 y.l4]] w fun e w' => e = .returned (.agg #[.int .u64 z.l0, .int .u64 z.l1, .int .u64 z.l2, .int .u64 z.l3, .int .u64 z.l4]) ∧ Below w.heap.size w w' := by
  obtain ⟨x0, x1, x2, x3, x4⟩ := x
  obtain ⟨y0, y1, y2, y3, y4⟩ := y
  unfold L5.Tm Tame at hx hy
  dsimp only at hx hy ⊢
  obtain ⟨t0, t1, t2, t3, t4, E, Q⟩ := settled_step (x0 + y0) (x1 + y1) (x2 + y2) (x3 + y3) (x4 + y4) (by unfold Wd; omega) (by unfold Wd; omega) (by unfold Wd; omega) (by unfold Wd; omega) (by unfold Wd; omega)
  refine ⟨⟨t0, t1, t2, t3, t4⟩, E.out.1, ?_, fun w => ?_⟩
  · unfold Hid L5.num
    rw [settle_val _ _ _ _ _ _ _ _ _ _ E.out.2]
    congr 1
    unfold val5
    dsimp only
    clear E Q
    omega
  · have d0 : IntKind.u64.wrap (x0 + y0) = x0 + y0 := wrapW _ (by omega) (by omega)
    have d1 : IntKind.u64.wrap (x1 + y1) = x1 + y1 := wrapW _ (by omega) (by omega)
    have d2 : IntKind.u64.wrap (x2 + y2) = x2 + y2 := wrapW _ (by omega) (by omega)
    have d3 : IntKind.u64.wrap (x3 + y3) = x3 + y3 := wrapW _ (by omega) (by omega)
    have d4 : IntKind.u64.wrap (x4 + y4) = x4 + y4 := wrapW _ (by omega) (by omega)
    have q : Hid (∀ w : World, Calls Tryd.prog 80 #[.agg #[.int .u64 (x0 + y0), .int .u64 (x1 + y1), .int .u64 (x2 + y2), .int .u64 (x3 + y3), .int .u64 (x4 + y4)]] w fun e w' => e = .returned (.agg #[.int .u64 t0, .int .u64 t1, .int .u64 t2, .int .u64 t3, .int .u64 t4]) ∧ Below w.heap.size w w') := Q
    clear E Q hx hy
    go_enter Tryd.func52, Tryd.ntmps52
    go_wp2_with fail
    refine wp_unr 6 ?_
    refine unr_succ ?_
    go_wp2_with fail
    go_region
    go_wp2_with fail
    refine unr_succ ?_
    go_wp2_with fail
    go_region
    go_wp2_with fail
    refine unr_succ ?_
    go_wp2_with fail
    go_region
    go_wp2_with fail
    refine unr_succ ?_
    go_wp2_with fail
    go_region
    go_wp2_with fail
    refine unr_succ ?_
    go_wp2_with fail
    go_region
    go_wp2_with fail
    refine unr_succ ?_
    go_wp2_with fail
    refine calls_at (fun W => Bl5 W (w.heap.size + 1 + 1) (x0 + y0) (x1 + y1) (x2 + y2) (x3 + y3) (x4 + y4) ∧ Below w.heap.size w W) ⟨?_, ?_⟩ ?_
    · (repeat (first | refine Bl5.drew ?_ | refine Bl5.drewN ?_ _ | (refine Bl5.new _ _ _ _ _ _ _ _ ?_; simp; done) | refine Bl5.alloc ?_ _))
    · (repeat (first | exact Below.refl _ _ | refine Below.drew ?_ | refine below_drewN ?_ _ | refine Below.alloc ?_ (by simp <;> omega) _ | refine Below.setCell ?_ (by simp <;> omega) _))
    rintro W ⟨hR, hB⟩
    have HR : Hid (Bl5 W (w.heap.size + 1 + 1) (x0 + y0) (x1 + y1) (x2 + y2) (x3 + y3) (x4 + y4)) := hR
    have HB : Hid (Below w.heap.size w W) := hB
    clear hR hB
    refine (q.out _).mono ?_
    rintro e w1 ⟨rfl, g⟩
    have R1 := hold (HR.out.below g)
    have B1 := hold (HB.out.trans (g.mono HB.out.size))
    clear g
    obtain ⟨rl, r0, r1, r2, r3, r4, rf⟩ := R1.out
    go_wp2_with fail
    refine body_cut (fun W => Bl5 W (w.heap.size + 1 + 1) t0 t1 t2 t3 t4 ∧ Below w.heap.size w W) ⟨R1.out.set t0 t1 t2 t3 t4, ?_⟩ ?_
    · iterate 5 (refine Below.setCell ?_ (by simp <;> omega) _)
      exact B1.out
    · clear rl r0 r1 r2 r3 r4 rf R1 B1
      rintro W ⟨⟨rl, r0, r1, r2, r3, r4, rf⟩, hb⟩
      exact bodyPost_ret (v := .agg #[.int .u64 t0, .int .u64 t1, .int .u64 t2, .int .u64 t3, .int .u64 t4]) (by simp [results, Tryd.results52, go_sem, r0, r1, r2, r3, r4]) rfl ⟨rfl, hb⟩

set_option maxHeartbeats 2000000 in
theorem sub_ff (x y : L5) (hx : x.Tm) (hy : y.Tm) : ∃ z : L5, z.Tm ∧ Hid (z.num % (P25 : Int) = (x.num - y.num) % (P25 : Int)) ∧ ∀ w : World, Gf w → Calls Tryd.prog 55 #[.agg #[.int .u64 x.l0, .int .u64 x.l1, .int .u64 x.l2, .int .u64 x.l3, .int .u64 x.l4], .agg #[.int .u64 y.l0, .int .u64 y.l1, .int .u64 y.l2, .int .u64 y.l3, .int .u64 y.l4]] w fun e w' => e = .returned (.agg #[.int .u64 z.l0, .int .u64 z.l1, .int .u64 z.l2, .int .u64 z.l3, .int .u64 z.l4]) ∧ Below w.heap.size w w' := by
  obtain ⟨x0, x1, x2, x3, x4⟩ := x
  obtain ⟨y0, y1, y2, y3, y4⟩ := y
  unfold L5.Tm Tame at hx hy
  dsimp only at hx hy ⊢
  obtain ⟨t0, t1, t2, t3, t4, E, Q⟩ := settled_step (x0 + 9007199254740916 - y0) (x1 + 9007199254740988 - y1) (x2 + 9007199254740988 - y2) (x3 + 9007199254740988 - y3) (x4 + 9007199254740988 - y4) (by unfold Wd; omega) (by unfold Wd; omega) (by unfold Wd; omega) (by unfold Wd; omega) (by unfold Wd; omega)
  refine ⟨⟨t0, t1, t2, t3, t4⟩, E.out.1, ?_, fun w hg => ?_⟩
  · unfold Hid L5.num
    rw [settle_val _ _ _ _ _ _ _ _ _ _ E.out.2]
    refine (mod_of_sum (k := 4) ?_).symm
    unfold val5 P25
    dsimp only
    clear E Q
    omega
  · have hg' := hg
    have gl := hg.lt
    clear hg
    have c0 : IntKind.u64.wrap (x0 + 9007199254740916) = x0 + 9007199254740916 := wrapW _ (by omega) (by omega)
    have d0 : IntKind.u64.wrap (x0 + 9007199254740916 - y0) = x0 + 9007199254740916 - y0 := wrapW _ (by omega) (by omega)
    have c1 : IntKind.u64.wrap (x1 + 9007199254740988) = x1 + 9007199254740988 := wrapW _ (by omega) (by omega)
    have d1 : IntKind.u64.wrap (x1 + 9007199254740988 - y1) = x1 + 9007199254740988 - y1 := wrapW _ (by omega) (by omega)
    have c2 : IntKind.u64.wrap (x2 + 9007199254740988) = x2 + 9007199254740988 := wrapW _ (by omega) (by omega)
    have d2 : IntKind.u64.wrap (x2 + 9007199254740988 - y2) = x2 + 9007199254740988 - y2 := wrapW _ (by omega) (by omega)
    have c3 : IntKind.u64.wrap (x3 + 9007199254740988) = x3 + 9007199254740988 := wrapW _ (by omega) (by omega)
    have d3 : IntKind.u64.wrap (x3 + 9007199254740988 - y3) = x3 + 9007199254740988 - y3 := wrapW _ (by omega) (by omega)
    have c4 : IntKind.u64.wrap (x4 + 9007199254740988) = x4 + 9007199254740988 := wrapW _ (by omega) (by omega)
    have d4 : IntKind.u64.wrap (x4 + 9007199254740988 - y4) = x4 + 9007199254740988 - y4 := wrapW _ (by omega) (by omega)
    have gl0 : 0 < w.heap.size := by omega
    have q : Hid (∀ w : World, Calls Tryd.prog 80 #[.agg #[.int .u64 (x0 + 9007199254740916 - y0), .int .u64 (x1 + 9007199254740988 - y1), .int .u64 (x2 + 9007199254740988 - y2), .int .u64 (x3 + 9007199254740988 - y3), .int .u64 (x4 + 9007199254740988 - y4)]] w fun e w' => e = .returned (.agg #[.int .u64 t0, .int .u64 t1, .int .u64 t2, .int .u64 t3, .int .u64 t4]) ∧ Below w.heap.size w w') := Q
    clear E Q hx hy
    go_enter Tryd.func55, Tryd.ntmps55
    go_wp2_with fail
    refine wp_cut (fun V => Bl5 V w.heap.size x0 x1 x2 x3 x4 ∧ Bl5 V (w.heap.size + 1) y0 y1 y2 y3 y4 ∧ Bl5 V (w.heap.size + 1 + 1) 0 0 0 0 0 ∧ Gf V ∧ Below w.heap.size w V) ⟨?_, ?_, ?_, ?_, ?_⟩ ?_
    iterate 3 (· (repeat (first | refine Bl5.drew ?_ | refine Bl5.drewN ?_ _ | (refine Bl5.new _ _ _ _ _ _ _ _ ?_; simp; done) | refine Bl5.alloc ?_ _)))
    · refine Gf.grown hg' ?_
      (repeat (first | exact Below.refl _ _ | refine Below.drew ?_ | refine below_drewN ?_ _ | refine Below.alloc ?_ (by simp <;> omega) _))
    · (repeat (first | exact Below.refl _ _ | refine Below.drew ?_ | refine below_drewN ?_ _ | refine Below.alloc ?_ (by simp <;> omega) _ | refine Below.setCell ?_ (by simp <;> omega) _))
    rintro V ⟨kX, kY, kR, kG, kB⟩
    have HB0 : Hid (Below w.heap.size w V) := kB
    have HR0 : Hid (Bl5 V (w.heap.size + 1 + 1) 0 0 0 0 0) := kR
    obtain ⟨gvl, g0, g1, g2, g3, g4⟩ := kG
    obtain ⟨xl, xx0, xx1, xx2, xx3, xx4, xf⟩ := kX
    obtain ⟨yl, yy0, yy1, yy2, yy3, yy4, yf⟩ := kY
    obtain ⟨rl, r0, r1, r2, r3, r4, rf⟩ := kR
    have ne1 : ¬ (w.heap.size + 1 + 1) = 4 := by omega
    have ne2 : ¬ 4 = (w.heap.size + 1 + 1) := by omega
    clear kB hg'
    refine wp_unr 6 ?_
    refine unr_succ ?_
    go_wp2_with fail
    go_region
    go_wp2_with fail
    refine unr_succ ?_
    go_wp2_with fail
    go_region
    go_wp2_with fail
    refine unr_succ ?_
    go_wp2_with fail
    go_region
    go_wp2_with fail
    refine unr_succ ?_
    go_wp2_with fail
    go_region
    go_wp2_with fail
    refine unr_succ ?_
    go_wp2_with fail
    go_region
    go_wp2_with fail
    refine unr_succ ?_
    go_wp2_with fail
    refine calls_at (fun W => Bl5 W (w.heap.size + 1 + 1) (x0 + 9007199254740916 - y0) (x1 + 9007199254740988 - y1) (x2 + 9007199254740988 - y2) (x3 + 9007199254740988 - y3) (x4 + 9007199254740988 - y4) ∧ Below w.heap.size w W) ⟨?_, ?_⟩ ?_
    · iterate 5 (refine Bl5.drew ?_)
      exact HR0.out.set (x0 + 9007199254740916 - y0) (x1 + 9007199254740988 - y1) (x2 + 9007199254740988 - y2) (x3 + 9007199254740988 - y3) (x4 + 9007199254740988 - y4)
    · iterate 5 (refine Below.drew ?_)
      iterate 5 (refine Below.setCell ?_ (by show _ ≤ w.heap.size + 1 + 1; omega) _)
      exact HB0.out
    clear rl r0 r1 r2 r3 r4 rf HR0 HB0
    rintro W ⟨hR, hB⟩
    have HR : Hid (Bl5 W (w.heap.size + 1 + 1) (x0 + 9007199254740916 - y0) (x1 + 9007199254740988 - y1) (x2 + 9007199254740988 - y2) (x3 + 9007199254740988 - y3) (x4 + 9007199254740988 - y4)) := hR
    have HB : Hid (Below w.heap.size w W) := hB
    clear hR hB
    refine (q.out _).mono ?_
    rintro e w1 ⟨rfl, g⟩
    have R1 := hold (HR.out.below g)
    have B1 := hold (HB.out.trans (g.mono HB.out.size))
    clear g
    obtain ⟨rl, r0, r1, r2, r3, r4, rf⟩ := R1.out
    go_wp2_with fail
    refine body_cut (fun W => Bl5 W (w.heap.size + 1 + 1) t0 t1 t2 t3 t4 ∧ Below w.heap.size w W) ⟨R1.out.set t0 t1 t2 t3 t4, ?_⟩ ?_
    · iterate 5 (refine Below.setCell ?_ (by simp <;> omega) _)
      exact B1.out
    · clear rl r0 r1 r2 r3 r4 rf R1 B1
      rintro W ⟨⟨rl, r0, r1, r2, r3, r4, rf⟩, hb⟩
      exact bodyPost_ret (v := .agg #[.int .u64 t0, .int .u64 t1, .int .u64 t2, .int .u64 t3, .int .u64 t4]) (by simp [results, Tryd.results55, go_sem, r0, r1, r2, r3, r4]) rfl ⟨rfl, hb⟩

theorem tame_zero : Tame 0 0 0 0 0 := by unfold Tame; omega
set_option maxHeartbeats 1000000 in
theorem neg_ff (x : L5) (hx : x.Tm) : ∃ z : L5, z.Tm ∧ Hid (z.num % (P25 : Int) = (- x.num) % (P25 : Int)) ∧ ∀ w : World, Gf w → Calls Tryd.prog 36 #[.agg #[.int .u64 x.l0, .int .u64 x.l1, .int .u64 x.l2, .int .u64 x.l3, .int .u64 x.l4]] w fun e w' => e = .returned (.agg #[.int .u64 z.l0, .int .u64 z.l1, .int .u64 z.l2, .int .u64 z.l3, .int .u64 z.l4]) ∧ Below w.heap.size w w' := by
  obtain ⟨z, hz, E, Q⟩ := sub_ff ⟨0, 0, 0, 0, 0⟩ x tame_zero hx
  refine ⟨z, hz, ?_, fun w hg => ?_⟩
  · unfold Hid at *
    rw [E]
    congr 1
    unfold L5.num val5
    dsimp only
    omega
  · obtain ⟨x0, x1, x2, x3, x4⟩ := x
    obtain ⟨t0, t1, t2, t3, t4⟩ := z
    dsimp only at Q ⊢
    have q : Hid (∀ w : World, Gf w → Calls Tryd.prog 55 #[.agg #[.int .u64 0, .int .u64 0, .int .u64 0, .int .u64 0, .int .u64 0], .agg #[.int .u64 x0, .int .u64 x1, .int .u64 x2, .int .u64 x3, .int .u64 x4]] w fun e w' => e = .returned (.agg #[.int .u64 t0, .int .u64 t1, .int .u64 t2, .int .u64 t3, .int .u64 t4]) ∧ Below w.heap.size w w') := Q
    have HG : Hid (Gf w) := hg
    clear E Q hx hz hg
    go_enter Tryd.func36, Tryd.ntmps36
    go_wp2_with fail
    refine calls_at (fun W => Bl5 W (w.heap.size + 1) 0 0 0 0 0 ∧ Below w.heap.size w W) ⟨?_, ?_⟩ ?_
    · (repeat (first | refine Bl5.drew ?_ | refine Bl5.drewN ?_ _ | (refine Bl5.new _ _ _ _ _ _ _ _ ?_; simp; done) | refine Bl5.alloc ?_ _))
    · (repeat (first | exact Below.refl _ _ | refine Below.drew ?_ | refine below_drewN ?_ _ | refine Below.alloc ?_ (by simp <;> omega) _ | refine Below.setCell ?_ (by simp <;> omega) _))
    rintro W ⟨hR, hB⟩
    have HR : Hid (Bl5 W (w.heap.size + 1) 0 0 0 0 0) := hR
    have HB : Hid (Below w.heap.size w W) := hB
    clear hR hB
    refine (q.out _ (HG.out.grown HB.out)).mono ?_
    rintro e w1 ⟨rfl, g⟩
    have R1 := hold (HR.out.below g)
    have B1 := hold (HB.out.trans (g.mono HB.out.size))
    clear g
    obtain ⟨rl, r0, r1, r2, r3, r4, rf⟩ := R1.out
    go_wp2_with fail
    refine body_cut (fun W => Bl5 W (w.heap.size + 1) t0 t1 t2 t3 t4 ∧ Below w.heap.size w W) ⟨R1.out.set t0 t1 t2 t3 t4, ?_⟩ ?_
    · iterate 5 (refine Below.setCell ?_ (by simp <;> omega) _)
      exact B1.out
    · clear rl r0 r1 r2 r3 r4 rf R1 B1
      rintro W ⟨⟨rl, r0, r1, r2, r3, r4, rf⟩, hb⟩
      exact bodyPost_ret (v := .agg #[.int .u64 t0, .int .u64 t1, .int .u64 t2, .int .u64 t3, .int .u64 t4]) (by simp [results, Tryd.results36, go_sem, r0, r1, r2, r3, r4]) rfl ⟨rfl, hb⟩
theorem sub_fe (x y : L5) (hx : x.Tm) (hy : y.Tm) : ∃ z : L5, z.Tm ∧ Hid (z.num % (P25 : Int) = (x.num - y.num) % (P25 : Int)) ∧ ∀ w : World, Gl w → Calls Tryd.prog 55 #[.agg #[.int .u64 x.l0, .int .u64 x.l1, .int .u64 x.l2, .int .u64 x.l3, .int .u64 x.l4], .agg #[.int .u64 y.l0, .int .u64 y.l1, .int .u64 y.l2, .int .u64 y.l3, .int .u64 y.l4]] w fun e w' => e = .returned (.agg #[.int .u64 z.l0, .int .u64 z.l1, .int .u64 z.l2, .int .u64 z.l3, .int .u64 z.l4]) ∧ Below w.heap.size w w' := by
  obtain ⟨z, h1, h2, h3⟩ := sub_ff x y hx hy
  exact ⟨z, h1, h2, fun w hg => h3 w hg.f⟩
theorem neg_fe (x : L5) (hx : x.Tm) : ∃ z : L5, z.Tm ∧ Hid (z.num % (P25 : Int) = (- x.num) % (P25 : Int)) ∧ ∀ w : World, Gl w → Calls Tryd.prog 36 #[.agg #[.int .u64 x.l0, .int .u64 x.l1, .int .u64 x.l2, .int .u64 x.l3, .int .u64 x.l4]] w fun e w' => e = .returned (.agg #[.int .u64 z.l0, .int .u64 z.l1, .int .u64 z.l2, .int .u64 z.l3, .int .u64 z.l4]) ∧ Below w.heap.size w w' := by
  obtain ⟨z, h1, h2, h3⟩ := neg_ff x hx
  exact ⟨z, h1, h2, fun w hg => h3 w hg.f⟩

theorem small_fe (n : Nat) (hn : n < 4294967296) (w : World) : Calls Tryd.prog 53 #[.int .u32 (n : Int)] w fun e w' => e = .returned (.agg #[.int .u64 (n : Int), .int .u64 0, .int .u64 0, .int .u64 0, .int .u64 0]) ∧ Below w.heap.size w w' := by
  have c : IntKind.u64.wrap (n : Int) = (n : Int) := wrapW _ (by omega) (by omega)
  go_enter Tryd.func53, Tryd.ntmps53
  go_wp2_with fail
  refine bodyPost_ret (v := .agg #[.int .u64 (n : Int), .int .u64 0, .int .u64 0, .int .u64 0, .int .u64 0]) (by simp [results, Tryd.results53, go_sem]) rfl ⟨rfl, ?_⟩
  (repeat (first | exact Below.refl _ _ | refine Below.drew ?_ | refine below_drewN ?_ _ | refine Below.alloc ?_ (by simp <;> omega) _ | refine Below.setCell ?_ (by simp <;> omega) _))

theorem toNat_wd (a : Int) (h : Wd a) : (((BitVec.ofInt 64 a).toNat : Nat) : Int) = a := by
  unfold Wd at h
  obtain ⟨n, rfl⟩ := Int.eq_ofNat_of_zero_le h.1
  rw [BitVec.ofInt_natCast, BitVec.toNat_ofNat, Nat.mod_eq_of_lt (by omega)]
theorem wrap_wd (a : Int) (h : Wd a) : IntKind.u64.wrap a = a := wrapW a h.1 h.2
theorem and_ones (a : Int) (h : Wd a) : bits .and .u64 a 18446744073709551615 = a := by
  show IntKind.u64.wrap ((BitVec.ofInt 64 a &&& BitVec.ofInt 64 18446744073709551615).toNat : Int) = a
  rw [show BitVec.ofInt 64 18446744073709551615 = BitVec.allOnes 64 by decide, BitVec.and_allOnes, toNat_wd a h, wrap_wd a h]
theorem and_zero' (a : Int) : bits .and .u64 a 0 = 0 := by
  show IntKind.u64.wrap ((BitVec.ofInt 64 a &&& BitVec.ofInt 64 0).toNat : Int) = 0
  rw [show BitVec.ofInt 64 0 = 0#64 by decide, BitVec.and_zero]; decide
theorem andNot_ones (a : Int) : bits .andNot .u64 a 18446744073709551615 = 0 := by
  show IntKind.u64.wrap ((BitVec.ofInt 64 a &&& ~~~ BitVec.ofInt 64 18446744073709551615).toNat : Int) = 0
  rw [show ~~~ BitVec.ofInt 64 18446744073709551615 = 0#64 by decide, BitVec.and_zero]; decide
theorem andNot_zero (a : Int) (h : Wd a) : bits .andNot .u64 a 0 = a := by
  show IntKind.u64.wrap ((BitVec.ofInt 64 a &&& ~~~ BitVec.ofInt 64 0).toNat : Int) = a
  rw [show ~~~ BitVec.ofInt 64 0 = BitVec.allOnes 64 by decide, BitVec.and_allOnes, toNat_wd a h, wrap_wd a h]
theorem or_zero' (a : Int) (h : Wd a) : bits .or .u64 a 0 = a := by
  show IntKind.u64.wrap ((BitVec.ofInt 64 a ||| BitVec.ofInt 64 0).toNat : Int) = a
  rw [show BitVec.ofInt 64 0 = 0#64 by decide, BitVec.or_zero, toNat_wd a h, wrap_wd a h]
theorem zero_or' (a : Int) (h : Wd a) : bits .or .u64 0 a = a := by
  show IntKind.u64.wrap ((BitVec.ofInt 64 0 ||| BitVec.ofInt 64 a).toNat : Int) = a
  rw [show BitVec.ofInt 64 0 = 0#64 by decide, BitVec.zero_or, toNat_wd a h, wrap_wd a h]
set_option maxHeartbeats 2000000 in
theorem select_yes (c : Int) (x y : L5) (hx : x.Tm) (hy : y.Tm) (hc : bits .and .u64 c 1 = 1) (w : World) : Calls Tryd.prog 86 #[.int .u64 c, .agg #[.int .u64 x.l0, .int .u64 x.l1, .int .u64 x.l2, .int .u64 x.l3, .int .u64 x.l4], .agg #[.int .u64 y.l0, .int .u64 y.l1, .int .u64 y.l2, .int .u64 y.l3, .int .u64 y.l4]] w fun e w' => e = .returned (.agg #[.int .u64 x.l0, .int .u64 x.l1, .int .u64 x.l2, .int .u64 x.l3, .int .u64 x.l4]) ∧ Below w.heap.size w w' := by
  obtain ⟨x0, x1, x2, x3, x4⟩ := x
  obtain ⟨y0, y1, y2, y3, y4⟩ := y
  unfold L5.Tm Tame at hx hy
  dsimp only at hx hy ⊢
  have e0 : IntKind.u64.wrap (-1) = 18446744073709551615 := by decide
  have wx0 : Wd x0 := by unfold Wd; omega
  have wy0 : Wd y0 := by unfold Wd; omega
  have a0 := and_ones x0 wx0
  have b0 := andNot_ones y0
  have c0 := or_zero' x0 wx0
  have wx1 : Wd x1 := by unfold Wd; omega
  have wy1 : Wd y1 := by unfold Wd; omega
  have a1 := and_ones x1 wx1
  have b1 := andNot_ones y1
  have c1 := or_zero' x1 wx1
  have wx2 : Wd x2 := by unfold Wd; omega
  have wy2 : Wd y2 := by unfold Wd; omega
  have a2 := and_ones x2 wx2
  have b2 := andNot_ones y2
  have c2 := or_zero' x2 wx2
  have wx3 : Wd x3 := by unfold Wd; omega
  have wy3 : Wd y3 := by unfold Wd; omega
  have a3 := and_ones x3 wx3
  have b3 := andNot_ones y3
  have c3 := or_zero' x3 wx3
  have wx4 : Wd x4 := by unfold Wd; omega
  have wy4 : Wd y4 := by unfold Wd; omega
  have a4 := and_ones x4 wx4
  have b4 := andNot_ones y4
  have c4 := or_zero' x4 wx4
  clear hx hy wx0 wx1 wx2 wx3 wx4 wy0 wy1 wy2 wy3 wy4
  go_enter Tryd.func86, Tryd.ntmps86
  go_wp2_with fail
  refine wp_unr 6 ?_
  refine unr_succ ?_
  go_wp2_with fail
  go_region
  go_wp2_with fail
  refine unr_succ ?_
  go_wp2_with fail
  go_region
  go_wp2_with fail
  refine unr_succ ?_
  go_wp2_with fail
  go_region
  go_wp2_with fail
  refine unr_succ ?_
  go_wp2_with fail
  go_region
  go_wp2_with fail
  refine unr_succ ?_
  go_wp2_with fail
  go_region
  go_wp2_with fail
  refine unr_succ ?_
  go_wp2_with fail
  refine bodyPost_ret (v := .agg #[.int .u64 x0, .int .u64 x1, .int .u64 x2, .int .u64 x3, .int .u64 x4]) (by simp [results, Tryd.results86, go_sem]) rfl ⟨rfl, ?_⟩
  (repeat (first | exact Below.refl _ _ | refine Below.drew ?_ | refine below_drewN ?_ _ | refine Below.alloc ?_ (by simp <;> omega) _ | refine Below.setCell ?_ (by simp <;> omega) _))
set_option maxHeartbeats 2000000 in
theorem select_no (c : Int) (x y : L5) (hx : x.Tm) (hy : y.Tm) (hc : bits .and .u64 c 1 = 0) (w : World) : Calls Tryd.prog 86 #[.int .u64 c, .agg #[.int .u64 x.l0, .int .u64 x.l1, .int .u64 x.l2, .int .u64 x.l3, .int .u64 x.l4], .agg #[.int .u64 y.l0, .int .u64 y.l1, .int .u64 y.l2, .int .u64 y.l3, .int .u64 y.l4]] w fun e w' => e = .returned (.agg #[.int .u64 y.l0, .int .u64 y.l1, .int .u64 y.l2, .int .u64 y.l3, .int .u64 y.l4]) ∧ Below w.heap.size w w' := by
  obtain ⟨x0, x1, x2, x3, x4⟩ := x
  obtain ⟨y0, y1, y2, y3, y4⟩ := y
  unfold L5.Tm Tame at hx hy
  dsimp only at hx hy ⊢
  have e0 : IntKind.u64.wrap (-0) = 0 := by decide
  have wx0 : Wd x0 := by unfold Wd; omega
  have wy0 : Wd y0 := by unfold Wd; omega
  have a0 := and_zero' x0
  have b0 := andNot_zero y0 wy0
  have c0 := zero_or' y0 wy0
  have wx1 : Wd x1 := by unfold Wd; omega
  have wy1 : Wd y1 := by unfold Wd; omega
  have a1 := and_zero' x1
  have b1 := andNot_zero y1 wy1
  have c1 := zero_or' y1 wy1
  have wx2 : Wd x2 := by unfold Wd; omega
  have wy2 : Wd y2 := by unfold Wd; omega
  have a2 := and_zero' x2
  have b2 := andNot_zero y2 wy2
  have c2 := zero_or' y2 wy2
  have wx3 : Wd x3 := by unfold Wd; omega
  have wy3 : Wd y3 := by unfold Wd; omega
  have a3 := and_zero' x3
  have b3 := andNot_zero y3 wy3
  have c3 := zero_or' y3 wy3
  have wx4 : Wd x4 := by unfold Wd; omega
  have wy4 : Wd y4 := by unfold Wd; omega
  have a4 := and_zero' x4
  have b4 := andNot_zero y4 wy4
  have c4 := zero_or' y4 wy4
  clear hx hy wx0 wx1 wx2 wx3 wx4 wy0 wy1 wy2 wy3 wy4
  go_enter Tryd.func86, Tryd.ntmps86
  go_wp2_with fail
  refine wp_unr 6 ?_
  refine unr_succ ?_
  go_wp2_with fail
  go_region
  go_wp2_with fail
  refine unr_succ ?_
  go_wp2_with fail
  go_region
  go_wp2_with fail
  refine unr_succ ?_
  go_wp2_with fail
  go_region
  go_wp2_with fail
  refine unr_succ ?_
  go_wp2_with fail
  go_region
  go_wp2_with fail
  refine unr_succ ?_
  go_wp2_with fail
  go_region
  go_wp2_with fail
  refine unr_succ ?_
  go_wp2_with fail
  refine bodyPost_ret (v := .agg #[.int .u64 y0, .int .u64 y1, .int .u64 y2, .int .u64 y3, .int .u64 y4]) (by simp [results, Tryd.results86, go_sem]) rfl ⟨rfl, ?_⟩
  (repeat (first | exact Below.refl _ _ | refine Below.drew ?_ | refine below_drewN ?_ _ | refine Below.alloc ?_ (by simp <;> omega) _ | refine Below.setCell ?_ (by simp <;> omega) _))

end Go.Proofs.YtkbiiolkekpkiaaDoor
