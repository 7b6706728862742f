/-
  What the package's variables, as the program lays them, give a walk of layer 10; a world in which they are so. Conditions: none beyond those written.
-/
import Derived.Test.YtkbiiolkekpkiaaDoorFrameN
import Derived.Test.YtkbiiolkekpkiaaDoorRows
import Derived.LaidMore
import Derived.Stop.Joined
import Derived.Test.YtkbiiolkekpkiaaDoorEgA
namespace Go.Proofs.YtkbiiolkekpkiaaDoor
open Go.ChangeShapes Go.WideShapes Go.ChangeAt Go.WideMaps Go.WideElems Go.RowKit
set_option linter.unusedVariables false

theorem gn_fourTimes : Tryd.prog.globalNamed "cleromancy/field.fourTimes" = some 4 := by kernel_rfl
theorem gt_fourTimes : (Tryd.prog.globals[4]?).map (·.type) = some 26 := by kernel_rfl
theorem gn_rootOfMinusOne : Tryd.prog.globalNamed "cleromancy/field.rootOfMinusOne" = some 5 := by kernel_rfl
theorem gt_rootOfMinusOne : (Tryd.prog.globals[5]?).map (·.type) = some 26 := by kernel_rfl
theorem gn_d : Tryd.prog.globalNamed "cleromancy/edwards.d" = some 0 := by kernel_rfl
theorem gt_d : (Tryd.prog.globals[0]?).map (·.type) = some 26 := by kernel_rfl
theorem gn_twiceD : Tryd.prog.globalNamed "cleromancy/edwards.twiceD" = some 1 := by kernel_rfl
theorem gt_twiceD : (Tryd.prog.globals[1]?).map (·.type) = some 26 := by kernel_rfl
theorem gn_baseX : Tryd.prog.globalNamed "cleromancy/edwards.baseX" = some 2 := by kernel_rfl
theorem gt_baseX : (Tryd.prog.globals[2]?).map (·.type) = some 26 := by kernel_rfl
theorem gn_baseY : Tryd.prog.globalNamed "cleromancy/edwards.baseY" = some 3 := by kernel_rfl
theorem gt_baseY : (Tryd.prog.globals[3]?).map (·.type) = some 26 := by kernel_rfl
theorem own10 : ownKnob Tryd.prog.godebug = none := by kernel_rfl
theorem door_met10 (os : Os) (args : Array Value) : laidMetH Tryd.prog [("cleromancy/field.fourTimes", Rows.laid_cleromancy_field_fourTimes), ("cleromancy/field.rootOfMinusOne", Rows.laid_cleromancy_field_rootOfMinusOne), ("cleromancy/edwards.d", Rows.laid_cleromancy_edwards_d), ("cleromancy/edwards.twiceD", Rows.laid_cleromancy_edwards_twiceD), ("cleromancy/edwards.baseX", Rows.laid_cleromancy_edwards_baseX), ("cleromancy/edwards.baseY", Rows.laid_cleromancy_edwards_baseY)] ((World.doorLaid Tryd.prog 400 os).forCall (fun _ _ => 0) ⟨#[], args, []⟩).memory :=
  laidMetH_of_parts3 (fuel := 8) (laidMet_of_run' 8 (by kernel_rfl) (by kernel_rfl)) (by kernel_rfl) (by kernel_rfl)
theorem of_laid10 {W : World} (h : laidMetH Tryd.prog [("cleromancy/field.fourTimes", Rows.laid_cleromancy_field_fourTimes), ("cleromancy/field.rootOfMinusOne", Rows.laid_cleromancy_field_rootOfMinusOne), ("cleromancy/edwards.d", Rows.laid_cleromancy_edwards_d), ("cleromancy/edwards.twiceD", Rows.laid_cleromancy_edwards_twiceD), ("cleromancy/edwards.baseX", Rows.laid_cleromancy_edwards_baseX), ("cleromancy/edwards.baseY", Rows.laid_cleromancy_edwards_baseY)] W) : Gl W ∧ Ed.Gd W ∧ Ed.GtwiceD W ∧ Ed.GbaseX W ∧ Ed.GbaseY W := by
  rw [MakeChecks.laidMetH_plain _ _ _ (by kernel_rfl)] at h
  obtain ⟨ps, ⟨g0, t0, cs0, f0, p0, q0, hg0, ht0, hv0, hd0, ⟨g1, t1, cs1, f1, p1, q1, hg1, ht1, hv1, hd1, ⟨g2, t2, cs2, f2, p2, q2, hg2, ht2, hv2, hd2, ⟨g3, t3, cs3, f3, p3, q3, hg3, ht3, hv3, hd3, ⟨g4, t4, cs4, f4, p4, q4, hg4, ht4, hv4, hd4, ⟨g5, t5, cs5, f5, p5, q5, hg5, ht5, hv5, hd5, _, _⟩, _⟩, _⟩, _⟩, _⟩, _⟩, _, _⟩ := h
  obtain rfl := Option.some.inj (gn_fourTimes.symm.trans hg0)
  obtain rfl := Option.some.inj (gn_rootOfMinusOne.symm.trans hg1)
  obtain rfl := Option.some.inj (gn_d.symm.trans hg2)
  obtain rfl := Option.some.inj (gn_twiceD.symm.trans hg3)
  obtain rfl := Option.some.inj (gn_baseX.symm.trans hg4)
  obtain rfl := Option.some.inj (gn_baseY.symm.trans hg5)
  obtain rfl := Option.some.inj (gt_fourTimes.symm.trans ht0)
  obtain rfl := Option.some.inj (gt_rootOfMinusOne.symm.trans ht1)
  obtain rfl := Option.some.inj (gt_d.symm.trans ht2)
  obtain rfl := Option.some.inj (gt_twiceD.symm.trans ht3)
  obtain rfl := Option.some.inj (gt_baseX.symm.trans ht4)
  obtain rfl := Option.some.inj (gt_baseY.symm.trans ht5)
  have c0 : (W.cell? ⟨4, 0, none⟩ = some (.int .u64 9007199254740916) ∧ W.cell? ⟨4, 1, none⟩ = some (.int .u64 9007199254740988) ∧ W.cell? ⟨4, 2, none⟩ = some (.int .u64 9007199254740988) ∧ W.cell? ⟨4, 3, none⟩ = some (.int .u64 9007199254740988) ∧ W.cell? ⟨4, 4, none⟩ = some (.int .u64 9007199254740988)) ∧ 4 < W.heap.size := by
    have hc := fun j => World.var?_cell hg0 hv0 j
    obtain ⟨xs, m1, rfl, hx1, hlen, hn5, hel⟩ := DataW.trod_array Tryd.underlying26 hd0
    have cU : Tryd.prog.cellsOf 24 = 1 := by kernel_rfl
    rw [cU] at hel
    have k0 := hel 0 (by decide)
    have k1 := hel 1 (by decide)
    have k2 := hel 2 (by decide)
    have k3 := hel 3 (by decide)
    have k4 := hel 4 (by decide)
    match xs, hn5, hx1, k0, k1, k2, k3, k4 with
    | [x0, x1, x2, x3, x4], _, hx1, k0, k1, k2, k3, k4 =>
      have hx2 := congrArg Prod.fst hx1
      simp only [List.map_cons, List.map_nil] at hx2
      simp only [Nat.mul_one, List.getElem?_cons_zero, List.getElem?_cons_succ] at k0 k1 k2 k3 k4
      obtain ⟨a0, e0, d0, _⟩ := DataW.trod_int Tryd.underlying24 k0
      obtain ⟨a1, e1, d1, _⟩ := DataW.trod_int Tryd.underlying24 k1
      obtain ⟨a2, e2, d2, _⟩ := DataW.trod_int Tryd.underlying24 k2
      obtain ⟨a3, e3, d3, _⟩ := DataW.trod_int Tryd.underlying24 k3
      obtain ⟨a4, e4, d4, _⟩ := DataW.trod_int Tryd.underlying24 k4
      rw [d0, d1, d2, d3, d4] at hx2
      unfold Rows.laid_cleromancy_field_fourTimes at hx2
      simp only [DataW.agg.injEq, List.cons.injEq, DataW.lit.injEq, Lit.int.injEq, true_and, and_true] at hx2
      obtain ⟨rfl, rfl, rfl, rfl, rfl⟩ := hx2
      have t0 : cs0[0]? = some (.int .u64 9007199254740916) := by have := congrArg (fun l => l[0]?) e0; simpa using this
      have t1 : cs0[1]? = some (.int .u64 9007199254740988) := by have := congrArg (fun l => l[0]?) e1; simpa using this
      have t2 : cs0[2]? = some (.int .u64 9007199254740988) := by have := congrArg (fun l => l[0]?) e2; simpa using this
      have t3 : cs0[3]? = some (.int .u64 9007199254740988) := by have := congrArg (fun l => l[0]?) e3; simpa using this
      have t4 : cs0[4]? = some (.int .u64 9007199254740988) := by have := congrArg (fun l => l[0]?) e4; simpa using this
      have z0 := (hc 0).trans t0
      exact ⟨⟨z0, (hc 1).trans t1, (hc 2).trans t2, (hc 3).trans t3, (hc 4).trans t4⟩, World.block_lt_of_cell? W _ z0⟩
  have c1 : (W.cell? ⟨5, 0, none⟩ = some (.int .u64 1718705420411056) ∧ W.cell? ⟨5, 1, none⟩ = some (.int .u64 234908883556509) ∧ W.cell? ⟨5, 2, none⟩ = some (.int .u64 2233514472574048) ∧ W.cell? ⟨5, 3, none⟩ = some (.int .u64 2117202627021982) ∧ W.cell? ⟨5, 4, none⟩ = some (.int .u64 765476049583133)) ∧ 5 < W.heap.size := by
    have hc := fun j => World.var?_cell hg1 hv1 j
    obtain ⟨xs, m1, rfl, hx1, hlen, hn5, hel⟩ := DataW.trod_array Tryd.underlying26 hd1
    have cU : Tryd.prog.cellsOf 24 = 1 := by kernel_rfl
    rw [cU] at hel
    have k0 := hel 0 (by decide)
    have k1 := hel 1 (by decide)
    have k2 := hel 2 (by decide)
    have k3 := hel 3 (by decide)
    have k4 := hel 4 (by decide)
    match xs, hn5, hx1, k0, k1, k2, k3, k4 with
    | [x0, x1, x2, x3, x4], _, hx1, k0, k1, k2, k3, k4 =>
      have hx2 := congrArg Prod.fst hx1
      simp only [List.map_cons, List.map_nil] at hx2
      simp only [Nat.mul_one, List.getElem?_cons_zero, List.getElem?_cons_succ] at k0 k1 k2 k3 k4
      obtain ⟨a0, e0, d0, _⟩ := DataW.trod_int Tryd.underlying24 k0
      obtain ⟨a1, e1, d1, _⟩ := DataW.trod_int Tryd.underlying24 k1
      obtain ⟨a2, e2, d2, _⟩ := DataW.trod_int Tryd.underlying24 k2
      obtain ⟨a3, e3, d3, _⟩ := DataW.trod_int Tryd.underlying24 k3
      obtain ⟨a4, e4, d4, _⟩ := DataW.trod_int Tryd.underlying24 k4
      rw [d0, d1, d2, d3, d4] at hx2
      unfold Rows.laid_cleromancy_field_rootOfMinusOne at hx2
      simp only [DataW.agg.injEq, List.cons.injEq, DataW.lit.injEq, Lit.int.injEq, true_and, and_true] at hx2
      obtain ⟨rfl, rfl, rfl, rfl, rfl⟩ := hx2
      have t0 : cs1[0]? = some (.int .u64 1718705420411056) := by have := congrArg (fun l => l[0]?) e0; simpa using this
      have t1 : cs1[1]? = some (.int .u64 234908883556509) := by have := congrArg (fun l => l[0]?) e1; simpa using this
      have t2 : cs1[2]? = some (.int .u64 2233514472574048) := by have := congrArg (fun l => l[0]?) e2; simpa using this
      have t3 : cs1[3]? = some (.int .u64 2117202627021982) := by have := congrArg (fun l => l[0]?) e3; simpa using this
      have t4 : cs1[4]? = some (.int .u64 765476049583133) := by have := congrArg (fun l => l[0]?) e4; simpa using this
      have z0 := (hc 0).trans t0
      exact ⟨⟨z0, (hc 1).trans t1, (hc 2).trans t2, (hc 3).trans t3, (hc 4).trans t4⟩, World.block_lt_of_cell? W _ z0⟩
  have c2 : (W.cell? ⟨0, 0, none⟩ = some (.int .u64 929955233495203) ∧ W.cell? ⟨0, 1, none⟩ = some (.int .u64 466365720129213) ∧ W.cell? ⟨0, 2, none⟩ = some (.int .u64 1662059464998953) ∧ W.cell? ⟨0, 3, none⟩ = some (.int .u64 2033849074728123) ∧ W.cell? ⟨0, 4, none⟩ = some (.int .u64 1442794654840575)) ∧ 0 < W.heap.size := by
    have hc := fun j => World.var?_cell hg2 hv2 j
    obtain ⟨xs, m1, rfl, hx1, hlen, hn5, hel⟩ := DataW.trod_array Tryd.underlying26 hd2
    have cU : Tryd.prog.cellsOf 24 = 1 := by kernel_rfl
    rw [cU] at hel
    have k0 := hel 0 (by decide)
    have k1 := hel 1 (by decide)
    have k2 := hel 2 (by decide)
    have k3 := hel 3 (by decide)
    have k4 := hel 4 (by decide)
    match xs, hn5, hx1, k0, k1, k2, k3, k4 with
    | [x0, x1, x2, x3, x4], _, hx1, k0, k1, k2, k3, k4 =>
      have hx2 := congrArg Prod.fst hx1
      simp only [List.map_cons, List.map_nil] at hx2
      simp only [Nat.mul_one, List.getElem?_cons_zero, List.getElem?_cons_succ] at k0 k1 k2 k3 k4
      obtain ⟨a0, e0, d0, _⟩ := DataW.trod_int Tryd.underlying24 k0
      obtain ⟨a1, e1, d1, _⟩ := DataW.trod_int Tryd.underlying24 k1
      obtain ⟨a2, e2, d2, _⟩ := DataW.trod_int Tryd.underlying24 k2
      obtain ⟨a3, e3, d3, _⟩ := DataW.trod_int Tryd.underlying24 k3
      obtain ⟨a4, e4, d4, _⟩ := DataW.trod_int Tryd.underlying24 k4
      rw [d0, d1, d2, d3, d4] at hx2
      unfold Rows.laid_cleromancy_edwards_d at hx2
      simp only [DataW.agg.injEq, List.cons.injEq, DataW.lit.injEq, Lit.int.injEq, true_and, and_true] at hx2
      obtain ⟨rfl, rfl, rfl, rfl, rfl⟩ := hx2
      have t0 : cs2[0]? = some (.int .u64 929955233495203) := by have := congrArg (fun l => l[0]?) e0; simpa using this
      have t1 : cs2[1]? = some (.int .u64 466365720129213) := by have := congrArg (fun l => l[0]?) e1; simpa using this
      have t2 : cs2[2]? = some (.int .u64 1662059464998953) := by have := congrArg (fun l => l[0]?) e2; simpa using this
      have t3 : cs2[3]? = some (.int .u64 2033849074728123) := by have := congrArg (fun l => l[0]?) e3; simpa using this
      have t4 : cs2[4]? = some (.int .u64 1442794654840575) := by have := congrArg (fun l => l[0]?) e4; simpa using this
      have z0 := (hc 0).trans t0
      exact ⟨⟨z0, (hc 1).trans t1, (hc 2).trans t2, (hc 3).trans t3, (hc 4).trans t4⟩, World.block_lt_of_cell? W _ z0⟩
  have c3 : (W.cell? ⟨1, 0, none⟩ = some (.int .u64 1859910466990425) ∧ W.cell? ⟨1, 1, none⟩ = some (.int .u64 932731440258426) ∧ W.cell? ⟨1, 2, none⟩ = some (.int .u64 1072319116312658) ∧ W.cell? ⟨1, 3, none⟩ = some (.int .u64 1815898335770999) ∧ W.cell? ⟨1, 4, none⟩ = some (.int .u64 633789495995903)) ∧ 1 < W.heap.size := by
    have hc := fun j => World.var?_cell hg3 hv3 j
    obtain ⟨xs, m1, rfl, hx1, hlen, hn5, hel⟩ := DataW.trod_array Tryd.underlying26 hd3
    have cU : Tryd.prog.cellsOf 24 = 1 := by kernel_rfl
    rw [cU] at hel
    have k0 := hel 0 (by decide)
    have k1 := hel 1 (by decide)
    have k2 := hel 2 (by decide)
    have k3 := hel 3 (by decide)
    have k4 := hel 4 (by decide)
    match xs, hn5, hx1, k0, k1, k2, k3, k4 with
    | [x0, x1, x2, x3, x4], _, hx1, k0, k1, k2, k3, k4 =>
      have hx2 := congrArg Prod.fst hx1
      simp only [List.map_cons, List.map_nil] at hx2
      simp only [Nat.mul_one, List.getElem?_cons_zero, List.getElem?_cons_succ] at k0 k1 k2 k3 k4
      obtain ⟨a0, e0, d0, _⟩ := DataW.trod_int Tryd.underlying24 k0
      obtain ⟨a1, e1, d1, _⟩ := DataW.trod_int Tryd.underlying24 k1
      obtain ⟨a2, e2, d2, _⟩ := DataW.trod_int Tryd.underlying24 k2
      obtain ⟨a3, e3, d3, _⟩ := DataW.trod_int Tryd.underlying24 k3
      obtain ⟨a4, e4, d4, _⟩ := DataW.trod_int Tryd.underlying24 k4
      rw [d0, d1, d2, d3, d4] at hx2
      unfold Rows.laid_cleromancy_edwards_twiceD at hx2
      simp only [DataW.agg.injEq, List.cons.injEq, DataW.lit.injEq, Lit.int.injEq, true_and, and_true] at hx2
      obtain ⟨rfl, rfl, rfl, rfl, rfl⟩ := hx2
      have t0 : cs3[0]? = some (.int .u64 1859910466990425) := by have := congrArg (fun l => l[0]?) e0; simpa using this
      have t1 : cs3[1]? = some (.int .u64 932731440258426) := by have := congrArg (fun l => l[0]?) e1; simpa using this
      have t2 : cs3[2]? = some (.int .u64 1072319116312658) := by have := congrArg (fun l => l[0]?) e2; simpa using this
      have t3 : cs3[3]? = some (.int .u64 1815898335770999) := by have := congrArg (fun l => l[0]?) e3; simpa using this
      have t4 : cs3[4]? = some (.int .u64 633789495995903) := by have := congrArg (fun l => l[0]?) e4; simpa using this
      have z0 := (hc 0).trans t0
      exact ⟨⟨z0, (hc 1).trans t1, (hc 2).trans t2, (hc 3).trans t3, (hc 4).trans t4⟩, World.block_lt_of_cell? W _ z0⟩
  have c4 : (W.cell? ⟨2, 0, none⟩ = some (.int .u64 1738742601995546) ∧ W.cell? ⟨2, 1, none⟩ = some (.int .u64 1146398526822698) ∧ W.cell? ⟨2, 2, none⟩ = some (.int .u64 2070867633025821) ∧ W.cell? ⟨2, 3, none⟩ = some (.int .u64 562264141797630) ∧ W.cell? ⟨2, 4, none⟩ = some (.int .u64 587772402128613)) ∧ 2 < W.heap.size := by
    have hc := fun j => World.var?_cell hg4 hv4 j
    obtain ⟨xs, m1, rfl, hx1, hlen, hn5, hel⟩ := DataW.trod_array Tryd.underlying26 hd4
    have cU : Tryd.prog.cellsOf 24 = 1 := by kernel_rfl
    rw [cU] at hel
    have k0 := hel 0 (by decide)
    have k1 := hel 1 (by decide)
    have k2 := hel 2 (by decide)
    have k3 := hel 3 (by decide)
    have k4 := hel 4 (by decide)
    match xs, hn5, hx1, k0, k1, k2, k3, k4 with
    | [x0, x1, x2, x3, x4], _, hx1, k0, k1, k2, k3, k4 =>
      have hx2 := congrArg Prod.fst hx1
      simp only [List.map_cons, List.map_nil] at hx2
      simp only [Nat.mul_one, List.getElem?_cons_zero, List.getElem?_cons_succ] at k0 k1 k2 k3 k4
      obtain ⟨a0, e0, d0, _⟩ := DataW.trod_int Tryd.underlying24 k0
      obtain ⟨a1, e1, d1, _⟩ := DataW.trod_int Tryd.underlying24 k1
      obtain ⟨a2, e2, d2, _⟩ := DataW.trod_int Tryd.underlying24 k2
      obtain ⟨a3, e3, d3, _⟩ := DataW.trod_int Tryd.underlying24 k3
      obtain ⟨a4, e4, d4, _⟩ := DataW.trod_int Tryd.underlying24 k4
      rw [d0, d1, d2, d3, d4] at hx2
      unfold Rows.laid_cleromancy_edwards_baseX at hx2
      simp only [DataW.agg.injEq, List.cons.injEq, DataW.lit.injEq, Lit.int.injEq, true_and, and_true] at hx2
      obtain ⟨rfl, rfl, rfl, rfl, rfl⟩ := hx2
      have t0 : cs4[0]? = some (.int .u64 1738742601995546) := by have := congrArg (fun l => l[0]?) e0; simpa using this
      have t1 : cs4[1]? = some (.int .u64 1146398526822698) := by have := congrArg (fun l => l[0]?) e1; simpa using this
      have t2 : cs4[2]? = some (.int .u64 2070867633025821) := by have := congrArg (fun l => l[0]?) e2; simpa using this
      have t3 : cs4[3]? = some (.int .u64 562264141797630) := by have := congrArg (fun l => l[0]?) e3; simpa using this
      have t4 : cs4[4]? = some (.int .u64 587772402128613) := by have := congrArg (fun l => l[0]?) e4; simpa using this
      have z0 := (hc 0).trans t0
      exact ⟨⟨z0, (hc 1).trans t1, (hc 2).trans t2, (hc 3).trans t3, (hc 4).trans t4⟩, World.block_lt_of_cell? W _ z0⟩
  have c5 : (W.cell? ⟨3, 0, none⟩ = some (.int .u64 1801439850948184) ∧ W.cell? ⟨3, 1, none⟩ = some (.int .u64 1351079888211148) ∧ W.cell? ⟨3, 2, none⟩ = some (.int .u64 450359962737049) ∧ W.cell? ⟨3, 3, none⟩ = some (.int .u64 900719925474099) ∧ W.cell? ⟨3, 4, none⟩ = some (.int .u64 1801439850948198)) ∧ 3 < W.heap.size := by
    have hc := fun j => World.var?_cell hg5 hv5 j
    obtain ⟨xs, m1, rfl, hx1, hlen, hn5, hel⟩ := DataW.trod_array Tryd.underlying26 hd5
    have cU : Tryd.prog.cellsOf 24 = 1 := by kernel_rfl
    rw [cU] at hel
    have k0 := hel 0 (by decide)
    have k1 := hel 1 (by decide)
    have k2 := hel 2 (by decide)
    have k3 := hel 3 (by decide)
    have k4 := hel 4 (by decide)
    match xs, hn5, hx1, k0, k1, k2, k3, k4 with
    | [x0, x1, x2, x3, x4], _, hx1, k0, k1, k2, k3, k4 =>
      have hx2 := congrArg Prod.fst hx1
      simp only [List.map_cons, List.map_nil] at hx2
      simp only [Nat.mul_one, List.getElem?_cons_zero, List.getElem?_cons_succ] at k0 k1 k2 k3 k4
      obtain ⟨a0, e0, d0, _⟩ := DataW.trod_int Tryd.underlying24 k0
      obtain ⟨a1, e1, d1, _⟩ := DataW.trod_int Tryd.underlying24 k1
      obtain ⟨a2, e2, d2, _⟩ := DataW.trod_int Tryd.underlying24 k2
      obtain ⟨a3, e3, d3, _⟩ := DataW.trod_int Tryd.underlying24 k3
      obtain ⟨a4, e4, d4, _⟩ := DataW.trod_int Tryd.underlying24 k4
      rw [d0, d1, d2, d3, d4] at hx2
      unfold Rows.laid_cleromancy_edwards_baseY at hx2
      simp only [DataW.agg.injEq, List.cons.injEq, DataW.lit.injEq, Lit.int.injEq, true_and, and_true] at hx2
      obtain ⟨rfl, rfl, rfl, rfl, rfl⟩ := hx2
      have t0 : cs5[0]? = some (.int .u64 1801439850948184) := by have := congrArg (fun l => l[0]?) e0; simpa using this
      have t1 : cs5[1]? = some (.int .u64 1351079888211148) := by have := congrArg (fun l => l[0]?) e1; simpa using this
      have t2 : cs5[2]? = some (.int .u64 450359962737049) := by have := congrArg (fun l => l[0]?) e2; simpa using this
      have t3 : cs5[3]? = some (.int .u64 900719925474099) := by have := congrArg (fun l => l[0]?) e3; simpa using this
      have t4 : cs5[4]? = some (.int .u64 1801439850948198) := by have := congrArg (fun l => l[0]?) e4; simpa using this
      have z0 := (hc 0).trans t0
      exact ⟨⟨z0, (hc 1).trans t1, (hc 2).trans t2, (hc 3).trans t3, (hc 4).trans t4⟩, World.block_lt_of_cell? W _ z0⟩
  obtain ⟨⟨u00, u01, u02, u03, u04⟩, l0⟩ := c0
  obtain ⟨⟨u10, u11, u12, u13, u14⟩, l1⟩ := c1
  obtain ⟨⟨u20, u21, u22, u23, u24⟩, l2⟩ := c2
  obtain ⟨⟨u30, u31, u32, u33, u34⟩, l3⟩ := c3
  obtain ⟨⟨u40, u41, u42, u43, u44⟩, l4⟩ := c4
  obtain ⟨⟨u50, u51, u52, u53, u54⟩, l5⟩ := c5
  exact ⟨⟨(by first | exact l1 | exact l0), u00, u01, u02, u03, u04, u10, u11, u12, u13, u14⟩, ⟨l2, u20, u21, u22, u23, u24⟩, ⟨l3, u30, u31, u32, u33, u34⟩, ⟨l4, u40, u41, u42, u43, u44⟩, ⟨l5, u50, u51, u52, u53, u54⟩⟩
end Go.Proofs.YtkbiiolkekpkiaaDoor
