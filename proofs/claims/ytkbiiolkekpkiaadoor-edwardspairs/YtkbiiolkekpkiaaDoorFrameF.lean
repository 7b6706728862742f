/-
  How an argument that is an element of five words is opened; what the package's variables, as the program lays them, give a walk; a world in which they are so. Conditions: none beyond those written.
-/
import Derived.Test.YtkbiiolkekpkiaaDoorFrame
import Derived.Test.YtkbiiolkekpkiaaDoorFO
import Derived.Test.YtkbiiolkekpkiaaDoorRows
import Derived.LaidMore
import Derived.Stop.Joined
namespace Go.Proofs.YtkbiiolkekpkiaaDoor
open Go.ChangeShapes Go.WideShapes Go.ChangeAt Go.WideMaps Go.WideElems Go.RowKit
set_option linter.unusedVariables false

theorem arr5 {α : Type} {cs : Array α} (h : cs.size = 5) : ∃ c0 c1 c2 c3 c4, cs = #[c0, c1, c2, c3, c4] := by
  obtain ⟨l⟩ := cs
  match l, h with
  | [c0, c1, c2, c3, c4], _ => exact ⟨c0, c1, c2, c3, c4, rfl⟩
set_option maxRecDepth 100000 in
theorem open_fe {H : Type} {enc : TypeId × Value → H} {W : World} {b base : Nat} {r : Reach} {spare : Nat → Bool} {held : Bool} {v : Value} {d : DataW H} {p : List MemPlace}
    (hv : Value.okWide Tryd.prog W r base 26 v) (h : DataW.Trod enc Tryd.prog W b spare held 26 v d p) : ∃ x : L5, x.Wds ∧ v = .agg #[.int .u64 x.l0, .int .u64 x.l1, .int .u64 x.l2, .int .u64 x.l3, .int .u64 x.l4] := by
  unfold Value.okWide at hv
  rw [Tryd.underlying26] at hv
  obtain ⟨cs, rfl, hsz, _⟩ := hv
  obtain ⟨c0, c1, c2, c3, c4, rfl⟩ := arr5 (hsz.trans (by kernel_rfl))
  obtain ⟨fuel, hf⟩ := h
  obtain ⟨xs, n, _, _, _, hl, hx⟩ := DataW.trod_array Tryd.underlying26 hf
  have hc : Tryd.prog.cellsOf 24 = 1 := by kernel_rfl
  have h0 := hx 0 (by omega)
  have h1 := hx 1 (by omega)
  have h2 := hx 2 (by omega)
  have h3 := hx 3 (by omega)
  have h4 := hx 4 (by omega)
  rw [hc] at h0 h1 h2 h3 h4
  rw [List.getElem?_eq_getElem (by omega)] at h0 h1 h2 h3 h4
  simp only [Value.cells, Nat.mul_one, List.drop_zero] at h0 h1 h2 h3 h4
  obtain ⟨a0, e0, _, w0⟩ := DataW.trod_int Tryd.underlying24 h0
  obtain ⟨a1, e1, _, w1⟩ := DataW.trod_int Tryd.underlying24 h1
  obtain ⟨a2, e2, _, w2⟩ := DataW.trod_int Tryd.underlying24 h2
  obtain ⟨a3, e3, _, w3⟩ := DataW.trod_int Tryd.underlying24 h3
  obtain ⟨a4, e4, _, w4⟩ := DataW.trod_int Tryd.underlying24 h4
  simp at e0 e1 e2 e3 e4
  exact ⟨⟨a0, a1, a2, a3, a4⟩, ⟨wd_of_wf w0, wd_of_wf w1, wd_of_wf w2, wd_of_wf w3, wd_of_wf w4⟩, by rw [e0, e1, e2, e3, e4]⟩

theorem u32_of_wf {a : Int} (h : (Lit.int .u32 a).wf = true) : ∃ n : Nat, a = (n : Int) ∧ n < 4294967296 := by
  simp [Lit.wf, IntKind.min, IntKind.max, IntKind.signed, IntKind.bits] at h
  exact ⟨a.toNat, by omega, by omega⟩
theorem i64_of_wf {a : Int} (h : (Lit.int .i64 a).wf = true) : -9223372036854775808 ≤ a ∧ a ≤ 9223372036854775807 := by
  simp [Lit.wf, IntKind.min, IntKind.max, IntKind.signed, IntKind.bits] at h
  exact ⟨by omega, by omega⟩
theorem own4 : ownKnob Tryd.prog.godebug = none := by kernel_rfl
theorem gFour4 : Tryd.prog.globalNamed "cleromancy/field.fourTimes" = some 4 := by kernel_rfl
theorem gRoot4 : Tryd.prog.globalNamed "cleromancy/field.rootOfMinusOne" = some 5 := by kernel_rfl
theorem tFour4 : (Tryd.prog.globals[4]?).map (·.type) = some 26 := by kernel_rfl
theorem tRoot4 : (Tryd.prog.globals[5]?).map (·.type) = some 26 := by kernel_rfl
theorem door_met4 (os : Os) (args : Array Value) : laidMetH Tryd.prog [("cleromancy/field.fourTimes", Rows.laid_cleromancy_field_fourTimes), ("cleromancy/field.rootOfMinusOne", Rows.laid_cleromancy_field_rootOfMinusOne)] ((World.doorLaid Tryd.prog 400 os).forCall (fun _ _ => 0) ⟨#[], args, []⟩).memory :=
  laidMetH_of_parts3 (fuel := 8) (laidMet_of_run' 8 (by kernel_rfl) (by kernel_rfl)) (by kernel_rfl) (by kernel_rfl)
theorem of_laid4 {W : World} (h : laidMetH Tryd.prog [("cleromancy/field.fourTimes", Rows.laid_cleromancy_field_fourTimes), ("cleromancy/field.rootOfMinusOne", Rows.laid_cleromancy_field_rootOfMinusOne)] W) : Gl W := by
  rw [MakeChecks.laidMetH_plain _ _ _ (by kernel_rfl)] at h
  obtain ⟨ps, ⟨g0, t0, cs0, f0, p0, q0, hg0, ht0, hv0, hd0, ⟨g1, t1, cs1, f1, p1, q1, hg1, ht1, hv1, hd1, _, _⟩, _⟩, _, _⟩ := h
  obtain rfl := Option.some.inj (gFour4.symm.trans hg0)
  obtain rfl := Option.some.inj (gRoot4.symm.trans hg1)
  obtain rfl := Option.some.inj (tFour4.symm.trans ht0)
  obtain rfl := Option.some.inj (tRoot4.symm.trans ht1)
  have c0 : (W.cell? ⟨4, 0, none⟩ = some (.int .u64 9007199254740916) ∧ W.cell? ⟨4, 1, none⟩ = some (.int .u64 9007199254740988) ∧ W.cell? ⟨4, 2, none⟩ = some (.int .u64 9007199254740988) ∧ W.cell? ⟨4, 3, none⟩ = some (.int .u64 9007199254740988) ∧ W.cell? ⟨4, 4, none⟩ = some (.int .u64 9007199254740988)) ∧ 4 < W.heap.size := by
    have hc := fun j => World.var?_cell hg0 hv0 j
    obtain ⟨xs, m1, rfl, hx1, hlen, hn5, hel⟩ := DataW.trod_array Tryd.underlying26 hd0
    have cU : Tryd.prog.cellsOf 24 = 1 := by kernel_rfl
    rw [cU] at hel
    have k0 := hel 0 (by decide)
    have k1 := hel 1 (by decide)
    have k2 := hel 2 (by decide)
    have k3 := hel 3 (by decide)
    have k4 := hel 4 (by decide)
    match xs, hn5, hx1, k0, k1, k2, k3, k4 with
    | [x0, x1, x2, x3, x4], _, hx1, k0, k1, k2, k3, k4 =>
      have hx2 := congrArg Prod.fst hx1
      simp only [List.map_cons, List.map_nil] at hx2
      simp only [Nat.mul_one, List.getElem?_cons_zero, List.getElem?_cons_succ] at k0 k1 k2 k3 k4
      obtain ⟨a0, e0, d0, _⟩ := DataW.trod_int Tryd.underlying24 k0
      obtain ⟨a1, e1, d1, _⟩ := DataW.trod_int Tryd.underlying24 k1
      obtain ⟨a2, e2, d2, _⟩ := DataW.trod_int Tryd.underlying24 k2
      obtain ⟨a3, e3, d3, _⟩ := DataW.trod_int Tryd.underlying24 k3
      obtain ⟨a4, e4, d4, _⟩ := DataW.trod_int Tryd.underlying24 k4
      rw [d0, d1, d2, d3, d4] at hx2
      unfold Rows.laid_cleromancy_field_fourTimes at hx2
      simp only [DataW.agg.injEq, List.cons.injEq, DataW.lit.injEq, Lit.int.injEq, true_and, and_true] at hx2
      obtain ⟨rfl, rfl, rfl, rfl, rfl⟩ := hx2
      have t0 : cs0[0]? = some (.int .u64 9007199254740916) := by have := congrArg (fun l => l[0]?) e0; simpa using this
      have t1 : cs0[1]? = some (.int .u64 9007199254740988) := by have := congrArg (fun l => l[0]?) e1; simpa using this
      have t2 : cs0[2]? = some (.int .u64 9007199254740988) := by have := congrArg (fun l => l[0]?) e2; simpa using this
      have t3 : cs0[3]? = some (.int .u64 9007199254740988) := by have := congrArg (fun l => l[0]?) e3; simpa using this
      have t4 : cs0[4]? = some (.int .u64 9007199254740988) := by have := congrArg (fun l => l[0]?) e4; simpa using this
      have z0 := (hc 0).trans t0
      exact ⟨⟨z0, (hc 1).trans t1, (hc 2).trans t2, (hc 3).trans t3, (hc 4).trans t4⟩, World.block_lt_of_cell? W _ z0⟩
  have c1 : (W.cell? ⟨5, 0, none⟩ = some (.int .u64 1718705420411056) ∧ W.cell? ⟨5, 1, none⟩ = some (.int .u64 234908883556509) ∧ W.cell? ⟨5, 2, none⟩ = some (.int .u64 2233514472574048) ∧ W.cell? ⟨5, 3, none⟩ = some (.int .u64 2117202627021982) ∧ W.cell? ⟨5, 4, none⟩ = some (.int .u64 765476049583133)) ∧ 5 < W.heap.size := by
    have hc := fun j => World.var?_cell hg1 hv1 j
    obtain ⟨xs, m1, rfl, hx1, hlen, hn5, hel⟩ := DataW.trod_array Tryd.underlying26 hd1
    have cU : Tryd.prog.cellsOf 24 = 1 := by kernel_rfl
    rw [cU] at hel
    have k0 := hel 0 (by decide)
    have k1 := hel 1 (by decide)
    have k2 := hel 2 (by decide)
    have k3 := hel 3 (by decide)
    have k4 := hel 4 (by decide)
    match xs, hn5, hx1, k0, k1, k2, k3, k4 with
    | [x0, x1, x2, x3, x4], _, hx1, k0, k1, k2, k3, k4 =>
      have hx2 := congrArg Prod.fst hx1
      simp only [List.map_cons, List.map_nil] at hx2
      simp only [Nat.mul_one, List.getElem?_cons_zero, List.getElem?_cons_succ] at k0 k1 k2 k3 k4
      obtain ⟨a0, e0, d0, _⟩ := DataW.trod_int Tryd.underlying24 k0
      obtain ⟨a1, e1, d1, _⟩ := DataW.trod_int Tryd.underlying24 k1
      obtain ⟨a2, e2, d2, _⟩ := DataW.trod_int Tryd.underlying24 k2
      obtain ⟨a3, e3, d3, _⟩ := DataW.trod_int Tryd.underlying24 k3
      obtain ⟨a4, e4, d4, _⟩ := DataW.trod_int Tryd.underlying24 k4
      rw [d0, d1, d2, d3, d4] at hx2
      unfold Rows.laid_cleromancy_field_rootOfMinusOne at hx2
      simp only [DataW.agg.injEq, List.cons.injEq, DataW.lit.injEq, Lit.int.injEq, true_and, and_true] at hx2
      obtain ⟨rfl, rfl, rfl, rfl, rfl⟩ := hx2
      have t0 : cs1[0]? = some (.int .u64 1718705420411056) := by have := congrArg (fun l => l[0]?) e0; simpa using this
      have t1 : cs1[1]? = some (.int .u64 234908883556509) := by have := congrArg (fun l => l[0]?) e1; simpa using this
      have t2 : cs1[2]? = some (.int .u64 2233514472574048) := by have := congrArg (fun l => l[0]?) e2; simpa using this
      have t3 : cs1[3]? = some (.int .u64 2117202627021982) := by have := congrArg (fun l => l[0]?) e3; simpa using this
      have t4 : cs1[4]? = some (.int .u64 765476049583133) := by have := congrArg (fun l => l[0]?) e4; simpa using this
      have z0 := (hc 0).trans t0
      exact ⟨⟨z0, (hc 1).trans t1, (hc 2).trans t2, (hc 3).trans t3, (hc 4).trans t4⟩, World.block_lt_of_cell? W _ z0⟩
  obtain ⟨⟨u0, u1, u2, u3, u4⟩, l0⟩ := c0
  obtain ⟨⟨v0, v1, v2, v3, v4⟩, l1⟩ := c1
  exact ⟨(by first | exact l1 | exact l0), u0, u1, u2, u3, u4, v0, v1, v2, v3, v4⟩
end Go.Proofs.YtkbiiolkekpkiaaDoor
