/-
  What the broad's two variables, as the program lays them, give a walk; a world in which they are so. Conditions: none beyond those written.
-/
import Derived.Test.YtkkhpjcfojgggaaDoorFrameR
import Derived.Test.YtkkhpjcfojgggaaDoorBrM
import Derived.Test.YtkkhpjcfojgggaaDoorRows
import Derived.LaidMore
import Derived.Stop.Joined
namespace Go.Proofs.YtkkhpjcfojgggaaDoor
open Go.ChangeShapes Go.WideShapes Go.ChangeAt Go.WideMaps Go.WideElems Go.RowKit
set_option linter.unusedVariables false

theorem own6 : ownKnob Tryd.prog.godebug = none := by kernel_rfl
theorem gA6 : Tryd.prog.globalNamed "cleromancy/broad.atFirst" = some 0 := by kernel_rfl
theorem gC6 : Tryd.prog.globalNamed "cleromancy/broad.constants" = some 1 := by kernel_rfl
theorem tA6 : (Tryd.prog.globals[0]?).map (·.type) = some 46 := by kernel_rfl
theorem tC6 : (Tryd.prog.globals[1]?).map (·.type) = some 70 := by kernel_rfl
theorem door_met6 (os : Os) (args : Array Value) : laidMetH Tryd.prog [("cleromancy/broad.atFirst", Rows.laid_cleromancy_broad_atFirst), ("cleromancy/broad.constants", Rows.laid_cleromancy_broad_constants)] ((World.doorLaid Tryd.prog 400 os).forCall (fun _ _ => 0) ⟨#[], args, []⟩).memory :=
  laidMetH_of_parts3 (fuel := 8) (laidMet_of_run' 8 (by kernel_rfl) (by kernel_rfl)) (by kernel_rfl) (by kernel_rfl)
/-- An array of words that reads as these is these. -/
theorem arr_u64 {H : Type} {enc : TypeId × Value → H} {W : World} {b : Nat} {spare : Nat → Bool} {held : Bool} {t : TypeId} {fuel n : Nat} {cs : List Value} {p : List MemPlace} (l : List Nat)
    (ht : Tryd.prog.underlying t = some (.array n 45)) (hn : l.length = n) (h : DataW.trod enc Tryd.prog W b spare held fuel t cs = some (.agg (l.map fun (x : Nat) => .lit (.int .u64 (x : Int))), p)) (j : Nat) (hj : j < n) :
    cs[j]? = some (.int .u64 (l.getD j 0 : Int)) := by
  obtain ⟨xs, m1, rfl, hx1, hlen, hnx, hel⟩ := DataW.trod_array ht h
  have cU : Tryd.prog.cellsOf 45 = 1 := by kernel_rfl
  rw [cU] at hel
  have k := hel j hj
  rw [Nat.mul_one, List.getElem?_eq_getElem (by omega)] at k
  obtain ⟨a, e, d, _⟩ := DataW.trod_int Tryd.underlying45 k
  have hx2 := congrArg Prod.fst hx1
  simp only [DataW.agg.injEq] at hx2
  have hx3 := congrArg (fun l => l[j]?) hx2
  simp only [List.getElem?_map] at hx3
  rw [List.getElem?_eq_getElem (show j < l.length by omega), List.getElem?_eq_getElem (show j < xs.length by omega), d] at hx3
  simp at hx3
  have := congrArg (fun l => l[0]?) e
  simp [List.getElem?_drop] at this
  rw [this, ← hx3]
  simp [List.getD_eq_getElem?_getD, show j < l.length by omega]
theorem of_laid6 {W : World} (h : laidMetH Tryd.prog [("cleromancy/broad.atFirst", Rows.laid_cleromancy_broad_atFirst), ("cleromancy/broad.constants", Rows.laid_cleromancy_broad_constants)] W) : Br.Gl6 W := by
  rw [MakeChecks.laidMetH_plain _ _ _ (by kernel_rfl)] at h
  obtain ⟨ps, ⟨g0, t0, cs0, f0, p0, q0, hg0, ht0, hv0, hd0, ⟨g1, t1, cs1, f1, p1, q1, hg1, ht1, hv1, hd1, _, _⟩, _⟩, _, _⟩ := h
  obtain rfl := Option.some.inj (gA6.symm.trans hg0)
  obtain rfl := Option.some.inj (gC6.symm.trans hg1)
  obtain rfl := Option.some.inj (tA6.symm.trans ht0)
  obtain rfl := Option.some.inj (tC6.symm.trans ht1)
  have k0 := fun j hj => (World.var?_cell hg0 hv0 j).trans ((show cs0[j]? = cs0.toList[j]? by simp).trans (arr_u64 Br.h0.list Tryd.underlying46 rfl hd0 j hj))
  have k1 := fun j hj => (World.var?_cell hg1 hv1 j).trans ((show cs1[j]? = cs1.toList[j]? by simp).trans (arr_u64 Br.kk Tryd.underlying70 rfl hd1 j hj))
  exact ⟨World.block_lt_of_cell? W _ (k1 0 (by omega)), k0, k1⟩
end Go.Proofs.YtkkhpjcfojgggaaDoor
