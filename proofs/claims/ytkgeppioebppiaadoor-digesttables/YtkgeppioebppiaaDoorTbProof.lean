/-
  The law DigestTables is proved, with its card: for every input the call returns true, and each argument reads afterwards as it read before, where the package's two variables are as the program's text lays them (the card ties them to that text, in the pruned copy of the project that the seat holds). Conditions: none beyond that.
-/
import Derived.Test.YtkgeppioebppiaaDoorFrameG
import Derived.Test.YtkgeppioebppiaaDoorTie
import Derived.Test.YtkgeppioebppiaaDoorCards
import Derived.Test.YtkgeppioebppiaaDoorTbLaw
import Derived.Test.YtkgeppioebppiaaDoorRows
namespace Go.Proofs.YtkgeppioebppiaaDoor
open Go.ChangeShapes Go.WideShapes Go.ChangeAt Go.RowKit
set_option linter.unusedVariables false

set_option maxRecDepth 100000 in
theorem digestTables_lifted (os : Os) (started : os.Started) (H : Type) (enc : TypeId × Value → H) :
    ReturnsInHanded {} Tryd.checked os 4 .any (fun w args => (Rows.digestTablesSpec.pre enc Tryd.prog Tryd.f4 [] false w args ∧ laidMetH Tryd.prog [("cleromancy/digest.atFirst", Rows.laid_cleromancy_digest_atFirst), ("cleromancy/digest.constants", Rows.laid_cleromancy_digest_constants)] w) ∧ sizedMet enc Tryd.prog Tryd.f4 (OpenSpec.ofChange Rows.digestTablesSpec) false w args)
      (Rows.digestTablesSpec.post enc Tryd.prog Tryd.f4 false true false false) := by
  refine returnsInHanded_of_change_and (C := Tryd.checked) (X := fun w _ => laidMetH Tryd.prog [("cleromancy/digest.atFirst", Rows.laid_cleromancy_digest_atFirst), ("cleromancy/digest.constants", Rows.laid_cleromancy_digest_constants)] w) (fun _ _ _ hh h => h.of_heap hh) own5 started (by kernel_rfl) Tryd.func4
    (ChangeSpec.witness_shaped (enc := enc) (C := Tryd.checked) (os := os) (X := fun w _ => laidMetH Tryd.prog [("cleromancy/digest.atFirst", Rows.laid_cleromancy_digest_atFirst), ("cleromancy/digest.constants", Rows.laid_cleromancy_digest_constants)] w) false (World.doorLaid Tryd.prog 400 os) #[] 8 rfl (World.shaped_of_RefB (by kernel_rfl) (by kernel_rfl)) (by kernel_rfl) (by kernel_rfl) (by kernel_rfl) (door_met5 os _)) ?_
  intro W base args ds gs before hval0 hW _ _ hL _
  have hval : ∀ (j : Nat) t v, Tryd.f4.params[j]? = some t → args[j]? = some v → Value.okWide Tryd.prog W .any base t v := hval0
  have hW' := hW
  obtain ⟨p, q, hA0, hV, rfl, hfz, hnd⟩ := hW
  have hA : DataW.TrodAll enc Tryd.prog W 0 (fun _ => true) true Tryd.f4.params.toList args.toList ds p := hA0
  rw [Tryd.params4] at hA hval
  obtain ⟨hargs, rfl, rfl⟩ := trodAll_nil hA
  obtain rfl : args = #[] := by cases args; simp_all
  obtain ⟨rfl, rfl⟩ := trodVars_none hV
  have hGl := of_laid5 hL
  clear hA0 hval0
  refine (tables_any W hGl).mono fun e W' ⟨he, bel⟩ => ?_
  subst he
  exact ⟨_, rfl, _, _, _, [], _, [], hW', trodAll_mk1 (shut_bool Tryd.underlying4 _), trodAll_mk0, rfl, bel.frame _, fun h => by cases h⟩

theorem digestTables_row : Rows.DigestTablesSaid :=
  OpenClaim.holds_of_wide 4 Tryd.f4 rfl rfl rfl rfl rfl rfl rfl ⟨rfl, rfl, rfl, rfl, rfl⟩ rfl rfl rfl rfl rfl (by kernel_rfl) Tryd.func4 (by kernel_rfl)
    (of_decide_eq_true (by kernel_rfl)) (by unfold Func.isWrapper; first | (rw [if_pos (by decide +kernel)]; kernel_rfl) | (rw [if_neg (by decide +kernel)]; exact ⟨rfl, rfl⟩))
    (fun os started H enc _ => digestTables_lifted os started H enc)
theorem digestTables_holds : Rows.DigestTablesCardSaid :=
  Claim7.holds_tied_plain_at .later [] [.data, .data] true (true, "7aa9a75d80300f00b99ff77da87fb6c1a89e53a6bd141bb3b4fd966533fba4ca") false
    digestTables_row (fun _ h => by cases h) (by kernel_rfl) (fun _ h => by cases h) digestTables_row_tie rfl ⟨rfl, rfl⟩ (by kernel_rfl) rfl
    (fun f fn hf hfn => by
      obtain rfl : f = 4 := Option.some.inj ((show Tryd.prog.funcNamed "cleromancy/cleromancylaw05.DigestTables" = some 4 by kernel_rfl).symm.trans hf) |>.symm
      obtain rfl : fn = Tryd.f4 := (Option.some.inj (Tryd.func4.symm.trans hfn)).symm
      exact ⟨by kernel_rfl, fun j t ht => by
        rw [Tryd.params4] at ht
        have hm : t ∈ ([] : List TypeId) := by simpa using Array.mem_of_getElem? ht
        have hall : (([] : List TypeId).all fun u => !Tryd.prog.wantsStandIn u) = true := by kernel_rfl
        exact (show Tryd.prog.wantsStandIn t = false by simpa using List.all_eq_true.1 hall t hm)⟩)
    (by kernel_rfl)

#print axioms digestTables_holds
end Go.Proofs.YtkgeppioebppiaaDoor
