/-
  The law NonceAgain is proved, with its card: for every input the call returns true, and each argument reads afterwards as it read before, where the package's two variables are as the program's text lays them (the card ties them to that text, in the pruned copy of the project that the seat holds). Conditions: none beyond that.
-/
import Derived.Test.YtlpmbhneffdcfaaDoorFrameG
import Derived.Test.YtlpmbhneffdcfaaDoorTie
import Derived.Test.YtlpmbhneffdcfaaDoorCards
import Derived.Test.YtlpmbhneffdcfaaDoorNaLaw
import Derived.Test.YtlpmbhneffdcfaaDoorFrameM
import Derived.Test.YtlpmbhneffdcfaaDoorRows
namespace Go.Proofs.YtlpmbhneffdcfaaDoor
open Go.ChangeShapes Go.WideShapes Go.ChangeAt Go.RowKit
set_option linter.unusedVariables false

set_option maxRecDepth 100000 in
theorem nonceAgain_lifted (os : Os) (started : os.Started) (H : Type) (enc : TypeId × Value → H) :
    ReturnsInHanded {} Tryd.checked os 4 .any (fun w args => (Rows.nonceAgainSpec.pre enc Tryd.prog Tryd.f4 [] false w args ∧ laidMetH Tryd.prog [("cleromancy/digest.atFirst", Rows.laid_cleromancy_digest_atFirst), ("cleromancy/digest.constants", Rows.laid_cleromancy_digest_constants)] w) ∧ sizedMet enc Tryd.prog Tryd.f4 (OpenSpec.ofChange Rows.nonceAgainSpec) false w args)
      (Rows.nonceAgainSpec.post enc Tryd.prog Tryd.f4 false true false false) := by
  refine returnsInHanded_of_change_and (C := Tryd.checked) (X := fun w _ => laidMetH Tryd.prog [("cleromancy/digest.atFirst", Rows.laid_cleromancy_digest_atFirst), ("cleromancy/digest.constants", Rows.laid_cleromancy_digest_constants)] w) (fun _ _ _ hh h => h.of_heap hh) own5 started (by kernel_rfl) Tryd.func4
    (ChangeSpec.witness_shaped (enc := enc) (C := Tryd.checked) (os := os) (X := fun w _ => laidMetH Tryd.prog [("cleromancy/digest.atFirst", Rows.laid_cleromancy_digest_atFirst), ("cleromancy/digest.constants", Rows.laid_cleromancy_digest_constants)] w) false (World.doorLaid Tryd.prog 400 os) #[.agg #[.int .u64 0, .int .u64 0, .int .u64 0, .int .u64 0], .agg #[.int .u64 0, .int .u64 0, .int .u64 0, .int .u64 0], .slice none 0 0] 8 rfl (World.shaped_of_RefB (by kernel_rfl) (by kernel_rfl)) (by kernel_rfl) (by kernel_rfl) (by kernel_rfl) (door_met5 os _)) ?_
  intro W base args ds gs before hval0 hW _ _ hL _
  have hval : ∀ (j : Nat) t v, Tryd.f4.params[j]? = some t → args[j]? = some v → Value.okWide Tryd.prog W .any base t v := hval0
  have hW' := hW
  obtain ⟨p, q, hA0, hV, rfl, hfz, hnd⟩ := hW
  have hA : DataW.TrodAll enc Tryd.prog W 0 (fun _ => true) true Tryd.f4.params.toList args.toList ds p := hA0
  rw [Tryd.params4] at hA hval
  obtain ⟨v0, vs0, d0, ds0, p0, q0, hargs, rfl, rfl, h0, r0⟩ := trodAll_cons hA
  obtain ⟨v1, vs1, d1, ds1, p1, q1, rfl, rfl, rfl, h1, r1⟩ := trodAll_cons r0
  obtain ⟨v2, vs2, d2, ds2, p2, q2, rfl, rfl, rfl, h2, r2⟩ := trodAll_cons r1
  obtain ⟨rfl, rfl, rfl⟩ := trodAll_nil r2
  obtain rfl : args = #[v0, v1, v2] := by cases args; simp_all
  obtain ⟨rfl, rfl⟩ := trodVars_none hV
  have k0 := h0
  have lt0 : ∀ x ∈ p0, x.block < W.heap.size := by obtain ⟨m, hm⟩ := k0; exact DataW.trod_lt m _ _ _ hm
  have k1 := h1
  have lt1 : ∀ x ∈ p1, x.block < W.heap.size := by obtain ⟨m, hm⟩ := k1; exact DataW.trod_lt m _ _ _ hm
  have k2 := h2
  have lt2 : ∀ x ∈ p2, x.block < W.heap.size := by obtain ⟨m, hm⟩ := k2; exact DataW.trod_lt m _ _ _ hm
  obtain ⟨x0, hx0, rfl⟩ := open_four (hval 0 24 v0 rfl rfl) h0
  obtain ⟨x1, hx1, rfl⟩ := open_four (hval 1 24 v1 rfl rfl) h1
  obtain ⟨l2, hs2, hw2⟩ := open_octets (hval 2 25 v2 rfl rfl) h2
  have hGl := of_laid5 hL
  clear hA0 hval0
  refine (nagain_any x0 x1 hx0 hx1 v2 l2 hw2 W hGl hs2).mono fun e W' ⟨he, bel⟩ => ?_
  subst he
  exact ⟨_, rfl, _, _, _, [], _, [], hW', trodAll_mk1 (shut_bool Tryd.underlying4 _), (trodAll_cons_mk (Below.trod laidOut (by kernel_rfl) (of_decide_eq_true (by kernel_rfl)) k0 bel lt0) (trodAll_cons_mk (Below.trod laidOut (by kernel_rfl) (of_decide_eq_true (by kernel_rfl)) k1 bel lt1) (trodAll_cons_mk (Below.trod laidOut (by kernel_rfl) (of_decide_eq_true (by kernel_rfl)) k2 bel lt2) trodAll_mk0))), rfl, bel.frame _, fun h => by cases h⟩

theorem nonceAgain_row : Rows.NonceAgainSaid :=
  OpenClaim.holds_of_wide 4 Tryd.f4 rfl rfl rfl rfl rfl rfl rfl ⟨rfl, rfl, rfl, rfl, rfl⟩ rfl rfl rfl rfl rfl (by kernel_rfl) Tryd.func4 (by kernel_rfl)
    (of_decide_eq_true (by kernel_rfl)) (by unfold Func.isWrapper; first | (rw [if_pos (by decide +kernel)]; kernel_rfl) | (rw [if_neg (by decide +kernel)]; exact ⟨rfl, rfl⟩))
    (fun os started H enc _ => nonceAgain_lifted os started H enc)
theorem nonceAgain_holds : Rows.NonceAgainCardSaid :=
  Claim7.holds_tied_plain_at .later [] [.data, .data] true (true, "8f27bcf23e62766710258bbd42a8bd21a490dafe7424ec5346603ac6b7e13da3") false
    nonceAgain_row (fun _ h => by cases h) (by kernel_rfl) (fun _ h => by cases h) nonceAgain_row_tie rfl ⟨rfl, rfl⟩ (by kernel_rfl) rfl
    (fun f fn hf hfn => by
      obtain rfl : f = 4 := Option.some.inj ((show Tryd.prog.funcNamed "cleromancy/cleromancylaw08.NonceAgain" = some 4 by kernel_rfl).symm.trans hf) |>.symm
      obtain rfl : fn = Tryd.f4 := (Option.some.inj (Tryd.func4.symm.trans hfn)).symm
      exact ⟨by kernel_rfl, fun j t ht => by
        rw [Tryd.params4] at ht
        have hm : t ∈ ([24, 24, 25] : List TypeId) := by simpa using Array.mem_of_getElem? ht
        have hall : (([24, 24, 25] : List TypeId).all fun u => !Tryd.prog.wantsStandIn u) = true := by kernel_rfl
        exact (show Tryd.prog.wantsStandIn t = false by simpa using List.all_eq_true.1 hall t hm)⟩)
    (by kernel_rfl)

#print axioms nonceAgain_holds
end Go.Proofs.YtlpmbhneffdcfaaDoor
