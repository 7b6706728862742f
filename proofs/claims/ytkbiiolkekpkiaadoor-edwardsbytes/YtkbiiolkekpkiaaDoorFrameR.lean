/-
  How an argument that is a slice of slices of bytes is opened. Conditions: none beyond those written.
-/
import Derived.Test.YtkbiiolkekpkiaaDoorFrameN
import Derived.Test.YtkbiiolkekpkiaaDoorGX
import Derived.Deep.Matrix
namespace Go.Proofs.YtkbiiolkekpkiaaDoor
open Go.ChangeShapes Go.WideShapes Go.ChangeAt Go.WideMaps Go.WideElems Go.RowKit
set_option linter.unusedVariables false

set_option maxRecDepth 100000 in
theorem row_sk {W : World} (A : Option Addr) (L C : Nat) (Z : List Int) (h1 : L ≤ C) (h3 : Z.length = C) (h4 : ∀ n ∈ Z, (Lit.int .u8 n).wf = true) (h5 : A = none → C = 0)
    (h6 : ∀ a, A = some a → ∀ c, c < C → W.cell? (a.add c) = some (.int .u8 (Z.getD c 0))) : ∃ l, SK .u8 W (.slice A L C) l ∧ Bb l := by
  have hwf : ∀ n, (Lit.int .u8 n).wf = true → 0 ≤ n ∧ n < ((256 : Nat) : Int) := fun n hn => by
    simp [Lit.wf, IntKind.min, IntKind.max, IntKind.signed, IntKind.bits] at hn
    omega
  have rng := wf_rng hwf Z h4 (by omega)
  have hlen : ((Z.take L).map Int.toNat).length = L := by simp; omega
  have hget : ∀ j, j < L → ((Z.take L).map Int.toNat).getD j 0 = (Z.getD j 0).toNat := by
    intro j hj
    simp [List.getD_eq_getElem?_getD, hj, show j < Z.length by omega]
  refine ⟨(Z.take L).map Int.toNat, ⟨A, C, by rw [hlen], by omega, fun h => ?_, fun j hj => ?_⟩, fun j => ?_⟩
  · have := h5 h
    obtain rfl : L = 0 := by omega
    exact ⟨by simp, this⟩
  · rw [hlen] at hj
    cases A with
    | none => have := h5 rfl; omega
    | some x =>
      have h0 := h6 x rfl 0 (by omega)
      have hj1 := h6 x rfl j (by omega)
      obtain ⟨b, o, sp⟩ := x
      simp only [Addr.add, if_pos] at h0
      obtain ⟨rfl, hb⟩ := cell_plain' h0
      refine ⟨b, o, rfl, hb, ?_⟩
      rw [hget j hj, Int.toNat_of_nonneg (rng j).1]
      rw [Addr.add_mid] at hj1
      exact hj1
  · by_cases hj : j < L
    · rw [hget j hj]
      have := rng j
      omega
    · rw [getD_ge _ _ (by rw [hlen]; omega)]; omega
end Go.Proofs.YtkbiiolkekpkiaaDoor
