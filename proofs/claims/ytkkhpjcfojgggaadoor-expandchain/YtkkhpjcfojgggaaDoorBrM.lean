/-
  The chapter's example: the sum of 'abc', reckoned; the contracts of the law's awake and of the document's own Same; what the call owns, beside a hash that is written to. Conditions: as each theorem says.
-/
import Derived.Test.YtkkhpjcfojgggaaDoorBrJ
import Derived.Laws.AppendOwnNone
namespace Go.Proofs.YtkkhpjcfojgggaaDoor.Br
open Go.RowKit
set_option linter.unusedVariables false
set_option linter.unusedSimpArgs false

theorem abc_sum : sumB [97, 98, 99] = [221, 175, 53, 161, 147, 97, 122, 186, 204, 65, 115, 73, 174, 32, 65, 49, 18, 230, 250, 78, 137, 169, 126, 162, 10, 158, 238, 230, 75, 85, 211, 154, 33, 146, 153, 42, 39, 79, 193, 168, 54, 186, 60, 35, 163, 254, 235, 189, 69, 77, 68, 35, 100, 60, 232, 14, 42, 154, 201, 79, 165, 76, 164, 159] := by decide +kernel
theorem HH.under {n : Nat} {W W' : World} {b : Nat} {m : List Nat} (h : HH W b m) (hb : Below n W W') (hn : b < n) : HH W' b m := by
  obtain ⟨r, h1, h2, h3⟩ := h
  refine ⟨r, h1, h2, ?_⟩
  unfold At at h3 ⊢
  rw [hb.block b hn]; exact h3

end Go.Proofs.YtkkhpjcfojgggaaDoor.Br
