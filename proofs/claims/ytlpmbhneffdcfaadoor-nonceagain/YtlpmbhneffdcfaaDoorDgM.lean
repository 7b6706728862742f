/-
  The chapter's example: the sum of 'abc', reckoned; the contracts of the law's awake and of the document's own Same; what the call owns, beside a hash that is written to. Conditions: as each theorem says.
-/
import Derived.Test.YtlpmbhneffdcfaaDoorDgJ
import Derived.Laws.AppendOwnNone
namespace Go.Proofs.YtlpmbhneffdcfaaDoor
open Go.RowKit
set_option linter.unusedVariables false
set_option linter.unusedSimpArgs false

theorem abc_sum : sumB [97, 98, 99] = [186, 120, 22, 191, 143, 1, 207, 234, 65, 65, 64, 222, 93, 174, 34, 35, 176, 3, 97, 163, 150, 23, 122, 156, 180, 16, 255, 97, 242, 0, 21, 173] := by decide +kernel

theorem HH.under {n : Nat} {W W' : World} {b : Nat} {m : List Nat} (h : HH W b m) (hb : Below n W W') (hn : b < n) : HH W' b m := by
  obtain ⟨r, h1, h2, h3⟩ := h
  refine ⟨r, h1, h2, ?_⟩
  unfold At at h3 ⊢
  rw [hb.block b hn]; exact h3

end Go.Proofs.YtlpmbhneffdcfaaDoor
