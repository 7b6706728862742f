/-
  The contract of the document's own Div: quotient and rest. Conditions: as each theorem says.
-/
import Derived.Test.YtkbiiolkekpkiaaDoorQuo
namespace Go.Proofs.YtkbiiolkekpkiaaDoor
open Go.RowKit
set_option linter.unusedVariables false

theorem scale_lt (m A f : Nat) (hA : A < 16777216 ^ m) (hf : f ≤ 16777216) : A * f < 16777216 ^ (m + 1) := by
  rw [Nat.pow_succ]
  exact Nat.lt_of_le_of_lt (Nat.mul_le_mul_left A hf) (Nat.mul_lt_mul_of_pos_right hA (by omega))

end Go.Proofs.YtkbiiolkekpkiaaDoor
