/-
  The order of two numbers as -1, 0 or 1, and the contracts of cmp.Compare at words and ints. Conditions: as each theorem says.
-/
import Derived.Test.YtkbiiolkekpkiaaDoorBase
namespace Go.Proofs.YtkbiiolkekpkiaaDoor
open Go.RowKit
set_option linter.unusedVariables false

/-- -1, 0 or 1. -/
def ord (x y : Int) : Int := if x < y then -1 else if x = y then 0 else 1
theorem ord_lt {x y : Int} (h : x < y) : ord x y = -1 := by unfold ord; rw [if_pos h]
theorem ord_eq {x y : Int} (h : x = y) : ord x y = 0 := by unfold ord; rw [if_neg (by omega), if_pos h]
theorem ord_gt {x y : Int} (h : y < x) : ord x y = 1 := by unfold ord; rw [if_neg (by omega), if_neg (by omega)]

end Go.Proofs.YtkbiiolkekpkiaaDoor
