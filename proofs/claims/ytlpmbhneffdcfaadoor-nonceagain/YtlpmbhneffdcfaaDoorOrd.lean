/-
  The order of two numbers as -1, 0 or 1, and the contracts of cmp.Compare at words and ints. Conditions: as each theorem says.
-/
import Derived.Test.YtlpmbhneffdcfaaDoorBase
namespace Go.Proofs.YtlpmbhneffdcfaaDoor
open Go.RowKit
set_option linter.unusedVariables false

/-- -1, 0 or 1. -/
def ord (x y : Int) : Int := if x < y then -1 else if x = y then 0 else 1
theorem ord_lt {x y : Int} (h : x < y) : ord x y = -1 := by unfold ord; rw [if_pos h]
theorem ord_eq {x y : Int} (h : x = y) : ord x y = 0 := by unfold ord; rw [if_neg (by omega), if_pos h]
theorem ord_gt {x y : Int} (h : y < x) : ord x y = 1 := by unfold ord; rw [if_neg (by omega), if_neg (by omega)]

/-- cmp.Compare at words. -/
theorem compare_any (a b : Int) (ha : Wd a) (hb : Wd b) (w : World) :
    Calls Tryd.prog 29 #[.int .u64 a, .int .u64 b] w fun e w' => e = .returned (.int .i64 (ord a b)) ∧ w' = w := by
  rcases Int.lt_trichotomy a b with h | h | h
  · have H := ord_lt h
    rw [H]
    clear H
    go_enter Tryd.func29, Tryd.ntmps29
    go_wp2
    go_ret
    exact ⟨rfl, rfl⟩
  · have H := ord_eq h
    rw [H]
    clear H
    subst h
    go_enter Tryd.func29, Tryd.ntmps29
    go_wp2
    go_ret
    exact ⟨rfl, rfl⟩
  · have H := ord_gt h
    have h2 : ¬ a < b := by omega
    rw [H]
    clear H
    go_enter Tryd.func29, Tryd.ntmps29
    go_wp2
    go_ret
    exact ⟨rfl, rfl⟩

end Go.Proofs.YtlpmbhneffdcfaaDoor
