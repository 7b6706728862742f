/-
  Elements that lie one behind the other; what the document's elements, sums and differences are, by an element's number. Conditions: as each theorem says.
-/
import Derived.Test.YtnebpleplogfeaaDoorFP
import Derived.Test.YtnebpleplogfeaaDoorFI
namespace Go.Proofs.YtnebpleplogfeaaDoor
open Go.RowKit
set_option linter.unusedVariables false
set_option linter.unusedSimpArgs false

def pickL (x y z : L5) : Nat → L5
  | 0 => x | 1 => y | _ => z
theorem els_two (W : World) (x y : L5) : Els (W.alloc (.cells #[.int .u64 x.l0, .int .u64 x.l1, .int .u64 x.l2, .int .u64 x.l3, .int .u64 x.l4, .int .u64 y.l0, .int .u64 y.l1, .int .u64 y.l2, .int .u64 y.l3, .int .u64 y.l4] 24)) W.heap.size 2 (pickL x y y) := by
  refine ⟨by simp, fun i hi => ?_, fun i hi => ?_, fun i hi => ?_, fun i hi => ?_, fun i hi => ?_⟩ <;> rcases (show i = 0 ∨ i = 1 by omega) with rfl | rfl <;> simp [pickL]
theorem els_three (W : World) (x y z : L5) : Els (W.alloc (.cells #[.int .u64 x.l0, .int .u64 x.l1, .int .u64 x.l2, .int .u64 x.l3, .int .u64 x.l4, .int .u64 y.l0, .int .u64 y.l1, .int .u64 y.l2, .int .u64 y.l3, .int .u64 y.l4, .int .u64 z.l0, .int .u64 z.l1, .int .u64 z.l2, .int .u64 z.l3, .int .u64 z.l4] 24)) W.heap.size 3 (pickL x y z) := by
  refine ⟨by simp, fun i hi => ?_, fun i hi => ?_, fun i hi => ?_, fun i hi => ?_, fun i hi => ?_⟩ <;> rcases (show i = 0 ∨ i = 1 ∨ i = 2 by omega) with rfl | rfl | rfl <;> simp [pickL]
theorem nn_add (x y z : L5) (h : z.num % (P25 : Int) = (x.num + y.num) % (P25 : Int)) : z.nn = (x.nn + y.nn) % P25 := by
  refine L5.nn_of ?_
  rw [h, Int.natCast_add, Int.add_emod, x.nn_mod, y.nn_mod, ← Int.add_emod]
theorem nn_sub (x y z : L5) (h : z.num % (P25 : Int) = (x.num - y.num) % (P25 : Int)) : z.nn = (x.nn + P25 - y.nn) % P25 := by
  refine L5.nn_of ?_
  have hl := y.nn_lt
  rw [h, show ((x.nn + P25 - y.nn : Nat) : Int) = ((x.nn : Int) - (y.nn : Int)) + (P25 : Int) * 1 by omega, Int.add_mul_emod_self_left, Int.sub_emod, x.nn_mod, y.nn_mod, ← Int.sub_emod]
theorem of_nn (x : L5) (hx : x.Tm) (w : World) : Calls Tryd.prog 10 #[.agg #[.int .u64 x.l0, .int .u64 x.l1, .int .u64 x.l2, .int .u64 x.l3, .int .u64 x.l4]] w fun e w' => ∃ v, e = .returned v ∧ Num w' v x.nn ∧ Below w.heap.size w w' := ofD_num x hx w
theorem nn_lt11 (x : L5) : x.nn < 16777216 ^ 11 := Nat.lt_trans x.nn_lt P25_lt11

end Go.Proofs.YtnebpleplogfeaaDoor
