/-
  The walk of the law RingBack: for any modulus, any three numbers of four words and any two exponents of 32 bits it returns true and changes no memory that was there. Conditions: as each theorem says.
-/
import Derived.Test.YtkaekgjpjnnjpaaRBackNo
import Derived.Test.YtkaekgjpjnnjpaaRBackYes
namespace Go.Proofs.Ytkaekgjpjnnjpaa
open Go.RowKit
set_option linter.unusedVariables false

theorem rback_any (m x y z u v : Nat) (hm : m < M4) (hx : x < M4) (hy : y < M4) (hz : z < M4) (hu : u < 4294967296) (hv : v < 4294967296)  (x0 x1 x2 x3 y0 y1 y2 y3 z0 z1 z2 z3 : Int) (ex : four x = .agg #[.int .u64 x0, .int .u64 x1, .int .u64 x2, .int .u64 x3]) (ey : four y = .agg #[.int .u64 y0, .int .u64 y1, .int .u64 y2, .int .u64 y3]) (ez : four z = .agg #[.int .u64 z0, .int .u64 z1, .int .u64 z2, .int .u64 z3]) (w : World) :
    Calls Try.prog 6 #[four m, .agg #[.int .u64 x0, .int .u64 x1, .int .u64 x2, .int .u64 x3, .int .u64 y0, .int .u64 y1, .int .u64 y2, .int .u64 y3, .int .u64 z0, .int .u64 z1, .int .u64 z2, .int .u64 z3], .agg #[.int .u32 (u : Int), .int .u32 (v : Int)]] w fun e w' => e = .returned (.bool true) ∧ Below w.heap.size w w' := by
  by_cases h : m % 2 = 0 ∨ m = 1
  · exact rback_no m x y z u v hm hx hy hz hu hv h x0 x1 x2 x3 y0 y1 y2 y3 z0 z1 z2 z3 ex ey ez w
  · exact rback_yes m x y z u v hm hx hy hz hu hv (by omega) (by omega) x0 x1 x2 x3 y0 y1 y2 y3 z0 z1 z2 z3 ex ey ez w

end Go.Proofs.Ytkaekgjpjnnjpaa
