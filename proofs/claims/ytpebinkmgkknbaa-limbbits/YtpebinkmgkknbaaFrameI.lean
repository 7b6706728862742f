/-
  What a row's int argument is known to be. Conditions: none beyond those written.
-/
import Derived.Test.YtpebinkmgkknbaaFrame
namespace Go.Proofs.Ytpebinkmgkknbaa
theorem wi_of_wf {x : Int} (h : (Lit.int .i64 x).wf = true) : -9223372036854775808 ≤ x ∧ x ≤ 9223372036854775807 := by
  simp [Lit.wf, IntKind.min, IntKind.max, IntKind.signed, IntKind.bits] at h
  exact ⟨by omega, by omega⟩
end Go.Proofs.Ytpebinkmgkknbaa
