/-
  The contract of the laws' own awake: it returns true and changes no memory that was there. Conditions: none.
-/
import Derived.Test.YtpebinkmgkknbaaLimbSum
import Derived.Test.YtpebinkmgkknbaaLimbBits
import Derived.Test.YtpebinkmgkknbaaExt
namespace Go.Proofs.Ytpebinkmgkknbaa
open Go.RowKit
set_option linter.unusedVariables false

theorem bcell {W w1 : World} (hb : Below W.heap.size W w1) : (∀ b o, b < W.heap.size → w1.cell? ⟨b, o, none⟩ = W.cell? ⟨b, o, none⟩) ∧ (∀ b o, b < W.heap.size → w1.frozen? ⟨b, o, none⟩ = W.frozen? ⟨b, o, none⟩) :=
  ⟨fun b o h => hb.cell (p := ⟨b, o, none⟩) h, fun b o h => hb.frozen (p := ⟨b, o, none⟩) h⟩

set_option maxHeartbeats 1000000 in
theorem awake_any (w : World) : Calls Try.prog 8 #[] w fun e w' => e = .returned (.bool true) ∧ Below w.heap.size w w' := by
  have hA : Hid (∀ w, Calls Try.prog 10 #[.agg #[.int .u64 18446744073709551615, .int .u64 18446744073709551615, .int .u64 18446744073709551615, .int .u64 18446744073709551615], .agg #[.int .u64 1, .int .u64 0, .int .u64 0, .int .u64 0]] w
      fun e w' => e = .returned (.tuple #[.agg #[.int .u64 0, .int .u64 0, .int .u64 0, .int .u64 0], .int .u64 1]) ∧ Below w.heap.size w w') := by
    intro w
    have h := add_any (M4 - 1) 1 (by unfold M4; omega) (by unfold M4; omega) w
    have e1 : four (M4 - 1) = .agg #[.int .u64 18446744073709551615, .int .u64 18446744073709551615, .int .u64 18446744073709551615, .int .u64 18446744073709551615] := by simp [four, M4]
    have e2 : four 1 = .agg #[.int .u64 1, .int .u64 0, .int .u64 0, .int .u64 0] := by simp [four]
    have e3 : four ((M4 - 1 + 1) % M4) = .agg #[.int .u64 0, .int .u64 0, .int .u64 0, .int .u64 0] := by simp [four, M4]
    have e4 : (((M4 - 1 + 1) / M4 : Nat) : Int) = 1 := by simp [M4]
    rw [e1, e2, e3, e4] at h
    exact h
  have hB : Hid (∀ w, Calls Try.prog 29 #[.agg #[.int .u64 5, .int .u64 0, .int .u64 0, .int .u64 0]] w fun e w' => e = .returned (.int .i64 3) ∧ Below w.heap.size w w') := by
    intro w
    have h := bits_any 5 (by unfold M4; omega) w
    have e1 : four 5 = .agg #[.int .u64 5, .int .u64 0, .int .u64 0, .int .u64 0] := by simp [four]
    have e2 : ((nbits 5 : Nat) : Int) = 3 := by decide
    rw [e1, e2] at h
    exact h
  have q := eql4
  go_enter Try.func8, Try.ntmps8
  go_wp2
  refine wp_unr 5 ?_
  refine unr_succ ?_
  go_wp2
  refine unr_succ ?_
  go_wp2
  refine unr_succ ?_
  go_wp2
  refine unr_succ ?_
  go_wp2
  refine unr_succ ?_
  go_wp2_with (first
    | (go_at_call 10; refine (hA.out _).mono ?_; rintro e w1 ⟨rfl, b1⟩)
    | (go_at_call 29; refine (hB.out _).mono ?_; rintro e w2 ⟨rfl, b2⟩))
  go_ret
  refine ⟨rfl, ?_⟩
  have s1 := b1.size
  have s2 := b2.size
  simp at s1 s2
  refine Below.trans ?_ (b2.mono (by simp; omega))
  refine Below.alloc ?_ (by omega) _
  refine Below.trans ?_ (b1.mono (by simp))
  exact Below.alloc (Below.refl _ _) (by omega) _
end Go.Proofs.Ytpebinkmgkknbaa
