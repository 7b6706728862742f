/-
  The contracts of the broad's turned and of the document's own turn: a word turned down. Conditions: as each theorem says.
-/
import Derived.Test.YthmpbblljbihgaaDoorBrV
import Derived.Test.YthmpbblljbihgaaDoorExt
namespace Go.Proofs.YthmpbblljbihgaaDoor.Br
open Go.RowKit
set_option linter.unusedVariables false
set_option linter.unusedSimpArgs false

theorem wrap_shl (x s : Nat) : IntKind.u64.wrap ((x : Int) * 2 ^ s) = ((x * 2 ^ s % 18446744073709551616 : Nat) : Int) := by
  have e : (x : Int) * 2 ^ s = ((x * 2 ^ s : Nat) : Int) := by simp
  rw [e]
  simp only [IntKind.wrap, IntKind.bits, IntKind.signed]
  simp
theorem rot_or1 (x s : Nat) (hx : x < 18446744073709551616) : bits .or .u64 (IntKind.u64.wrap ((x : Int) * 2 ^ s)) ((x : Int) / 2 ^ (64 - s)) = ((x / 2 ^ (64 - s) ||| x * 2 ^ s % 18446744073709551616 : Nat) : Int) := by
  have := u64_or_nat (x * 2 ^ s % 18446744073709551616) (x / 2 ^ (64 - s)) (Nat.mod_lt _ (by omega)) (div64 hx _)
  rw [Nat.or_comm, wrap_shl]
  simpa using this
theorem rot_or2 (x n : Nat) (hx : x < 18446744073709551616) : bits .or .u64 ((x : Int) / 2 ^ n) (IntKind.u64.wrap ((x : Int) * 2 ^ (64 - n))) = ((x / 2 ^ n ||| x * 2 ^ (64 - n) % 18446744073709551616 : Nat) : Int) := by
  have := u64_or_nat (x / 2 ^ n) (x * 2 ^ (64 - n) % 18446744073709551616) (div64 hx _) (Nat.mod_lt _ (by omega))
  rw [wrap_shl]
  simpa using this
theorem rot_any (x n : Nat) (hx : x < 18446744073709551616) (h1 : 1 ≤ n) (h2 : n ≤ 63) (w : World) : Calls Tryd.prog 45 #[.int .u64 (x : Int), .int .i64 (-(n : Int))] w fun e w' => e = .returned (.int .u64 (rotr x n : Int)) ∧ w' = w := by
  have e1 := rot_and n h1 h2
  obtain ⟨s, hs⟩ : ∃ s : Nat, 64 - n = s := ⟨_, rfl⟩
  rw [hs] at e1
  have hs1 : (s : Int) ≤ 63 := by omega
  have hs2 : (1 : Int) ≤ s := by omega
  go_enter Tryd.func45, Tryd.ntmps45
  go_wp2
  go_ret
  exact ⟨ret_int (by rw [rot_or1 x s hx, rotr, show 64 - s = n by omega, hs]), rfl⟩
theorem turned_any (x n : Nat) (hx : x < 18446744073709551616) (h1 : 1 ≤ n) (h2 : n ≤ 63) (w : World) : Calls Tryd.prog 43 #[.int .u64 (x : Int), .int .i64 (n : Int)] w fun e w' => e = .returned (.int .u64 (rotr x n : Int)) ∧ w' = w := by
  have k := rot_any x n hx h1 h2
  have K : Hid (∀ w, Calls Tryd.prog 45 #[.int .u64 (x : Int), .int .i64 (-(n : Int))] w fun e w' => e = .returned (.int .u64 (rotr x n : Int)) ∧ w' = w) := k
  clear k
  have h1' : (1 : Int) ≤ n := by omega
  have h2' : (n : Int) ≤ 63 := by omega
  go_enter Tryd.func43, Tryd.ntmps43
  go_wp2_with fail
  refine (K.out _).mono ?_
  rintro e w1 ⟨rfl, hw1⟩
  rw [hw1]
  clear hw1 w1
  go_wp2_with fail
  go_ret
  exact ⟨rfl, rfl⟩
theorem turn_any (x n : Nat) (hx : x < 18446744073709551616) (h1 : 1 ≤ n) (h2 : n ≤ 63) (w : World) : Calls Tryd.prog 38 #[.int .u64 (x : Int), .int .i64 (n : Int)] w fun e w' => e = .returned (.int .u64 (rotr x n : Int)) ∧ ∃ m, w' = w.drewN m := by
  have h1' : (1 : Int) ≤ n := by omega
  have h2' : (n : Int) ≤ 63 := by omega
  go_enter Tryd.func38, Tryd.ntmps38
  go_wp2
  go_region
  go_wp2
  go_ret
  exact ⟨ret_int (by rw [rot_or2 x n hx, rotr]), 1, rfl⟩
end Go.Proofs.YthmpbblljbihgaaDoor.Br
