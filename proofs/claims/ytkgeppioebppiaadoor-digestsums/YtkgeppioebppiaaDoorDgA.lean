/-
  The contracts of the digest's turned and of the document's own turn: a word turned down. Conditions: as each theorem says.
-/
import Derived.Test.YtkgeppioebppiaaDoorDgV
import Derived.Test.YtkgeppioebppiaaDoorExt
namespace Go.Proofs.YtkgeppioebppiaaDoor
open Go.RowKit
set_option linter.unusedVariables false
set_option linter.unusedSimpArgs false

theorem rot_or1 (x s : Nat) (hx : x < 4294967296) : bits .or .u32 ((x : Int) * 2 ^ s % 4294967296) ((x : Int) / 2 ^ (32 - s)) = ((x / 2 ^ (32 - s) ||| x * 2 ^ s % 4294967296 : Nat) : Int) := by
  have := u32_or_nat (x * 2 ^ s % 4294967296) (x / 2 ^ (32 - s)) (Nat.mod_lt _ (by omega)) (div32 hx _)
  rw [Nat.or_comm]
  simpa using this
theorem rot_or2 (x n : Nat) (hx : x < 4294967296) : bits .or .u32 ((x : Int) / 2 ^ n) ((x : Int) * 2 ^ (32 - n) % 4294967296) = ((x / 2 ^ n ||| x * 2 ^ (32 - n) % 4294967296 : Nat) : Int) := by
  have := u32_or_nat (x / 2 ^ n) (x * 2 ^ (32 - n) % 4294967296) (div32 hx _) (Nat.mod_lt _ (by omega))
  simpa using this
theorem rot_any (x n : Nat) (hx : x < 4294967296) (h1 : 1 ≤ n) (h2 : n ≤ 31) (w : World) : Calls Tryd.prog 42 #[.int .u32 (x : Int), .int .i64 (-(n : Int))] w fun e w' => e = .returned (.int .u32 (rotr x n : Int)) ∧ w' = w := by
  have e1 := rot_and n h1 h2
  obtain ⟨s, hs⟩ : ∃ s : Nat, 32 - n = s := ⟨_, rfl⟩
  rw [hs] at e1
  have hs1 : (s : Int) ≤ 31 := by omega
  have hs2 : (1 : Int) ≤ s := by omega
  go_enter Tryd.func42, Tryd.ntmps42
  go_wp2
  go_ret
  exact ⟨ret_int (by rw [rot_or1 x s hx, rotr, show 32 - s = n by omega, hs]), rfl⟩
theorem turned_any (x n : Nat) (hx : x < 4294967296) (h1 : 1 ≤ n) (h2 : n ≤ 31) (w : World) : Calls Tryd.prog 41 #[.int .u32 (x : Int), .int .i64 (n : Int)] w fun e w' => e = .returned (.int .u32 (rotr x n : Int)) ∧ w' = w := by
  have k := rot_any x n hx h1 h2
  have K : Hid (∀ w, Calls Tryd.prog 42 #[.int .u32 (x : Int), .int .i64 (-(n : Int))] w fun e w' => e = .returned (.int .u32 (rotr x n : Int)) ∧ w' = w) := k
  clear k
  have h1' : (1 : Int) ≤ n := by omega
  have h2' : (n : Int) ≤ 31 := by omega
  go_enter Tryd.func41, Tryd.ntmps41
  go_wp2_with fail
  refine (K.out _).mono ?_
  rintro e w1 ⟨rfl, hw1⟩
  rw [hw1]
  clear hw1 w1
  go_wp2_with fail
  go_ret
  exact ⟨rfl, rfl⟩
theorem turn_any (x n : Nat) (hx : x < 4294967296) (h1 : 1 ≤ n) (h2 : n ≤ 31) (w : World) : Calls Tryd.prog 36 #[.int .u32 (x : Int), .int .i64 (n : Int)] w fun e w' => e = .returned (.int .u32 (rotr x n : Int)) ∧ ∃ m, w' = w.drewN m := by
  have h1' : (1 : Int) ≤ n := by omega
  have h2' : (n : Int) ≤ 31 := by omega
  go_enter Tryd.func36, Tryd.ntmps36
  go_wp2
  go_region
  go_wp2
  go_ret
  exact ⟨ret_int (by rw [rot_or2 x n hx, rotr]), 1, rfl⟩
end Go.Proofs.YtkgeppioebppiaaDoor
