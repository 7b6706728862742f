/-
  The contracts of the document's own rest, numerals and residues of layer 3, at the level of numbers. Conditions: as each theorem says.
-/
import Derived.Test.YtkbiiolkekpkiaaDoorQuo
import Derived.Test.YtkbiiolkekpkiaaDoorRingV
namespace Go.Proofs.YtkbiiolkekpkiaaDoor
open Go.RowKit
set_option linter.unusedVariables false

theorem bit_num (N : Nat) (va : Value) (i : Nat) (w : World) (ha : Num w va N) (m : Nat) (hN : N < 16777216 ^ m) (hm : m ≤ 10000) (hi : i ≤ 1000000) :
    Calls Tryd.prog 40 #[va, .int .i64 (i : Int)] w fun e w' => e = .returned (.int .i64 ((N / 2 ^ i % 2 : Nat) : Int)) ∧ Below w.heap.size w w' := by
  obtain ⟨l, h1, h2, h3, rfl⟩ := ha
  have hl := nz_len l m h2 h3 hN
  exact bitR_any l va i w h1 h2 (by omega) hi
theorem down_num (M : Nat) (va : Value) (n : Nat) (w : World) (ha : Num w va M) (m : Nat) (hM : M < 16777216 ^ m) (hm : m ≤ 10000) (hn : n ≤ 100000) :
    Calls Tryd.prog 83 #[va, .int .i64 (n : Int)] w fun e w' => ∃ v, e = .returned v ∧ Num w' v (M / 2 ^ n) ∧ Below w.heap.size w w' := by
  obtain ⟨l, h1, h2, h3, rfl⟩ := ha
  have hl := nz_len l m h2 h3 hM
  exact downR_any l va n w h1 h2 (by omega) hn
theorem bits_num (M : Nat) (va : Value) (w : World) (ha : Num w va M) (m : Nat) (hM : M < 16777216 ^ m) (hm : m ≤ 10000) :
    Calls Tryd.prog 82 #[va] w fun e w' => e = .returned (.int .i64 (nbits M : Int)) ∧ Below w.heap.size w w' := by
  obtain ⟨l, h1, h2, h3, rfl⟩ := ha
  have hl := nz_len l m h2 h3 hM
  exact bitsR_any l va w h1 h2 h3 (by omega)

theorem halved_val (m v h : Nat) (ho : m % 2 = 1) (hv : v < m) (hh : 2 * h = v ∨ 2 * h = v + m) : h = v * ((m + 1) / 2) % m := by
  have hlt : h < m := by omega
  have e1 : h * (m + 1) % m = h := by rw [Nat.mul_add, Nat.mul_one, Nat.mul_comm, Nat.mul_add_mod, Nat.mod_eq_of_lt hlt]
  have e2 : h * (m + 1) = (2 * h) * ((m + 1) / 2) := by
    rw [Nat.mul_comm 2 h, Nat.mul_assoc, show 2 * ((m + 1) / 2) = m + 1 by omega]
  rw [e2] at e1
  rcases hh with hh | hh
  · rw [hh] at e1; exact e1.symm
  · rw [hh, Nat.add_mul, Nat.add_mul_mod_self_left] at e1; exact e1.symm

end Go.Proofs.YtkbiiolkekpkiaaDoor
