/-
  The contracts of the document's own sums, differences, order, products and shifts, at the level of numbers. Conditions: as each theorem says.
-/
import Derived.Test.YtkbiiolkekpkiaaDoorRefI
namespace Go.Proofs.YtkbiiolkekpkiaaDoor
open Go.RowKit
set_option linter.unusedVariables false

theorem add_num (M N : Nat) (va vb : Value) (w : World) (ha : Num w va M) (hb : Num w vb N) (m : Nat) (hM : M < 16777216 ^ m) (hN : N < 16777216 ^ m) (hm : m ≤ 10000) :
    Calls Tryd.prog 57 #[va, vb] w fun e w' => ∃ v, e = .returned v ∧ Num w' v (M + N) ∧ Below w.heap.size w w' := by
  obtain ⟨l, h1, h2, h3, rfl⟩ := ha
  obtain ⟨l', k1, k2, k3, rfl⟩ := hb
  have hl := nz_len l m h2 h3 hM
  have hl' := nz_len l' m k2 k3 hN
  exact addR_any l l' va vb w h1 k1 h2 k2 (by omega) (by omega)
theorem sub_num (M N : Nat) (va vb : Value) (w : World) (ha : Num w va M) (hb : Num w vb N) (m : Nat) (hM : M < 16777216 ^ m) (hm : m ≤ 10000) (hle : N ≤ M) :
    Calls Tryd.prog 41 #[va, vb] w fun e w' => ∃ v, e = .returned v ∧ Num w' v (M - N) ∧ Below w.heap.size w w' := by
  obtain ⟨l, h1, h2, h3, rfl⟩ := ha
  obtain ⟨l', k1, k2, k3, rfl⟩ := hb
  have hl := nz_len l m h2 h3 hM
  have hll : l'.length ≤ l.length := by
    rcases Nat.lt_or_ge l.length l'.length with h | h
    · have := lenD_lt l l' h2 k3 h; omega
    · exact h
  exact subR_any l l' va vb w h1 k1 h2 k2 (by omega) hll hle
theorem cmp_num (M N : Nat) (va vb : Value) (w : World) (ha : Num w va M) (hb : Num w vb N) (m : Nat) (hM : M < 16777216 ^ m) (hN : N < 16777216 ^ m) (hm : m ≤ 10000) :
    Calls Tryd.prog 15 #[va, vb] w fun e w' => e = .returned (.int .i64 (ord (M : Int) (N : Int))) ∧ Below w.heap.size w w' := by
  obtain ⟨l, h1, h2, h3, rfl⟩ := ha
  obtain ⟨l', k1, k2, k3, rfl⟩ := hb
  have hl := nz_len l m h2 h3 hM
  have hl' := nz_len l' m k2 k3 hN
  exact cmpR_any l l' va vb w h1 k1 h2 k2 h3 k3 (by omega) (by omega)
theorem small_num (M : Nat) (va : Value) (n : Nat) (w : World) (ha : Num w va M) (m : Nat) (hM : M < 16777216 ^ m) (hm : m ≤ 10000) (hn : n ≤ 9223372036854775807) :
    Calls Tryd.prog 81 #[va, .int .i64 (n : Int)] w fun e w' => ∃ v, e = .returned v ∧ Num w' v (M * n) ∧ Below w.heap.size w w' := by
  obtain ⟨l, h1, h2, h3, rfl⟩ := ha
  have hl := nz_len l m h2 h3 hM
  exact small_any l va n w h1 h2 (by omega) hn
theorem shift_num (M : Nat) (va : Value) (n : Nat) (w : World) (ha : Num w va M) (m : Nat) (hM : M < 16777216 ^ m) (hm : m ≤ 10000) (hn : n ≤ 100000) :
    Calls Tryd.prog 58 #[va, .int .i64 (n : Int)] w fun e w' => ∃ v, e = .returned v ∧ Num w' v (M * 2 ^ n) ∧ Below w.heap.size w w' := by
  obtain ⟨l, h1, h2, h3, rfl⟩ := ha
  have hl := nz_len l m h2 h3 hM
  exact shift_any l va n w h1 h2 (by omega) hn
theorem ref_mul_num (M N : Nat) (va vb : Value) (w : World) (ha : Num w va M) (hb : Num w vb N) (m : Nat) (hM : M < 16777216 ^ m) (hN : N < 16777216 ^ m) (hm : m ≤ 10000) :
    Calls Tryd.prog 72 #[va, vb] w fun e w' => ∃ v, e = .returned v ∧ Num w' v (M * N) ∧ Below w.heap.size w w' := by
  obtain ⟨l, h1, h2, h3, rfl⟩ := ha
  obtain ⟨l', k1, k2, k3, rfl⟩ := hb
  have hl := nz_len l m h2 h3 hM
  have hl' := nz_len l' m k2 k3 hN
  exact mulR_any l l' va vb w h1 k1 h2 k2 (by omega) (by omega)

end Go.Proofs.YtkbiiolkekpkiaaDoor
