/-
  The contracts of the document's own rest, numerals and residues of layer 3, at the level of numbers. Conditions: as each theorem says.
-/
import Derived.Test.YtlpmbhneffdcfaaDoorQuo2
import Derived.Test.YtlpmbhneffdcfaaDoorRingV
namespace Go.Proofs.YtlpmbhneffdcfaaDoor
open Go.RowKit
set_option linter.unusedVariables false

theorem four_num (N : Nat) (va : Value) (w : World) (ha : Num w va N) (m : Nat) (hN : N < 16777216 ^ m) (hm : m ≤ 10000) :
    Calls Tryd.prog 28 #[va] w fun e w' => e = .returned (four (N % M4)) ∧ Below w.heap.size w w' := by
  obtain ⟨l, h1, h2, h3, rfl⟩ := ha
  exact four_any l va w h1 h2 (by have := nz_len l m h2 h3 hN; omega)
theorem bits_num (M : Nat) (va : Value) (w : World) (ha : Num w va M) (m : Nat) (hM : M < 16777216 ^ m) (hm : m ≤ 10000) :
    Calls Tryd.prog 18 #[va] w fun e w' => e = .returned (.int .i64 (nbits M : Int)) ∧ Below w.heap.size w w' := by
  obtain ⟨l, h1, h2, h3, rfl⟩ := ha
  have hl := nz_len l m h2 h3 hM
  exact bitsR_any l va w h1 h2 h3 (by omega)

theorem mod_num (A B : Nat) (va vb : Value) (w : World) (ha : Num w va A) (hb : Num w vb B) (hB : 0 < B) (m : Nat) (hA : A < 16777216 ^ m) (hBm : B < 16777216 ^ m) (hm : m ≤ 900) :
    Calls Tryd.prog 21 #[va, vb] w fun e w' => ∃ r, e = .returned r ∧ Num w' r (A % B) ∧ Below w.heap.size w w' := by
  have C := fun w ha hb => div_num A B va vb w ha hb hB m hA hBm hm
  obtain ⟨xa, xc, xd, rfl⟩ := ha.shape
  obtain ⟨ya, yc, yd, rfl⟩ := hb.shape
  have HA : Hid (Num w (.slice xa xc xd) A) := ha
  have HB' : Hid (Num w (.slice ya yc yd) B) := hb
  clear ha hb hA hBm
  go_enter Tryd.func21, Tryd.ntmps21
  go_wp2_with fail
  refine (C _ HA.out HB'.out).mono ?_
  rintro e w1 ⟨q, r, rfl, hq, hr, g1⟩
  clear hq
  have HR : Hid (Num w1 r (A % B)) := hr
  clear hr
  go_wp2_with fail
  go_ret
  exact ⟨_, rfl, HR.out, g1⟩

theorem halved_val (m v h : Nat) (ho : m % 2 = 1) (hv : v < m) (hh : 2 * h = v ∨ 2 * h = v + m) : h = v * ((m + 1) / 2) % m := by
  have hlt : h < m := by omega
  have e1 : h * (m + 1) % m = h := by rw [Nat.mul_add, Nat.mul_one, Nat.mul_comm, Nat.mul_add_mod, Nat.mod_eq_of_lt hlt]
  have e2 : h * (m + 1) = (2 * h) * ((m + 1) / 2) := by
    rw [Nat.mul_comm 2 h, Nat.mul_assoc, show 2 * ((m + 1) / 2) = m + 1 by omega]
  rw [e2] at e1
  rcases hh with hh | hh
  · rw [hh] at e1; exact e1.symm
  · rw [hh, Nat.add_mul, Nat.add_mul_mod_self_left] at e1; exact e1.symm

end Go.Proofs.YtlpmbhneffdcfaaDoor
