/-
  How an argument that is a slice of slices of bytes is opened. Conditions: none beyond those written.
-/
import Derived.Test.YtkkhpjcfojgggaaDoorFrameN
import Derived.Test.YtkkhpjcfojgggaaDoorGX
import Derived.Deep.Matrix
namespace Go.Proofs.YtkkhpjcfojgggaaDoor
open Go.ChangeShapes Go.WideShapes Go.ChangeAt Go.WideMaps Go.WideElems Go.RowKit
set_option linter.unusedVariables false

set_option maxRecDepth 100000 in
theorem row_sk {W : World} (A : Option Addr) (L C : Nat) (Z : List Int) (h1 : L ≤ C) (h3 : Z.length = C) (h4 : ∀ n ∈ Z, (Lit.int .u8 n).wf = true) (h5 : A = none → C = 0)
    (h6 : ∀ a, A = some a → ∀ c, c < C → W.cell? (a.add c) = some (.int .u8 (Z.getD c 0))) : ∃ l, SK .u8 W (.slice A L C) l ∧ Bb l := by
  have hwf : ∀ n, (Lit.int .u8 n).wf = true → 0 ≤ n ∧ n < ((256 : Nat) : Int) := fun n hn => by
    simp [Lit.wf, IntKind.min, IntKind.max, IntKind.signed, IntKind.bits] at hn
    omega
  have rng := wf_rng hwf Z h4 (by omega)
  have hlen : ((Z.take L).map Int.toNat).length = L := by simp; omega
  have hget : ∀ j, j < L → ((Z.take L).map Int.toNat).getD j 0 = (Z.getD j 0).toNat := by
    intro j hj
    simp [List.getD_eq_getElem?_getD, hj, show j < Z.length by omega]
  refine ⟨(Z.take L).map Int.toNat, ⟨A, C, by rw [hlen], by omega, fun h => ?_, fun j hj => ?_⟩, fun j => ?_⟩
  · have := h5 h
    obtain rfl : L = 0 := by omega
    exact ⟨by simp, this⟩
  · rw [hlen] at hj
    cases A with
    | none => have := h5 rfl; omega
    | some x =>
      have h0 := h6 x rfl 0 (by omega)
      have hj1 := h6 x rfl j (by omega)
      obtain ⟨b, o, sp⟩ := x
      simp only [Addr.add, if_pos] at h0
      obtain ⟨rfl, hb⟩ := cell_plain' h0
      refine ⟨b, o, rfl, hb, ?_⟩
      rw [hget j hj, Int.toNat_of_nonneg (rng j).1]
      rw [Addr.add_mid] at hj1
      exact hj1
  · by_cases hj : j < L
    · rw [hget j hj]
      have := rng j
      omega
    · rw [getD_ge _ _ (by rw [hlen]; omega)]; omega
set_option maxRecDepth 100000 in
theorem open_rows {H : Type} {enc : TypeId × Value → H} {W : World} {base : Nat} {r : Reach} {v : Value} {d : DataW H} {p : List MemPlace}
    (hv : Value.okWide Tryd.prog W r base 65 v) (h : DataW.Trod enc Tryd.prog W 0 (fun _ => true) true 65 v d p) : ∃ ls, LL W v ls := by
  obtain ⟨a0, len0, cap0, rfl⟩ := okWide_slice Tryd.underlying65 hv
  obtain ⟨fuel, hf⟩ := h
  rcases Go.Deep.open_int_rows Tryd.underlying65 Tryd.underlying22 Tryd.underlying5 (by kernel_rfl) (by kernel_rfl) hf with ⟨hcs, _⟩ | ⟨a, len, cap, A, L, C, Z, hcs, _, hl, hm, _, hx⟩
  · simp [Value.cells] at hcs
    obtain ⟨rfl, rfl, rfl⟩ := hcs
    exact ⟨[], none, 0, rfl, Nat.le_refl _, fun j hj => by simp at hj⟩
  · simp [Value.cells] at hcs
    obtain ⟨rfl, rfl, rfl⟩ := hcs
    have each : ∀ j, ∃ l : List Nat, j < len0 → SK .u8 W (.slice (A j) (L j) (C j)) l ∧ Bb l := fun j => by
      by_cases hj : j < len0
      · obtain ⟨_, h1, _, h3, h4, h5, h6⟩ := hx j (by omega)
        obtain ⟨l, h⟩ := row_sk (A j) (L j) (C j) (Z j) h1 h3 h4 h5 (fun a ha => (h6 a ha).2)
        exact ⟨l, fun _ => h⟩
      · exact ⟨[], fun h => absurd h hj⟩
    obtain ⟨f, hf'⟩ := Classical.axiomOfChoice each
    refine ⟨(List.range len0).map f, some a, cap0, by simp, by simpa using hl, fun j hj => ?_⟩
    simp only [List.length_map, List.length_range] at hj
    obtain ⟨h0, _⟩ := hx 0 (by omega)
    obtain ⟨h1, _⟩ := hx j (by omega)
    obtain ⟨b, o, sp⟩ := a
    simp only [Addr.add, if_pos] at h0
    obtain ⟨rfl, hb⟩ := cell_plain' h0
    rw [Addr.add_mid] at h1
    have e : ((List.range len0).map f).getD j [] = f j := by simp [List.getD_eq_getElem?_getD, hj]
    rw [e]
    exact ⟨b, o, _, rfl, hb, h1, (hf' j hj).1, (hf' j hj).2⟩
end Go.Proofs.YtkkhpjcfojgggaaDoor
