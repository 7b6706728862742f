/-
  How an argument that is a slice of words or of bytes is opened: the slice leads to a list of them. Conditions: none beyond those written.
-/
import Derived.Test.YtkbiiolkekpkiaaDoorFrame
import Derived.Test.YtkbiiolkekpkiaaDoorOct
namespace Go.Proofs.YtkbiiolkekpkiaaDoor
open Go.ChangeShapes Go.WideShapes Go.ChangeAt Go.RowKit
set_option linter.unusedVariables false

theorem wf_rng {k : IntKind} {B : Nat} (hB : ∀ n, (Lit.int k n).wf = true → 0 ≤ n ∧ n < (B : Int)) (zs : List Int) (h : ∀ n ∈ zs, (Lit.int k n).wf = true) (hp : 0 < B) (j : Nat) : 0 ≤ zs.getD j 0 ∧ zs.getD j 0 < (B : Int) := by
  by_cases hj : j < zs.length
  · have : zs.getD j 0 = zs[j] := by simp [List.getD_eq_getElem?_getD, hj]
    rw [this]
    exact hB _ (h _ (List.getElem_mem hj))
  · have : zs.getD j 0 = 0 := by simp [List.getD_eq_getElem?_getD, List.getElem?_eq_none (show zs.length ≤ j by omega)]
    rw [this]; omega
theorem cell_plain' {w : World} {b o : Nat} {sp : Option Nat} {v : Value} (h : w.cell? ⟨b, o, sp⟩ = some v) : sp = none ∧ b < w.heap.size := by
  unfold World.cell? at h
  simp only at h
  split at h
  · rename_i c _ _ hh
    refine ⟨?_, ?_⟩
    · cases sp
      · rfl
      · simp at h
    · rcases Nat.lt_or_ge b w.heap.size with h' | h'
      · exact h'
      · rw [Array.getElem?_eq_none h'] at hh; cases hh
  · cases h

set_option maxRecDepth 100000 in
theorem open_sk {H : Type} {enc : TypeId × Value → H} {W : World} {base : Nat} {r : Reach} {t e : TypeId} {k : IntKind} {v : Value} {d : DataW H} {p : List MemPlace} (B : Nat) (hp : 0 < B) (hB : ∀ n, (Lit.int k n).wf = true → 0 ≤ n ∧ n < (B : Int))
    (ht : Tryd.prog.underlying t = some (.slice e)) (he : Tryd.prog.underlying e = some (.int k)) (hc : Tryd.prog.cellsOf e = 1)
    (hv : Value.okWide Tryd.prog W r base t v) (h : DataW.Trod enc Tryd.prog W 0 (fun _ => true) true t v d p) : ∃ l, SK k W v l ∧ ∀ j, l.getD j 0 < B := by
  obtain ⟨a0, len0, cap0, rfl⟩ := okWide_slice ht hv
  obtain ⟨fuel, hf⟩ := h
  rcases open_ints ht he hc hf with ⟨hcs, _⟩ | ⟨x, len, cap, zs, hcs, _, hl, hm, hz, _, hcell, hwz⟩
  · simp [Value.cells] at hcs
    obtain ⟨rfl, rfl, rfl⟩ := hcs
    exact ⟨[], SK.nil _ _, fun j => by simpa using hp⟩
  · simp [Value.cells] at hcs
    obtain ⟨rfl, rfl, rfl⟩ := hcs
    have hz' : zs.length = cap0 := by simpa using hz
    have rng := wf_rng hB zs hwz hp
    have hlen : ((zs.take len0).map Int.toNat).length = len0 := by simp; omega
    have hget : ∀ j, j < len0 → ((zs.take len0).map Int.toNat).getD j 0 = (zs.getD j 0).toNat := by
      intro j hj
      simp [List.getD_eq_getElem?_getD, hj, show j < zs.length by omega]
    refine ⟨(zs.take len0).map Int.toNat, ⟨some x, cap0, by rw [hlen], by omega, fun h => by simp at h, fun j hj => ?_⟩, fun j => ?_⟩
    · rw [hlen] at hj
      have h0 := hcell 0 (by omega)
      have hj1 := hcell j (by omega)
      obtain ⟨b, o, sp⟩ := x
      simp only [Addr.add, if_pos] at h0
      obtain ⟨rfl, hb⟩ := cell_plain' h0
      refine ⟨b, o, rfl, hb, ?_⟩
      rw [hget j hj, Int.toNat_of_nonneg (rng j).1]
      unfold Addr.add at hj1
      by_cases hj0 : j = 0
      · subst hj0; simpa using hj1
      · rw [if_neg hj0] at hj1; exact hj1
    · by_cases hj : j < len0
      · rw [hget j hj]
        have := rng j
        omega
      · rw [getD_ge _ _ (by rw [hlen]; omega)]; exact hp
set_option maxRecDepth 100000 in
theorem open_words {H : Type} {enc : TypeId × Value → H} {W : World} {base : Nat} {r : Reach} {v : Value} {d : DataW H} {p : List MemPlace}
    (hv : Value.okWide Tryd.prog W r base 80 v) (h : DataW.Trod enc Tryd.prog W 0 (fun _ => true) true 80 v d p) : ∃ l, SK .u64 W v l ∧ Ww l :=
  open_sk 18446744073709551616 (by omega) (fun n hn => by have := wd_of_wf hn; unfold Wd at this; omega) Tryd.underlying80 Tryd.underlying24 (by kernel_rfl) hv h
set_option maxRecDepth 100000 in
theorem open_octets {H : Type} {enc : TypeId × Value → H} {W : World} {base : Nat} {r : Reach} {v : Value} {d : DataW H} {p : List MemPlace}
    (hv : Value.okWide Tryd.prog W r base 22 v) (h : DataW.Trod enc Tryd.prog W 0 (fun _ => true) true 22 v d p) : ∃ l, SK .u8 W v l ∧ Bb l :=
  open_sk 256 (by omega) (fun n hn => by
    simp [Lit.wf, IntKind.min, IntKind.max, IntKind.signed, IntKind.bits] at hn
    omega) Tryd.underlying22 Tryd.underlying5 (by kernel_rfl) hv h

end Go.Proofs.YtkbiiolkekpkiaaDoor
