/-
  The chapter's example: the sum of 'abc', reckoned; the contracts of the law's awake and of the document's own Same; what the call owns, beside a hash that is written to. Conditions: as each theorem says.
-/
import Derived.Test.YthmpbblljbihgaaDoorBrL
import Derived.Laws.AppendOwnNone
namespace Go.Proofs.YthmpbblljbihgaaDoor.Br
open Go.RowKit
set_option linter.unusedVariables false
set_option linter.unusedSimpArgs false

theorem abc_sum : sumB [97, 98, 99] = [221, 175, 53, 161, 147, 97, 122, 186, 204, 65, 115, 73, 174, 32, 65, 49, 18, 230, 250, 78, 137, 169, 126, 162, 10, 158, 238, 230, 75, 85, 211, 154, 33, 146, 153, 42, 39, 79, 193, 168, 54, 186, 60, 35, 163, 254, 235, 189, 69, 77, 68, 35, 100, 60, 232, 14, 42, 154, 201, 79, 165, 76, 164, 159] := by decide +kernel
set_option maxRecDepth 100000 in
set_option maxHeartbeats 1000000 in
theorem awake6 (w : World) (hg : Gl6 w) :
    Calls Tryd.prog 6 #[] w fun e w' => e = .returned (.bool true) ∧ Below w.heap.size w w' := by
  have kS : Hid (Calls Tryd.prog 8 #[.slice (some ⟨w.heap.size, 0, none⟩) 3 3] (w.alloc (.cells #[.int .u8 97, .int .u8 98, .int .u8 99] 5)) fun e w' => ∃ v', e = .returned v' ∧ SK .u8 w' v' (sumB [97, 98, 99]) ∧ Below w.heap.size w w') :=
    (sum_any [97, 98, 99] (fun j => by match j with | 0 => decide | 1 => decide | 2 => decide | n + 3 => exact (by decide : (0 : Nat) < 256)) (by simp) _ _ (hg.grown ((Below.refl _ _).alloc (Nat.le_refl _) _)) (sk_abc w _ rfl)).mono
      fun e w' ⟨v', h1, h2, h3⟩ => ⟨v', h1, h2, ((Below.refl _ _).alloc (Nat.le_refl _) _).trans (h3.mono (by simp))⟩
  clear hg
  go_enter Tryd.func6, Tryd.ntmps6
  go_wp2_with fail
  refine kS.out.mono ?_
  rintro e w1 ⟨v', rfl, hs, hB⟩
  have HB : Hid (Below w.heap.size w w1) := hB
  obtain ⟨a, c, e⟩ := hs.shape
  rw [abc_sum] at hs
  rw [sumB_length] at e
  subst e
  obtain ⟨b, o, rfl, hb, hc, hcell⟩ := hs.at (by omega)
  have c0 := hcell 0 (by omega)
  have c1 := hcell 1 (by omega)
  have c2 := hcell 2 (by omega)
  have c31 := hcell 63 (by omega)
  have c0' : w1.cell? ⟨b, o, none⟩ = some (.int .u8 221) := c0
  have c1' : w1.cell? ⟨b, o + 1, none⟩ = some (.int .u8 175) := c1
  have c2' : w1.cell? ⟨b, o + 2, none⟩ = some (.int .u8 53) := c2
  have c31' : w1.cell? ⟨b, o + 63, none⟩ = some (.int .u8 159) := c31
  clear hs hB hcell c0 c1 c2 c31 kS
  go_wp2_with fail
  go_ret
  exact ⟨rfl, HB.out⟩

theorem HH.under {n : Nat} {W W' : World} {b : Nat} {m : List Nat} (h : HH W b m) (hb : Below n W W') (hn : b < n) : HH W' b m := by
  obtain ⟨r, h1, h2, h3⟩ := h
  refine ⟨r, h1, h2, ?_⟩
  unfold At at h3 ⊢
  rw [hb.block b hn]; exact h3

end Go.Proofs.YthmpbblljbihgaaDoor.Br
