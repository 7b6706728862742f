/-
  What memory holds between two rows of limb's Mul. Conditions: none beyond those written.
-/
import Derived.Test.YtpebinkmgkknbaaBase
namespace Go.Proofs.Ytpebinkmgkknbaa
open Go.RowKit

/-- What the world must still hold between two rows: a's box, the result's, the product's words l; nothing below has turned. -/
structure Mid (w : World) (a0 a1 a2 a3 : Int) (l : List Int) (W : World) : Prop where
  size : w.heap.size + 1 + 1 + 1 < W.heap.size
  below : Below w.heap.size w W
  ca0 : W.cell? ⟨w.heap.size, 0, none⟩ = some (.int .u64 a0)
  ca1 : W.cell? ⟨w.heap.size, 1, none⟩ = some (.int .u64 a1)
  ca2 : W.cell? ⟨w.heap.size, 2, none⟩ = some (.int .u64 a2)
  ca3 : W.cell? ⟨w.heap.size, 3, none⟩ = some (.int .u64 a3)
  cr : ∀ j, j < 8 → W.cell? ⟨w.heap.size + 1 + 1, j, none⟩ = some (.int .u64 0)
  cp : ∀ j, j < 8 → W.cell? ⟨w.heap.size + 1 + 1 + 1, j, none⟩ = some (.int .u64 (l.getD j 0))
  fr : ∀ j, W.frozen? ⟨w.heap.size + 1 + 1, j, none⟩ = false
  fp : ∀ j, W.frozen? ⟨w.heap.size + 1 + 1 + 1, j, none⟩ = false
  len : l.length = 8

theorem Mid.drew {w : World} {a0 a1 a2 a3 : Int} {l : List Int} {W : World} (h : Mid w a0 a1 a2 a3 l W) : Mid w a0 a1 a2 a3 l W.drew :=
  ⟨h.size, h.below.drew, h.ca0, h.ca1, h.ca2, h.ca3, h.cr, h.cp, h.fr, h.fp, h.len⟩
theorem frozen_past (W : World) (o : Obj) (n i : Nat) (h : n < W.heap.size) : (W.alloc o).frozen? ⟨n, i, none⟩ = W.frozen? ⟨n, i, none⟩ := World.frozen?_of_block (w := W) (Below.heap_alloc W o n h)
theorem Mid.alloc {w : World} {a0 a1 a2 a3 : Int} {l : List Int} {W : World} (h : Mid w a0 a1 a2 a3 l W) (o : Obj) : Mid w a0 a1 a2 a3 l (W.alloc o) := by
  have hs := h.size
  refine ⟨by simp; omega, h.below.alloc (by omega) o, ?_, ?_, ?_, ?_, ?_, ?_, ?_, ?_, h.len⟩
  · rw [World.cell?_alloc_past (w := W) o _ _ (by omega)]; exact h.ca0
  · rw [World.cell?_alloc_past (w := W) o _ _ (by omega)]; exact h.ca1
  · rw [World.cell?_alloc_past (w := W) o _ _ (by omega)]; exact h.ca2
  · rw [World.cell?_alloc_past (w := W) o _ _ (by omega)]; exact h.ca3
  · intro j hj; rw [World.cell?_alloc_past (w := W) o _ _ (by omega)]; exact h.cr j hj
  · intro j hj; rw [World.cell?_alloc_past (w := W) o _ _ (by omega)]; exact h.cp j hj
  · intro j; rw [frozen_past W o _ _ (by omega)]; exact h.fr j
  · intro j; rw [frozen_past W o _ _ (by omega)]; exact h.fp j
theorem Mid.set {w : World} {a0 a1 a2 a3 : Int} {l : List Int} {W : World} (h : Mid w a0 a1 a2 a3 l W) (i : Nat) (v : Int) (hi : i < 8) : Mid w a0 a1 a2 a3 (l.set i v) (W.setCell ⟨w.heap.size + 1 + 1 + 1, i, none⟩ (.int .u64 v)) := by
  have hs := h.size
  have other : ∀ n j, n ≠ w.heap.size + 1 + 1 + 1 → (W.setCell ⟨w.heap.size + 1 + 1 + 1, i, none⟩ (.int .u64 v)).cell? ⟨n, j, none⟩ = W.cell? ⟨n, j, none⟩ :=
    fun n j hn => World.cell?_setCell_other _ _ _ _ (fun q => hn (congrArg Addr.block q).symm)
  refine ⟨by simpa using hs, h.below.setCell (by simp; omega) _, ?_, ?_, ?_, ?_, ?_, ?_, ?_, ?_, by rw [List.length_set]; exact h.len⟩
  · rw [other _ _ (by omega)]; exact h.ca0
  · rw [other _ _ (by omega)]; exact h.ca1
  · rw [other _ _ (by omega)]; exact h.ca2
  · rw [other _ _ (by omega)]; exact h.ca3
  · intro j hj; rw [other _ _ (by omega)]; exact h.cr j hj
  · intro j hj
    have hl := h.len
    by_cases e : j = i
    · subst e
      rw [World.cell?_setCell_same _ _ _ (h.cp j hj)]
      simp [List.getD, hl, hj]
    · rw [World.cell?_setCell_other _ _ _ _ (fun q => e (by simpa using (congrArg Addr.off q).symm)), h.cp j hj]
      simp [List.getD, Ne.symm e]
  · intro j; rw [← h.fr j]; simp
  · intro j; rw [← h.fp j]; simp

theorem Mid.base (w : World) (a0 a1 a2 a3 p0 p1 p2 p3 p4 p5 p6 p7 : Int) (o : Obj) :
    Mid w a0 a1 a2 a3 [p0, p1, p2, p3, p4, p5, p6, p7] ((((w.alloc (.cells #[.int .u64 a0, .int .u64 a1, .int .u64 a2, .int .u64 a3] 24)).alloc o).alloc
      (.cells #[.int .u64 0, .int .u64 0, .int .u64 0, .int .u64 0, .int .u64 0, .int .u64 0, .int .u64 0, .int .u64 0] 38)).alloc
      (.cells #[.int .u64 p0, .int .u64 p1, .int .u64 p2, .int .u64 p3, .int .u64 p4, .int .u64 p5, .int .u64 p6, .int .u64 p7] 38)) := by
  constructor
  · simp
  · repeat (first | exact Below.refl _ _ | refine Below.alloc ?_ (by simp <;> omega) _)
  · simp [go_sem]
  · simp [go_sem]
  · simp [go_sem]
  · simp [go_sem]
  · intro j hj
    rcases (show j = 0 ∨ j = 1 ∨ j = 2 ∨ j = 3 ∨ j = 4 ∨ j = 5 ∨ j = 6 ∨ j = 7 by omega) with rfl | rfl | rfl | rfl | rfl | rfl | rfl | rfl <;> simp [go_sem]
  · intro j hj
    rcases (show j = 0 ∨ j = 1 ∨ j = 2 ∨ j = 3 ∨ j = 4 ∨ j = 5 ∨ j = 6 ∨ j = 7 by omega) with rfl | rfl | rfl | rfl | rfl | rfl | rfl | rfl <;> simp [go_sem]
  · intro j; simp [go_sem]
  · intro j; simp [go_sem]
  · rfl

theorem eight_read (W : World) (B : Nat) (v0 v1 v2 v3 v4 v5 v6 v7 : Int) (h : ∀ j, j < 8 → W.cell? ⟨B, j, none⟩ = some (.int .u64 0)) :
    ((((((((W.setCell ⟨B, 0, none⟩ (.int .u64 v0)).setCell ⟨B, 1, none⟩ (.int .u64 v1)).setCell ⟨B, 2, none⟩ (.int .u64 v2)).setCell ⟨B, 3, none⟩ (.int .u64 v3)).setCell ⟨B, 4, none⟩ (.int .u64 v4)).setCell ⟨B, 5, none⟩ (.int .u64 v5)).setCell ⟨B, 6, none⟩ (.int .u64 v6)).setCell ⟨B, 7, none⟩ (.int .u64 v7)).cell? ⟨B, 0, none⟩ = some (.int .u64 v0) ∧ ((((((((W.setCell ⟨B, 0, none⟩ (.int .u64 v0)).setCell ⟨B, 1, none⟩ (.int .u64 v1)).setCell ⟨B, 2, none⟩ (.int .u64 v2)).setCell ⟨B, 3, none⟩ (.int .u64 v3)).setCell ⟨B, 4, none⟩ (.int .u64 v4)).setCell ⟨B, 5, none⟩ (.int .u64 v5)).setCell ⟨B, 6, none⟩ (.int .u64 v6)).setCell ⟨B, 7, none⟩ (.int .u64 v7)).cell? ⟨B, 1, none⟩ = some (.int .u64 v1) ∧ ((((((((W.setCell ⟨B, 0, none⟩ (.int .u64 v0)).setCell ⟨B, 1, none⟩ (.int .u64 v1)).setCell ⟨B, 2, none⟩ (.int .u64 v2)).setCell ⟨B, 3, none⟩ (.int .u64 v3)).setCell ⟨B, 4, none⟩ (.int .u64 v4)).setCell ⟨B, 5, none⟩ (.int .u64 v5)).setCell ⟨B, 6, none⟩ (.int .u64 v6)).setCell ⟨B, 7, none⟩ (.int .u64 v7)).cell? ⟨B, 2, none⟩ = some (.int .u64 v2) ∧ ((((((((W.setCell ⟨B, 0, none⟩ (.int .u64 v0)).setCell ⟨B, 1, none⟩ (.int .u64 v1)).setCell ⟨B, 2, none⟩ (.int .u64 v2)).setCell ⟨B, 3, none⟩ (.int .u64 v3)).setCell ⟨B, 4, none⟩ (.int .u64 v4)).setCell ⟨B, 5, none⟩ (.int .u64 v5)).setCell ⟨B, 6, none⟩ (.int .u64 v6)).setCell ⟨B, 7, none⟩ (.int .u64 v7)).cell? ⟨B, 3, none⟩ = some (.int .u64 v3) ∧ ((((((((W.setCell ⟨B, 0, none⟩ (.int .u64 v0)).setCell ⟨B, 1, none⟩ (.int .u64 v1)).setCell ⟨B, 2, none⟩ (.int .u64 v2)).setCell ⟨B, 3, none⟩ (.int .u64 v3)).setCell ⟨B, 4, none⟩ (.int .u64 v4)).setCell ⟨B, 5, none⟩ (.int .u64 v5)).setCell ⟨B, 6, none⟩ (.int .u64 v6)).setCell ⟨B, 7, none⟩ (.int .u64 v7)).cell? ⟨B, 4, none⟩ = some (.int .u64 v4) ∧ ((((((((W.setCell ⟨B, 0, none⟩ (.int .u64 v0)).setCell ⟨B, 1, none⟩ (.int .u64 v1)).setCell ⟨B, 2, none⟩ (.int .u64 v2)).setCell ⟨B, 3, none⟩ (.int .u64 v3)).setCell ⟨B, 4, none⟩ (.int .u64 v4)).setCell ⟨B, 5, none⟩ (.int .u64 v5)).setCell ⟨B, 6, none⟩ (.int .u64 v6)).setCell ⟨B, 7, none⟩ (.int .u64 v7)).cell? ⟨B, 5, none⟩ = some (.int .u64 v5) ∧ ((((((((W.setCell ⟨B, 0, none⟩ (.int .u64 v0)).setCell ⟨B, 1, none⟩ (.int .u64 v1)).setCell ⟨B, 2, none⟩ (.int .u64 v2)).setCell ⟨B, 3, none⟩ (.int .u64 v3)).setCell ⟨B, 4, none⟩ (.int .u64 v4)).setCell ⟨B, 5, none⟩ (.int .u64 v5)).setCell ⟨B, 6, none⟩ (.int .u64 v6)).setCell ⟨B, 7, none⟩ (.int .u64 v7)).cell? ⟨B, 6, none⟩ = some (.int .u64 v6) ∧ ((((((((W.setCell ⟨B, 0, none⟩ (.int .u64 v0)).setCell ⟨B, 1, none⟩ (.int .u64 v1)).setCell ⟨B, 2, none⟩ (.int .u64 v2)).setCell ⟨B, 3, none⟩ (.int .u64 v3)).setCell ⟨B, 4, none⟩ (.int .u64 v4)).setCell ⟨B, 5, none⟩ (.int .u64 v5)).setCell ⟨B, 6, none⟩ (.int .u64 v6)).setCell ⟨B, 7, none⟩ (.int .u64 v7)).cell? ⟨B, 7, none⟩ = some (.int .u64 v7) := by
  have h0 := h 0 (by omega)
  have h1 := h 1 (by omega)
  have h2 := h 2 (by omega)
  have h3 := h 3 (by omega)
  have h4 := h 4 (by omega)
  have h5 := h 5 (by omega)
  have h6 := h 6 (by omega)
  have h7 := h 7 (by omega)
  refine ⟨?_, ?_, ?_, ?_, ?_, ?_, ?_, ?_⟩ <;> simp [go_sem, h0, h1, h2, h3, h4, h5, h6, h7]

end Go.Proofs.Ytpebinkmgkknbaa
