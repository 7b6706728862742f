/-
  Slices of numbers of one kind (words, bytes) in memory. Conditions: none beyond those written.
-/
import Derived.Test.YtkbiiolkekpkiaaDoorNum
namespace Go.Proofs.YtkbiiolkekpkiaaDoor
open Go.RowKit
set_option linter.unusedVariables false

/-- The slice v leads to the numbers l, of kind k. -/
def SK (k : IntKind) (w : World) (v : Value) (l : List Nat) : Prop :=
  ∃ a cap, v = .slice a l.length cap ∧ l.length ≤ cap ∧ (a = none → l = [] ∧ cap = 0) ∧ ∀ j, j < l.length → ∃ b o, a = some ⟨b, o, none⟩ ∧ b < w.heap.size ∧ w.cell? ⟨b, o + j, none⟩ = some (.int k (l.getD j 0 : Int))
theorem SK.below {k : IntKind} {w w' : World} {v : Value} {l : List Nat} (h : SK k w v l) (hb : Below w.heap.size w w') : SK k w' v l := by
  obtain ⟨a, cap, h1, h2, h4, h3⟩ := h
  refine ⟨a, cap, h1, h2, h4, fun j hj => ?_⟩
  obtain ⟨b, o, e1, e2, e3⟩ := h3 j hj
  exact ⟨b, o, e1, Nat.lt_of_lt_of_le e2 hb.size, (hb.cell (p := ⟨b, o + j, none⟩) e2).trans e3⟩
theorem SK.nil (k : IntKind) (w : World) : SK k w (.slice none 0 0) [] := ⟨none, 0, rfl, Nat.le_refl _, fun _ => ⟨rfl, rfl⟩, fun j hj => by simp at hj⟩
theorem SK.shape {k : IntKind} {w : World} {v : Value} {l : List Nat} (h : SK k w v l) : ∃ a d, v = .slice a l.length d := by
  obtain ⟨a, cap, h1, -⟩ := h
  exact ⟨a, cap, h1⟩
theorem SK.take {k : IntKind} {w : World} {a : Option Addr} {cap cap' n : Nat} {l : List Nat} (h : SK k w (.slice a l.length cap) l) (hn : n ≤ l.length) (hc : n ≤ cap') (hc' : a = none → cap' = 0) : SK k w (.slice a n cap') (l.take n) := by
  obtain ⟨a', c', h1, h2, h4, h3⟩ := h
  simp only [Value.slice.injEq] at h1
  obtain ⟨rfl, -, rfl⟩ := h1
  have e : (l.take n).length = n := by rw [List.length_take]; omega
  refine ⟨a, cap', by rw [e], by omega, fun hh => ?_, fun j hj => ?_⟩
  · obtain ⟨rfl, -⟩ := h4 hh
    exact ⟨by simp, hc' hh⟩
  · obtain ⟨b, o, e1, e2, e3⟩ := h3 j (by omega)
    refine ⟨b, o, e1, e2, ?_⟩
    rw [e3, List.getD_eq_getElem?_getD, List.getD_eq_getElem?_getD, List.getElem?_take, if_pos (by omega)]

end Go.Proofs.YtkbiiolkekpkiaaDoor
