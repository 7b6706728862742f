/-
  A slice in memory leads to one number. Conditions: as each theorem says.
-/
import Derived.Test.YtkbiiolkekpkiaaDoorNumLv
namespace Go.Proofs.YtkbiiolkekpkiaaDoor
open Go.RowKit
set_option linter.unusedVariables false

theorem sl_unique {w : World} {v : Value} {l l' : List Nat} (h : Sl w v l) (h' : Sl w v l') : l = l' := by
  obtain ⟨a, c, e, -, -, k⟩ := h
  obtain ⟨a', c', e', -, -, k'⟩ := h'
  rw [e] at e'
  simp only [Value.slice.injEq] at e'
  obtain ⟨rfl, hl, rfl⟩ := e'
  apply List.ext_getElem?
  intro j
  by_cases hj : j < l.length
  · obtain ⟨b, o, e1, -, e2⟩ := k j hj
    obtain ⟨b', o', e1', -, e2'⟩ := k' j (by omega)
    rw [e1] at e1'
    simp only [Option.some.injEq, Addr.mk.injEq, and_true] at e1'
    obtain ⟨rfl, rfl⟩ := e1'
    rw [e2] at e2'
    simp only [Option.some.injEq, Value.int.injEq, true_and] at e2'
    have hj' : j < l'.length := by omega
    simp only [List.getD_eq_getElem?_getD, List.getElem?_eq_getElem hj, List.getElem?_eq_getElem hj', Option.getD_some] at e2' ⊢
    congr 1
    omega
  · rw [List.getElem?_eq_none (by omega), List.getElem?_eq_none (by omega)]
theorem num_unique {w : World} {v : Value} {N N' : Nat} (h : Num w v N) (h' : Num w v N') : N = N' := by
  obtain ⟨l, h1, -, -, rfl⟩ := h
  obtain ⟨l', h1', -, -, rfl⟩ := h'
  rw [sl_unique h1 h1']
theorem num_eps {w : World} {v : Value} {N : Nat} (h : Num w v N) : Classical.epsilon (fun n => Num w v n) = N := num_unique (Classical.epsilon_spec ⟨N, h⟩) h

end Go.Proofs.YtkbiiolkekpkiaaDoor
