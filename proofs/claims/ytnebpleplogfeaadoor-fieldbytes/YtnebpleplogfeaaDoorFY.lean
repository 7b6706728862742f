/-
  The field's Of for any bytes: it answers yes where they are 32 and the number that the document's Little reads is below p. It changes no memory that was there. Conditions: bytes.
-/
import Derived.Test.YtnebpleplogfeaaDoorFL
import Derived.Test.YtnebpleplogfeaaDoorFW
namespace Go.Proofs.YtnebpleplogfeaaDoor
open Go.RowKit
set_option linter.unusedVariables false

theorem turn_bb (l : List Nat) (hf : Bb l) : Bb (turn l) := by
  intro j
  by_cases h : j < l.length
  · rw [turn_get l j h]; exact hf _
  · rw [List.getD_eq_getElem?_getD, List.getElem?_eq_none (by rw [turn_length]; omega)]; simp
theorem vb_turn (l : List Nat) (hf : Bb l) (h : l.length = 32) : vb (fun j => (l.getD j 0 : Int)) 32 = hvN (turn l) l.length := by
  have e := vb_hvN (turn l) (turn_bb l hf) (turn l).length (Nat.le_refl _)
  rw [Nat.sub_self, turn_length] at e
  rw [← e, h]
  refine vb_congr _ _ 32 (fun j hj => ?_)
  unfold lowF
  rw [if_pos (by rw [turn_length]; omega), turn_length, turn_get _ _ (by omega)]
  congr 2
  omega
theorem of_all (l : List Nat) (hb : Bb l) : ∃ (z : L5) (ok : Bool), ok = decide (l.length = 32 ∧ hvN (turn l) l.length < P25) ∧ (ok = true → z.Tm ∧ z.nn = hvN (turn l) l.length) ∧ (ok = false → z = ⟨0, 0, 0, 0, 0⟩) ∧ ∀ (v : Value) (w : World), SK .u8 w v l → Calls Tryd.prog 31 #[v] w fun e w' => e = .returned (.tuple #[.agg #[.int .u64 z.l0, .int .u64 z.l1, .int .u64 z.l2, .int .u64 z.l3, .int .u64 z.l4], .bool ok]) ∧ Below w.heap.size w w' := by
  have rg : ∀ j, 0 ≤ (l.getD j 0 : Int) ∧ (l.getD j 0 : Int) ≤ 255 := fun j => by have := hb j; omega
  by_cases h : l.length = 32
  · have e := vb_turn l hb h
    by_cases hN : hvN (turn l) l.length < P25
    · refine ⟨ld (vb (fun j => (l.getD j 0 : Int)) 32), true, (decide_eq_true ⟨h, hN⟩).symm, fun _ => ⟨ld_tame _ (vb32_lt _ rg), ?_⟩, fun h => by simp at h, ?_⟩
      · rw [← e]
        rw [← e] at hN
        exact nn_low (by rw [ld_num]) hN
      · intro v w hS
        obtain ⟨a, cap, rfl, hcap, -, hc⟩ := hS
        obtain ⟨b, o, rfl, lb, -⟩ := hc 0 (by omega)
        rw [← e] at hN
        have := of_yes (fun j => (l.getD j 0 : Int)) rg b o cap w lb (fun j hj => ?_) hN
        · rw [h]; exact this
        · obtain ⟨b', o', e', -, h'⟩ := hc j (by omega)
          simp only [Option.some.injEq, Addr.mk.injEq, and_true] at e'
          obtain ⟨rfl, rfl⟩ := e'
          exact h'
    · refine ⟨⟨0, 0, 0, 0, 0⟩, false, by simp [hN], fun h => by simp at h, fun _ => rfl, ?_⟩
      intro v w hS
      obtain ⟨a, cap, rfl, hcap, -, hc⟩ := hS
      obtain ⟨b, o, rfl, lb, -⟩ := hc 0 (by omega)
      rw [← e] at hN
      have := of_no (fun j => (l.getD j 0 : Int)) rg b o cap w lb (fun j hj => ?_) hN
      · rw [h]; exact this
      · obtain ⟨b', o', e', -, h'⟩ := hc j (by omega)
        simp only [Option.some.injEq, Addr.mk.injEq, and_true] at e'
        obtain ⟨rfl, rfl⟩ := e'
        exact h'
  · refine ⟨⟨0, 0, 0, 0, 0⟩, false, by simp [h], fun h => by simp at h, fun _ => rfl, ?_⟩
    intro v w hS
    obtain ⟨a, cap, rfl, hcap, -, hc⟩ := hS
    exact of_short a l.length cap h w

end Go.Proofs.YtnebpleplogfeaaDoor
