/-
  The contracts of limb's Cmp, Bits and word: for numbers below 2^256 they return the document's answer and change no memory that was there. Conditions: as each theorem says.
-/
import Derived.Test.YtlpmbhneffdcfaaDoorOrd
namespace Go.Proofs.YtlpmbhneffdcfaaDoor
open Go.RowKit
set_option linter.unusedVariables false
attribute [local go_sem] idx4_0 idx4_1 idx4_2 idx4_3

theorem ordV (x y : Nat) (a0 a1 a2 a3 b0 b1 b2 b3 o1 o2 o3 o4 : Int) (ha0 : Wd a0) (ha1 : Wd a1) (ha2 : Wd a2) (ha3 : Wd a3) (hb0 : Wd b0) (hb1 : Wd b1) (hb2 : Wd b2) (hb3 : Wd b3)
    (hx : (x : Int) = a0 + 18446744073709551616 * a1 + 340282366920938463463374607431768211456 * a2 + 6277101735386680763835789423207666416102355444464034512896 * a3) (hy : (y : Int) = b0 + 18446744073709551616 * b1 + 340282366920938463463374607431768211456 * b2 + 6277101735386680763835789423207666416102355444464034512896 * b3)
    (h1 : o1 = if a0 = b0 then 0 else ord a0 b0) (h2 : o2 = if a1 = b1 then o1 else ord a1 b1) (h3 : o3 = if a2 = b2 then o2 else ord a2 b2) (h4 : o4 = if a3 = b3 then o3 else ord a3 b3) : ord x y = o4 := by
  unfold Wd at *
  by_cases e3 : a3 = b3
  · rw [if_pos e3] at h4
    by_cases e2 : a2 = b2
    · rw [if_pos e2] at h3
      by_cases e1 : a1 = b1
      · rw [if_pos e1] at h2
        by_cases e0 : a0 = b0
        · rw [if_pos e0] at h1
          rw [h4, h3, h2, h1, ord_eq (by omega)]
        · rw [if_neg e0] at h1
          rw [h4, h3, h2, h1]
          rcases Int.lt_or_gt_of_ne e0 with h | h
          · rw [ord_lt h, ord_lt (by omega)]
          · rw [ord_gt h, ord_gt (by omega)]
      · rw [if_neg e1] at h2
        rw [h4, h3, h2]
        clear h1 h2
        rcases Int.lt_or_gt_of_ne e1 with h | h
        · rw [ord_lt h, ord_lt (by omega)]
        · rw [ord_gt h, ord_gt (by omega)]
    · rw [if_neg e2] at h3
      rw [h4, h3]
      clear h1 h2 h3
      rcases Int.lt_or_gt_of_ne e2 with h | h
      · rw [ord_lt h, ord_lt (by omega)]
      · rw [ord_gt h, ord_gt (by omega)]
  · rw [if_neg e3] at h4
    rw [h4]
    clear h1 h2 h3 h4
    rcases Int.lt_or_gt_of_ne e3 with h | h
    · rw [ord_lt h, ord_lt (by omega)]
    · rw [ord_gt h, ord_gt (by omega)]

set_option maxHeartbeats 4000000 in
theorem cmp_any (x y : Nat) (hx : x < M4) (hy : y < M4) (w : World) :
    Calls Tryd.prog 11 #[four x, four y] w fun e w' => e = .returned (.int .i64 (ord x y)) ∧ Below w.heap.size w w' := by
  obtain ⟨a0, a1, a2, a3, ha0, ha1, ha2, ha3, ea, hxa⟩ := four_open x hx
  obtain ⟨b0, b1, b2, b3, hb0, hb1, hb2, hb3, eb, hyb⟩ := four_open y hy
  obtain ⟨o1, h1⟩ : ∃ o : Int, Hid (o = if a0 = b0 then 0 else ord a0 b0) := ⟨_, rfl⟩
  obtain ⟨o2, h2⟩ : ∃ o : Int, Hid (o = if a1 = b1 then o1 else ord a1 b1) := ⟨_, rfl⟩
  obtain ⟨o3, h3⟩ : ∃ o : Int, Hid (o = if a2 = b2 then o2 else ord a2 b2) := ⟨_, rfl⟩
  obtain ⟨o4, h4⟩ : ∃ o : Int, Hid (o = if a3 = b3 then o3 else ord a3 b3) := ⟨_, rfl⟩
  have V : Hid (ord x y = o4) := ordV x y a0 a1 a2 a3 b0 b1 b2 b3 o1 o2 o3 o4 ha0 ha1 ha2 ha3 hb0 hb1 hb2 hb3 hxa hyb h1 h2 h3 h4
  rw [ea, eb]
  clear hxa hyb ea eb hx hy
  go_enter Tryd.func11, Tryd.ntmps11
  go_wp2
  go_loop [5, 9] (fun o i => (i = .int .i64 0 ∧ o = .int .i64 0) ∨ (i = .int .i64 1 ∧ o = .int .i64 o1) ∨ (i = .int .i64 2 ∧ o = .int .i64 o2) ∨ (i = .int .i64 3 ∧ o = .int .i64 o3) ∨ (i = .int .i64 4 ∧ o = .int .i64 o4)) (fun _ i => 4 - (intOf i).toNat)
  case atStart => exact Or.inl ⟨rfl, rfl⟩
  case round =>
    rcases hrel with ⟨rfl, rfl⟩ | ⟨rfl, rfl⟩ | ⟨rfl, rfl⟩ | ⟨rfl, rfl⟩ | ⟨rfl, rfl⟩
    · by_cases e : a0 = b0
      · have d : (a0 != b0) = false := by simp [e]
        have g : Hid (o1 = 0) := by unfold Hid at *; rw [h1, if_pos e]
        clear e
        go_wp2
        go_round
        case rel => exact Or.inr (Or.inl ⟨rfl, by rw [g.out]⟩)
        case measure => simp [intOf]
      · have d : (a0 != b0) = true := by simp [e]
        have g : Hid (o1 = ord a0 b0) := by unfold Hid at *; rw [h1, if_neg e]
        clear e
        go_wp2_with (go_at_call 29; refine (compare_any _ _ ha0 hb0 _).mono ?_; rintro e w' ⟨rfl, rfl⟩)
        go_round
        case rel => exact Or.inr (Or.inl ⟨rfl, by rw [g.out]⟩)
        case measure => simp [intOf]
    · by_cases e : a1 = b1
      · have d : (a1 != b1) = false := by simp [e]
        have g : Hid (o2 = o1) := by unfold Hid at *; rw [h2, if_pos e]
        clear e
        go_wp2
        go_round
        case rel => exact Or.inr (Or.inr (Or.inl ⟨rfl, by rw [g.out]⟩))
        case measure => simp [intOf]
      · have d : (a1 != b1) = true := by simp [e]
        have g : Hid (o2 = ord a1 b1) := by unfold Hid at *; rw [h2, if_neg e]
        clear e
        go_wp2_with (go_at_call 29; refine (compare_any _ _ ha1 hb1 _).mono ?_; rintro e w' ⟨rfl, rfl⟩)
        go_round
        case rel => exact Or.inr (Or.inr (Or.inl ⟨rfl, by rw [g.out]⟩))
        case measure => simp [intOf]
    · by_cases e : a2 = b2
      · have d : (a2 != b2) = false := by simp [e]
        have g : Hid (o3 = o2) := by unfold Hid at *; rw [h3, if_pos e]
        clear e
        go_wp2
        go_round
        case rel => exact Or.inr (Or.inr (Or.inr (Or.inl ⟨rfl, by rw [g.out]⟩)))
        case measure => simp [intOf]
      · have d : (a2 != b2) = true := by simp [e]
        have g : Hid (o3 = ord a2 b2) := by unfold Hid at *; rw [h3, if_neg e]
        clear e
        go_wp2_with (go_at_call 29; refine (compare_any _ _ ha2 hb2 _).mono ?_; rintro e w' ⟨rfl, rfl⟩)
        go_round
        case rel => exact Or.inr (Or.inr (Or.inr (Or.inl ⟨rfl, by rw [g.out]⟩)))
        case measure => simp [intOf]
    · by_cases e : a3 = b3
      · have d : (a3 != b3) = false := by simp [e]
        have g : Hid (o4 = o3) := by unfold Hid at *; rw [h4, if_pos e]
        clear e
        go_wp2
        go_round
        case rel => exact Or.inr (Or.inr (Or.inr (Or.inr (⟨rfl, by rw [g.out]⟩))))
        case measure => simp [intOf]
      · have d : (a3 != b3) = true := by simp [e]
        have g : Hid (o4 = ord a3 b3) := by unfold Hid at *; rw [h4, if_neg e]
        clear e
        go_wp2_with (go_at_call 29; refine (compare_any _ _ ha3 hb3 _).mono ?_; rintro e w' ⟨rfl, rfl⟩)
        go_round
        case rel => exact Or.inr (Or.inr (Or.inr (Or.inr (⟨rfl, by rw [g.out]⟩))))
        case measure => simp [intOf]
    · go_wp2
      go_ret
      exact ⟨ret_int V.out.symm, by repeat (first | exact Below.refl _ _ | refine Below.alloc ?_ (by simp <;> omega) _)⟩

end Go.Proofs.YtlpmbhneffdcfaaDoor
