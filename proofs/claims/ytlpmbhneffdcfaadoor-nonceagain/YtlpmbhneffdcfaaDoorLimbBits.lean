/-
  The contracts of limb's word and Bits: for numbers below 2^256 they return the document's answer and change no memory that was there. Conditions: as each theorem says.
-/
import Derived.Test.YtlpmbhneffdcfaaDoorBase
import Derived.Test.YtlpmbhneffdcfaaDoorBitz
namespace Go.Proofs.YtlpmbhneffdcfaaDoor
open Go.RowKit
set_option linter.unusedVariables false
attribute [local go_sem] idx4_0 idx4_1 idx4_2 idx4_3

set_option maxHeartbeats 4000000 in
theorem bits_any (x : Nat) (hx : x < M4) (w : World) :
    Calls Tryd.prog 13 #[four x] w fun e w' => e = .returned (.int .i64 (nbits x : Int)) ∧ Below w.heap.size w w' := by
  obtain ⟨a0, a1, a2, a3, ha0, ha1, ha2, ha3, ea, hxa⟩ := four_open x hx
  obtain ⟨l0, z0, L0, Y0⟩ : ∃ l : Int, (0 ≤ l ∧ l ≤ 64) ∧ Hid (l = (nbits a0.toNat : Int)) ∧ ∀ w, Calls Tryd.prog 34 #[.int .u64 a0] w fun e w' => e = .returned (.int .i64 l) ∧ w' = w := by
    have ha := ha0
    unfold Wd at ha
    refine ⟨(Lib.bitLen a0.toNat : Int), ⟨by omega, ?_⟩, ?_, fun w => len64_any a0 w (by omega) (by omega)⟩
    · have := nbits_le a0.toNat 64 (by omega)
      rw [bitLen_nbits _ (by omega)]
      omega
    · unfold Hid
      rw [bitLen_nbits _ (by omega)]
  obtain ⟨l1, z1, L1, Y1⟩ : ∃ l : Int, (0 ≤ l ∧ l ≤ 64) ∧ Hid (l = (nbits a1.toNat : Int)) ∧ ∀ w, Calls Tryd.prog 34 #[.int .u64 a1] w fun e w' => e = .returned (.int .i64 l) ∧ w' = w := by
    have ha := ha1
    unfold Wd at ha
    refine ⟨(Lib.bitLen a1.toNat : Int), ⟨by omega, ?_⟩, ?_, fun w => len64_any a1 w (by omega) (by omega)⟩
    · have := nbits_le a1.toNat 64 (by omega)
      rw [bitLen_nbits _ (by omega)]
      omega
    · unfold Hid
      rw [bitLen_nbits _ (by omega)]
  obtain ⟨l2, z2, L2, Y2⟩ : ∃ l : Int, (0 ≤ l ∧ l ≤ 64) ∧ Hid (l = (nbits a2.toNat : Int)) ∧ ∀ w, Calls Tryd.prog 34 #[.int .u64 a2] w fun e w' => e = .returned (.int .i64 l) ∧ w' = w := by
    have ha := ha2
    unfold Wd at ha
    refine ⟨(Lib.bitLen a2.toNat : Int), ⟨by omega, ?_⟩, ?_, fun w => len64_any a2 w (by omega) (by omega)⟩
    · have := nbits_le a2.toNat 64 (by omega)
      rw [bitLen_nbits _ (by omega)]
      omega
    · unfold Hid
      rw [bitLen_nbits _ (by omega)]
  obtain ⟨l3, z3, L3, Y3⟩ : ∃ l : Int, (0 ≤ l ∧ l ≤ 64) ∧ Hid (l = (nbits a3.toNat : Int)) ∧ ∀ w, Calls Tryd.prog 34 #[.int .u64 a3] w fun e w' => e = .returned (.int .i64 l) ∧ w' = w := by
    have ha := ha3
    unfold Wd at ha
    refine ⟨(Lib.bitLen a3.toNat : Int), ⟨by omega, ?_⟩, ?_, fun w => len64_any a3 w (by omega) (by omega)⟩
    · have := nbits_le a3.toNat 64 (by omega)
      rw [bitLen_nbits _ (by omega)]
      omega
    · unfold Hid
      rw [bitLen_nbits _ (by omega)]
  obtain ⟨o1, h1⟩ : ∃ o : Int, Hid (o = if a0 = 0 then 0 else l0) := ⟨_, rfl⟩
  obtain ⟨o2, h2⟩ : ∃ o : Int, Hid (o = if a1 = 0 then o1 else 64 + l1) := ⟨_, rfl⟩
  obtain ⟨o3, h3⟩ : ∃ o : Int, Hid (o = if a2 = 0 then o2 else 128 + l2) := ⟨_, rfl⟩
  obtain ⟨o4, h4⟩ : ∃ o : Int, Hid (o = if a3 = 0 then o3 else 192 + l3) := ⟨_, rfl⟩
  have V : Hid ((nbits x : Int) = o4) := by
    unfold Hid at L0 L1 L2 L3 h1 h2 h3 h4
    rw [L0] at h1; rw [L1] at h2; rw [L2] at h3; rw [L3] at h4
    exact bitsV x a0 a1 a2 a3 o1 o2 o3 o4 ha0 ha1 ha2 ha3 hxa h1 h2 h3 h4
  rw [ea]
  clear hxa ea hx
  go_enter Tryd.func13, Tryd.ntmps13
  go_wp2
  go_loop [3, 7] (fun o i => (i = .int .i64 0 ∧ o = .int .i64 0) ∨ (i = .int .i64 1 ∧ o = .int .i64 o1) ∨ (i = .int .i64 2 ∧ o = .int .i64 o2) ∨ (i = .int .i64 3 ∧ o = .int .i64 o3) ∨ (i = .int .i64 4 ∧ o = .int .i64 o4)) (fun _ i => 4 - (intOf i).toNat)
  case atStart => exact Or.inl ⟨rfl, rfl⟩
  case round =>
    rcases hrel with ⟨rfl, rfl⟩ | ⟨rfl, rfl⟩ | ⟨rfl, rfl⟩ | ⟨rfl, rfl⟩ | ⟨rfl, rfl⟩
    · by_cases e : a0 = 0
      · have d : (a0 != 0) = false := by simp [e]
        have g : Hid (o1 = 0) := by unfold Hid at *; rw [h1, if_pos e]
        clear e
        go_wp2
        go_round
        case rel => exact Or.inr (Or.inl ⟨rfl, by rw [g.out]⟩)
        case measure => simp [intOf]
      · have d : (a0 != 0) = true := by simp [e]
        have g : Hid (o1 = l0) := by unfold Hid at *; rw [h1, if_neg e]
        clear e
        go_wp2_with (go_at_call 34; refine (Y0 _).mono ?_; rintro e w' ⟨rfl, rfl⟩)
        go_round
        case rel => exact Or.inr (Or.inl ⟨rfl, by rw [g.out]⟩)
        case measure => simp [intOf]
    · by_cases e : a1 = 0
      · have d : (a1 != 0) = false := by simp [e]
        have g : Hid (o2 = o1) := by unfold Hid at *; rw [h2, if_pos e]
        clear e
        go_wp2
        go_round
        case rel => exact Or.inr (Or.inr (Or.inl ⟨rfl, by rw [g.out]⟩))
        case measure => simp [intOf]
      · have d : (a1 != 0) = true := by simp [e]
        have g : Hid (o2 = 64 + l1) := by unfold Hid at *; rw [h2, if_neg e]
        clear e
        go_wp2_with (go_at_call 34; refine (Y1 _).mono ?_; rintro e w' ⟨rfl, rfl⟩)
        go_round
        case rel => exact Or.inr (Or.inr (Or.inl ⟨rfl, by rw [g.out]⟩))
        case measure => simp [intOf]
    · by_cases e : a2 = 0
      · have d : (a2 != 0) = false := by simp [e]
        have g : Hid (o3 = o2) := by unfold Hid at *; rw [h3, if_pos e]
        clear e
        go_wp2
        go_round
        case rel => exact Or.inr (Or.inr (Or.inr (Or.inl ⟨rfl, by rw [g.out]⟩)))
        case measure => simp [intOf]
      · have d : (a2 != 0) = true := by simp [e]
        have g : Hid (o3 = 128 + l2) := by unfold Hid at *; rw [h3, if_neg e]
        clear e
        go_wp2_with (go_at_call 34; refine (Y2 _).mono ?_; rintro e w' ⟨rfl, rfl⟩)
        go_round
        case rel => exact Or.inr (Or.inr (Or.inr (Or.inl ⟨rfl, by rw [g.out]⟩)))
        case measure => simp [intOf]
    · by_cases e : a3 = 0
      · have d : (a3 != 0) = false := by simp [e]
        have g : Hid (o4 = o3) := by unfold Hid at *; rw [h4, if_pos e]
        clear e
        go_wp2
        go_round
        case rel => exact Or.inr (Or.inr (Or.inr (Or.inr (⟨rfl, by rw [g.out]⟩))))
        case measure => simp [intOf]
      · have d : (a3 != 0) = true := by simp [e]
        have g : Hid (o4 = 192 + l3) := by unfold Hid at *; rw [h4, if_neg e]
        clear e
        go_wp2_with (go_at_call 34; refine (Y3 _).mono ?_; rintro e w' ⟨rfl, rfl⟩)
        go_round
        case rel => exact Or.inr (Or.inr (Or.inr (Or.inr (⟨rfl, by rw [g.out]⟩))))
        case measure => simp [intOf]
    · go_wp2
      go_ret
      exact ⟨ret_int V.out.symm, by repeat (first | exact Below.refl _ _ | refine Below.alloc ?_ (by simp <;> omega) _)⟩

end Go.Proofs.YtlpmbhneffdcfaaDoor
