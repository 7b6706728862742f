/-
  The contract of limb's Bytes: for a number below 2^256 it returns a new slice of its 32 bytes, the highest or the lowest first, and changes no memory that was there. Conditions: as the theorem says.
-/
import Derived.Test.YtlpmbhneffdcfaaDoorLimbBits
namespace Go.Proofs.YtlpmbhneffdcfaaDoor
open Go.RowKit
set_option linter.unusedVariables false
attribute [local go_sem] idx4_0 idx4_1 idx4_2 idx4_3

/-- Where the i-th byte from the lowest on stands. -/
def pl (big : Bool) (j : Nat) : Nat := if big then 31 - j else j
theorem pl_lt (big : Bool) (j : Nat) (h : j < 32) : pl big j < 32 := by unfold pl; split <;> omega
theorem pl_inj (big : Bool) (i j : Nat) (hi : i < 32) (hj : j < 32) (h : pl big i = pl big j) : i = j := by unfold pl at h; split at h <;> omega
theorem pl_pl (big : Bool) (j : Nat) (h : j < 32) : pl big (pl big j) = j := by unfold pl; split <;> omega

theorem place_any (z : Int) (big : Bool) (h0 : 0 ≤ z) (h : z < 32) (w : World) : Calls Tryd.prog 35 #[.int .i64 z, .bool big] w fun e w' => e = .returned (.int .i64 (pl big z.toNat : Int)) ∧ w' = w := by
  cases big
  · go_enter Tryd.func35, Tryd.ntmps35
    go_wp2
    go_ret
    exact ⟨ret_int (by simp [pl]; omega), rfl⟩
  · go_enter Tryd.func35, Tryd.ntmps35
    go_wp2
    go_ret
    exact ⟨ret_int (by simp [pl]; omega), rfl⟩

theorem make32 (w : World) : (Instr.makeSlice 25 (.int .i64 32) (.int .i64 32)).run Tryd.prog w = .ok (.slice (some ⟨w.heap.size, 0, none⟩) 32 32) (w.alloc (.cells (Array.replicate 32 (.int .u8 0)) 5)) := by kernel_rfl

/-- The first t bytes stand in block B. -/
structure Filled (big : Bool) (x B t : Nat) (W : World) : Prop where
  cell : ∀ j, j < 32 → W.cell? ⟨B, pl big j, none⟩ = some (.int .u8 (if j < t then byteAt x j else 0))
  free : ∀ o, W.frozen? ⟨B, o, none⟩ = false
  size : B < W.heap.size

theorem Filled.drew {big : Bool} {x B t : Nat} {W : World} (h : Filled big x B t W) : Filled big x B t W.drew := ⟨h.cell, h.free, h.size⟩
theorem Filled.step {big : Bool} {x B t : Nat} {W : World} (h : Filled big x B t W) (ht : t < 32) : Filled big x B (t + 1) (W.setCell ⟨B, pl big t, none⟩ (.int .u8 (byteAt x t))) := by
  refine ⟨fun j hj => ?_, fun o => ?_, ?_⟩
  · by_cases e : j = t
    · subst e
      rw [World.cell?_setCell_same _ _ _ (h.cell j hj), if_pos (by omega)]
    · rw [World.cell?_setCell_other _ _ _ _ (fun q => e (pl_inj big t j ht hj (by simpa using congrArg Addr.off q)).symm), h.cell j hj]
      by_cases hlt : j < t
      · rw [if_pos hlt, if_pos (by omega)]
      · rw [if_neg hlt, if_neg (by omega)]
  · rw [← h.free o]; simp
  · simpa using h.size

set_option maxHeartbeats 2000000 in
theorem bytes_any (x : Nat) (big : Bool) (hx : x < M4) (w : World) :
    Calls Tryd.prog 39 #[four x, .bool big] w fun e w' => e = .returned (.slice (some ⟨w.heap.size + 1, 0, none⟩) 32 32) ∧ Filled big x (w.heap.size + 1) 32 w' ∧ Below w.heap.size w w' := by
  obtain ⟨a0, a1, a2, a3, ha0, ha1, ha2, ha3, ea, e0, e1, e2, e3⟩ := four_open' x hx
  have E0 : Hid _ := e0
  have E1 : Hid _ := e1
  have E2 : Hid _ := e2
  have E3 : Hid _ := e3
  rw [ea]
  clear ea hx e0 e1 e2 e3
  unfold Wd at ha0 ha1 ha2 ha3
  have hmk := make32
  go_enter Tryd.func39, Tryd.ntmps39
  go_wp2
  refine wp_unr 5 ?_
  refine unr_cut (fun W => Filled big x (w.heap.size + 1) 0 W ∧ Below w.heap.size w W) ?_ ?_
  · refine ⟨⟨fun j hj => ?_, fun o => ?_, ?_⟩, ?_⟩
    · have := pl_lt big j hj
      simp [go_sem, this]
    · simp [go_sem]
    · simp
    · repeat (first | exact Below.refl _ _ | refine Below.alloc ?_ (by simp <;> omega) _)
  intro W0 ⟨hF0, hB0⟩
  refine unr_succ ?_
  go_wp2
  go_loopw [15] (fun kk wr => ∃ k : Nat, k ≤ 8 ∧ kk = .int .i64 k ∧ Filled big x (w.heap.size + 1) (0 + k) wr ∧ Below w.heap.size w wr) (fun kk _ => 8 - (intOf kk).toNat)
  case atStart => exact ⟨0, by omega, rfl, hF0, hB0⟩
  case round =>
    obtain ⟨k, hk, rfl, hF, hB⟩ := hrel
    by_cases hlt : k < 8
    · have hlt' : (k : Int) < 8 := by omega
      obtain ⟨P, hP, hP', HP, hpl⟩ : ∃ P : Nat, (0 : Int) ≤ P ∧ (P : Int) < 32 ∧ Hid (P = pl big (0 + k)) ∧ Hid (∀ w, Calls Tryd.prog 35 #[.int .i64 ((↑k : Int)), .bool big] w fun e w' => e = .returned (.int .i64 (P : Int)) ∧ w' = w) := by
        have hl := pl_lt big (0 + k) (by omega)
        refine ⟨pl big (0 + k), by omega, by omega, rfl, fun w => ?_⟩
        have := place_any ((↑k : Int)) big (by omega) (by omega) w
        rwa [show ((↑k : Int)).toNat = 0 + k by omega] at this
      have hc := hF.cell (0 + k) (by omega)
      rw [← HP.out, if_neg (by omega)] at hc
      have hfz := hF.free P
      have hB' : Hid (Below w.heap.size w wr) := hB
      have hF' : Hid (Filled big x (w.heap.size + 1) (0 + k) wr) := hF
      have m1 : IntKind.i64.wrap (8 * (k : Int)) = 8 * (k : Int) := wrapI _ (by omega) (by omega)
      have m2 : IntKind.i64.wrap ((↑k : Int)) = (↑k : Int) := wrapI _ (by omega) (by omega)
      have m3 : 0 ≤ 8 * (k : Int) := by omega
      have m4 : IntKind.i64.wrap 0 = 0 := by decide
      have B : Hid _ := byte_word x 0 k a0 hlt E0
      clear hF hB
      go_wp2
      go_region_held3 (fun w' => (w'.cell? ⟨w.heap.size + 1, P, none⟩).isSome = true ∧ w'.frozen? ⟨w.heap.size + 1, P, none⟩ = false) (simp [go_sem, hc, hfz])
        (first
          | (go_at_call 35; refine (hpl.out _).mono ?_; rintro e w' ⟨rfl, rfl⟩))
      go_wp2
      go_roundw
      case rel =>
        refine ⟨k + 1, by omega, by go_num, ?_, ?_⟩
        · have := (hF'.out.step (by omega)).drew
          rw [← HP.out, ← B.out] at this
          exact this
        · exact (hB'.out.setCell (by simp <;> omega) _).drew
      case measure => simp [intOf]; omega
    obtain rfl : k = 8 := by omega
    go_wp2
    refine unr_cut (fun W => Filled big x (w.heap.size + 1) 8 W ∧ Below w.heap.size w W) ⟨hF, hB⟩ ?_
    intro W1 ⟨hF1, hB1⟩
    refine unr_succ ?_
    go_wp2
    go_loopw [15] (fun kk wr => ∃ k : Nat, k ≤ 8 ∧ kk = .int .i64 k ∧ Filled big x (w.heap.size + 1) (8 + k) wr ∧ Below w.heap.size w wr) (fun kk _ => 8 - (intOf kk).toNat)
    case atStart => exact ⟨0, by omega, rfl, hF1, hB1⟩
    case round =>
      obtain ⟨k, hk, rfl, hF, hB⟩ := hrel
      by_cases hlt : k < 8
      · have hlt' : (k : Int) < 8 := by omega
        obtain ⟨P, hP, hP', HP, hpl⟩ : ∃ P : Nat, (0 : Int) ≤ P ∧ (P : Int) < 32 ∧ Hid (P = pl big (8 + k)) ∧ Hid (∀ w, Calls Tryd.prog 35 #[.int .i64 (8 + (↑k : Int)), .bool big] w fun e w' => e = .returned (.int .i64 (P : Int)) ∧ w' = w) := by
          have hl := pl_lt big (8 + k) (by omega)
          refine ⟨pl big (8 + k), by omega, by omega, rfl, fun w => ?_⟩
          have := place_any (8 + (↑k : Int)) big (by omega) (by omega) w
          rwa [show (8 + (↑k : Int)).toNat = 8 + k by omega] at this
        have hc := hF.cell (8 + k) (by omega)
        rw [← HP.out, if_neg (by omega)] at hc
        have hfz := hF.free P
        have hB' : Hid (Below w.heap.size w wr) := hB
        have hF' : Hid (Filled big x (w.heap.size + 1) (8 + k) wr) := hF
        have m1 : IntKind.i64.wrap (8 * (k : Int)) = 8 * (k : Int) := wrapI _ (by omega) (by omega)
        have m2 : IntKind.i64.wrap (8 + (↑k : Int)) = 8 + (↑k : Int) := wrapI _ (by omega) (by omega)
        have m3 : 0 ≤ 8 * (k : Int) := by omega
        have m4 : IntKind.i64.wrap 8 = 8 := by decide
        have B : Hid _ := byte_word x 1 k a1 hlt E1
        clear hF hB
        go_wp2
        go_region_held3 (fun w' => (w'.cell? ⟨w.heap.size + 1, P, none⟩).isSome = true ∧ w'.frozen? ⟨w.heap.size + 1, P, none⟩ = false) (simp [go_sem, hc, hfz])
          (first
            | (go_at_call 35; refine (hpl.out _).mono ?_; rintro e w' ⟨rfl, rfl⟩))
        go_wp2
        go_roundw
        case rel =>
          refine ⟨k + 1, by omega, by go_num, ?_, ?_⟩
          · have := (hF'.out.step (by omega)).drew
            rw [← HP.out, ← B.out] at this
            exact this
          · exact (hB'.out.setCell (by simp <;> omega) _).drew
        case measure => simp [intOf]; omega
      obtain rfl : k = 8 := by omega
      go_wp2
      refine unr_cut (fun W => Filled big x (w.heap.size + 1) 16 W ∧ Below w.heap.size w W) ⟨hF, hB⟩ ?_
      intro W2 ⟨hF2, hB2⟩
      refine unr_succ ?_
      go_wp2
      go_loopw [15] (fun kk wr => ∃ k : Nat, k ≤ 8 ∧ kk = .int .i64 k ∧ Filled big x (w.heap.size + 1) (16 + k) wr ∧ Below w.heap.size w wr) (fun kk _ => 8 - (intOf kk).toNat)
      case atStart => exact ⟨0, by omega, rfl, hF2, hB2⟩
      case round =>
        obtain ⟨k, hk, rfl, hF, hB⟩ := hrel
        by_cases hlt : k < 8
        · have hlt' : (k : Int) < 8 := by omega
          obtain ⟨P, hP, hP', HP, hpl⟩ : ∃ P : Nat, (0 : Int) ≤ P ∧ (P : Int) < 32 ∧ Hid (P = pl big (16 + k)) ∧ Hid (∀ w, Calls Tryd.prog 35 #[.int .i64 (16 + (↑k : Int)), .bool big] w fun e w' => e = .returned (.int .i64 (P : Int)) ∧ w' = w) := by
            have hl := pl_lt big (16 + k) (by omega)
            refine ⟨pl big (16 + k), by omega, by omega, rfl, fun w => ?_⟩
            have := place_any (16 + (↑k : Int)) big (by omega) (by omega) w
            rwa [show (16 + (↑k : Int)).toNat = 16 + k by omega] at this
          have hc := hF.cell (16 + k) (by omega)
          rw [← HP.out, if_neg (by omega)] at hc
          have hfz := hF.free P
          have hB' : Hid (Below w.heap.size w wr) := hB
          have hF' : Hid (Filled big x (w.heap.size + 1) (16 + k) wr) := hF
          have m1 : IntKind.i64.wrap (8 * (k : Int)) = 8 * (k : Int) := wrapI _ (by omega) (by omega)
          have m2 : IntKind.i64.wrap (16 + (↑k : Int)) = 16 + (↑k : Int) := wrapI _ (by omega) (by omega)
          have m3 : 0 ≤ 8 * (k : Int) := by omega
          have m4 : IntKind.i64.wrap 16 = 16 := by decide
          have B : Hid _ := byte_word x 2 k a2 hlt E2
          clear hF hB
          go_wp2
          go_region_held3 (fun w' => (w'.cell? ⟨w.heap.size + 1, P, none⟩).isSome = true ∧ w'.frozen? ⟨w.heap.size + 1, P, none⟩ = false) (simp [go_sem, hc, hfz])
            (first
              | (go_at_call 35; refine (hpl.out _).mono ?_; rintro e w' ⟨rfl, rfl⟩))
          go_wp2
          go_roundw
          case rel =>
            refine ⟨k + 1, by omega, by go_num, ?_, ?_⟩
            · have := (hF'.out.step (by omega)).drew
              rw [← HP.out, ← B.out] at this
              exact this
            · exact (hB'.out.setCell (by simp <;> omega) _).drew
          case measure => simp [intOf]; omega
        obtain rfl : k = 8 := by omega
        go_wp2
        refine unr_cut (fun W => Filled big x (w.heap.size + 1) 24 W ∧ Below w.heap.size w W) ⟨hF, hB⟩ ?_
        intro W3 ⟨hF3, hB3⟩
        refine unr_succ ?_
        go_wp2
        go_loopw [15] (fun kk wr => ∃ k : Nat, k ≤ 8 ∧ kk = .int .i64 k ∧ Filled big x (w.heap.size + 1) (24 + k) wr ∧ Below w.heap.size w wr) (fun kk _ => 8 - (intOf kk).toNat)
        case atStart => exact ⟨0, by omega, rfl, hF3, hB3⟩
        case round =>
          obtain ⟨k, hk, rfl, hF, hB⟩ := hrel
          by_cases hlt : k < 8
          · have hlt' : (k : Int) < 8 := by omega
            obtain ⟨P, hP, hP', HP, hpl⟩ : ∃ P : Nat, (0 : Int) ≤ P ∧ (P : Int) < 32 ∧ Hid (P = pl big (24 + k)) ∧ Hid (∀ w, Calls Tryd.prog 35 #[.int .i64 (24 + (↑k : Int)), .bool big] w fun e w' => e = .returned (.int .i64 (P : Int)) ∧ w' = w) := by
              have hl := pl_lt big (24 + k) (by omega)
              refine ⟨pl big (24 + k), by omega, by omega, rfl, fun w => ?_⟩
              have := place_any (24 + (↑k : Int)) big (by omega) (by omega) w
              rwa [show (24 + (↑k : Int)).toNat = 24 + k by omega] at this
            have hc := hF.cell (24 + k) (by omega)
            rw [← HP.out, if_neg (by omega)] at hc
            have hfz := hF.free P
            have hB' : Hid (Below w.heap.size w wr) := hB
            have hF' : Hid (Filled big x (w.heap.size + 1) (24 + k) wr) := hF
            have m1 : IntKind.i64.wrap (8 * (k : Int)) = 8 * (k : Int) := wrapI _ (by omega) (by omega)
            have m2 : IntKind.i64.wrap (24 + (↑k : Int)) = 24 + (↑k : Int) := wrapI _ (by omega) (by omega)
            have m3 : 0 ≤ 8 * (k : Int) := by omega
            have m4 : IntKind.i64.wrap 24 = 24 := by decide
            have B : Hid _ := byte_word x 3 k a3 hlt E3
            clear hF hB
            go_wp2
            go_region_held3 (fun w' => (w'.cell? ⟨w.heap.size + 1, P, none⟩).isSome = true ∧ w'.frozen? ⟨w.heap.size + 1, P, none⟩ = false) (simp [go_sem, hc, hfz])
              (first
                | (go_at_call 35; refine (hpl.out _).mono ?_; rintro e w' ⟨rfl, rfl⟩))
            go_wp2
            go_roundw
            case rel =>
              refine ⟨k + 1, by omega, by go_num, ?_, ?_⟩
              · have := (hF'.out.step (by omega)).drew
                rw [← HP.out, ← B.out] at this
                exact this
              · exact (hB'.out.setCell (by simp <;> omega) _).drew
            case measure => simp [intOf]; omega
          obtain rfl : k = 8 := by omega
          go_wp2
          refine unr_cut (fun W => Filled big x (w.heap.size + 1) 32 W ∧ Below w.heap.size w W) ⟨hF, hB⟩ ?_
          intro W4 ⟨hF4, hB4⟩
          refine unr_succ ?_
          go_wp2
          go_ret
          exact ⟨rfl, hF4, hB4⟩

end Go.Proofs.YtlpmbhneffdcfaaDoor
