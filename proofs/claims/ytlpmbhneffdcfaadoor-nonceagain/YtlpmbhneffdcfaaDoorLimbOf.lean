/-
  The contract of limb's Of: of 32 bytes it returns their number and OK; of any other number of bytes nought and ErrArg; it changes no memory that was there. Conditions: as each theorem says.
-/
import Derived.Test.YtlpmbhneffdcfaaDoorLimbBytes
namespace Go.Proofs.YtlpmbhneffdcfaaDoor
open Go.RowKit
set_option linter.unusedVariables false

/-- The words so far in block B, of which nothing is frozen; the result's block R is as it was made. -/
structure OfMid (w : World) (l : List Int) (W : World) : Prop where
  size : w.heap.size + 1 < W.heap.size
  below : Below w.heap.size w W
  cr : ∀ j, j < 4 → W.cell? ⟨w.heap.size, j, none⟩ = some (.int .u64 0)
  cp : ∀ j, j < 4 → W.cell? ⟨w.heap.size + 1, j, none⟩ = some (.int .u64 (l.getD j 0))
  fr : ∀ j, W.frozen? ⟨w.heap.size, j, none⟩ = false
  fp : ∀ j, W.frozen? ⟨w.heap.size + 1, j, none⟩ = false
  len : l.length = 4
theorem OfMid.drew {w : World} {l : List Int} {W : World} (h : OfMid w l W) : OfMid w l W.drew := ⟨h.size, h.below.drew, h.cr, h.cp, h.fr, h.fp, h.len⟩
theorem OfMid.set {w : World} {l : List Int} {W : World} (h : OfMid w l W) (i : Nat) (v : Int) (hi : i < 4) : OfMid w (l.set i v) (W.setCell ⟨w.heap.size + 1, i, none⟩ (.int .u64 v)) := by
  have hs := h.size
  have other : ∀ n j, n ≠ w.heap.size + 1 → (W.setCell ⟨w.heap.size + 1, i, none⟩ (.int .u64 v)).cell? ⟨n, j, none⟩ = W.cell? ⟨n, j, none⟩ :=
    fun n j hn => World.cell?_setCell_other _ _ _ _ (fun q => hn (congrArg Addr.block q).symm)
  refine ⟨by simpa using hs, h.below.setCell (by simp <;> omega) _, ?_, ?_, ?_, ?_, by rw [List.length_set]; exact h.len⟩
  · intro j hj; rw [other _ _ (by omega)]; exact h.cr j hj
  · intro j hj
    have hl := h.len
    by_cases e : j = i
    · subst e
      rw [World.cell?_setCell_same _ _ _ (h.cp j hj)]
      simp [List.getD, hl, hj]
    · rw [World.cell?_setCell_other _ _ _ _ (fun q => e (by simpa using (congrArg Addr.off q).symm)), h.cp j hj]
      simp [List.getD, Ne.symm e]
  · intro j; rw [← h.fr j]; simp
  · intro j; rw [← h.fp j]; simp

set_option maxHeartbeats 4000000 in
theorem of_any (bs : Nat → Int) (big : Bool) (blk off cap : Nat) (hbs : ∀ j, 0 ≤ bs j ∧ bs j ≤ 255) (w : World) (hblk : blk < w.heap.size) (hc : ∀ j, j < 32 → w.cell? ⟨blk, off + j, none⟩ = some (.int .u8 (bs j))) :
    Calls Tryd.prog 14 #[.slice (some ⟨blk, off, none⟩) 32 cap, .bool big] w fun e w' => e = .returned (.tuple #[four (vb (fun j => bs (pl big j)) 32), .int .i64 0]) ∧ Below w.heap.size w w' := by
  have hbs' : Hid (∀ j, 0 ≤ bs j ∧ bs j ≤ 255) := hbs
  have hc' : Hid (∀ j, j < 32 → w.cell? ⟨blk, off + j, none⟩ = some (.int .u8 (bs j))) := hc
  clear hbs hc
  obtain ⟨g0, hg0⟩ : ∃ f : Nat → Int, Hid (f = fun j => bs (pl big (0 + j))) := ⟨_, rfl⟩
  have hr0 : Hid (∀ j, 0 ≤ g0 j ∧ g0 j ≤ 255) := by unfold Hid; rw [hg0.out]; exact fun j => hbs'.out _
  obtain ⟨V0, hV0⟩ : ∃ v : Int, Hid (v = (vb g0 8 : Int)) := ⟨_, rfl⟩
  obtain ⟨g1, hg1⟩ : ∃ f : Nat → Int, Hid (f = fun j => bs (pl big (8 + j))) := ⟨_, rfl⟩
  have hr1 : Hid (∀ j, 0 ≤ g1 j ∧ g1 j ≤ 255) := by unfold Hid; rw [hg1.out]; exact fun j => hbs'.out _
  obtain ⟨V1, hV1⟩ : ∃ v : Int, Hid (v = (vb g1 8 : Int)) := ⟨_, rfl⟩
  obtain ⟨g2, hg2⟩ : ∃ f : Nat → Int, Hid (f = fun j => bs (pl big (16 + j))) := ⟨_, rfl⟩
  have hr2 : Hid (∀ j, 0 ≤ g2 j ∧ g2 j ≤ 255) := by unfold Hid; rw [hg2.out]; exact fun j => hbs'.out _
  obtain ⟨V2, hV2⟩ : ∃ v : Int, Hid (v = (vb g2 8 : Int)) := ⟨_, rfl⟩
  obtain ⟨g3, hg3⟩ : ∃ f : Nat → Int, Hid (f = fun j => bs (pl big (24 + j))) := ⟨_, rfl⟩
  have hr3 : Hid (∀ j, 0 ≤ g3 j ∧ g3 j ≤ 255) := by unfold Hid; rw [hg3.out]; exact fun j => hbs'.out _
  obtain ⟨V3, hV3⟩ : ∃ v : Int, Hid (v = (vb g3 8 : Int)) := ⟨_, rfl⟩
  have V : Hid (four (vb (fun j => bs (pl big j)) 32) = .agg #[.int .u64 V0, .int .u64 V1, .int .u64 V2, .int .u64 V3]) := by
    unfold Hid
    have l0 := vb_lt g0 hr0.out 8
    have l1 := vb_lt g1 hr1.out 8
    have l2 := vb_lt g2 hr2.out 8
    have l3 := vb_lt g3 hr3.out 8
    have s3 := vb_add (fun j => bs (pl big j)) 24 8
    have s2 := vb_add (fun j => bs (pl big j)) 16 8
    have s1 := vb_add (fun j => bs (pl big j)) 8 8
    have s0 := vb_add (fun j => bs (pl big j)) 0 8
    simp only [Nat.zero_add, Nat.reduceAdd, Nat.pow_zero, Nat.one_mul] at s0 s1 s2 s3
    have z : vb (fun j => bs (pl big j)) 0 = 0 := rfl
    have e0 : vb g0 8 = vb (fun j => bs (pl big j)) 8 := by rw [hg0.out]; simp only [Nat.zero_add]
    rw [← hg1.out] at s1; rw [← hg2.out] at s2; rw [← hg3.out] at s3
    rw [hV0.out, hV1.out, hV2.out, hV3.out]
    clear hV0 hV1 hV2 hV3 hg0 hg1 hg2 hg3 s0
    generalize vb g0 8 = A0 at *
    generalize vb g1 8 = A1 at *
    generalize vb g2 8 = A2 at *
    generalize vb g3 8 = A3 at *
    generalize vb (fun j => bs (pl big j)) 8 = X1 at *
    generalize vb (fun j => bs (pl big j)) 16 = X2 at *
    generalize vb (fun j => bs (pl big j)) 24 = X3 at *
    generalize vb (fun j => bs (pl big j)) 32 = X4 at *
    have p8 : (256 : Nat) ^ 8 = 18446744073709551616 := by decide
    have p16 : (256 : Nat) ^ 16 = 340282366920938463463374607431768211456 := by decide
    have p24 : (256 : Nat) ^ 24 = 6277101735386680763835789423207666416102355444464034512896 := by decide
    rw [p8] at s1 l0 l1 l2 l3
    rw [p16] at s2
    rw [p24] at s3
    refine four_eq _ _ _ _ _ ?_ ?_ ?_ ?_ ?_
    · unfold Wd; omega
    · unfold Wd; omega
    · unfold Wd; omega
    · unfold Wd; omega
    · omega
  go_enter Tryd.func14, Tryd.ntmps14
  go_wp2
  refine wp_unr 5 ?_
  refine unr_cut (OfMid w [0, 0, 0, 0]) ?_ ?_
  · refine ⟨by simp, ?_, ?_, ?_, ?_, ?_, rfl⟩
    · repeat (first | exact Below.refl _ _ | refine Below.alloc ?_ (by simp <;> omega) _)
    · intro j hj
      rcases (show j = 0 ∨ j = 1 ∨ j = 2 ∨ j = 3 by omega) with rfl | rfl | rfl | rfl <;> simp [go_sem]
    · intro j hj
      rcases (show j = 0 ∨ j = 1 ∨ j = 2 ∨ j = 3 by omega) with rfl | rfl | rfl | rfl <;> simp [go_sem]
    · intro j; simp [go_sem]
    · intro j; simp [go_sem]
  intro W0 hM0
  refine unr_succ ?_
  go_wp2
  go_loopw [16] (fun kk wr => ∃ k : Nat, k ≤ 8 ∧ kk = .int .i64 k ∧ OfMid w [(vb g0 k : Int), 0, 0, 0] wr) (fun kk _ => 8 - (intOf kk).toNat)
  case atStart => exact ⟨0, by omega, rfl, hM0⟩
  case round =>
    obtain ⟨k, hk, rfl, hM⟩ := hrel
    by_cases hlt : k < 8
    · have hlt' : (k : Int) < 8 := by omega
      obtain ⟨P, hP, hP', HP, hpl⟩ : ∃ P : Nat, (0 : Int) ≤ P ∧ (P : Int) < 32 ∧ Hid (P = pl big (0 + k)) ∧ Hid (∀ w, Calls Tryd.prog 35 #[.int .i64 ((↑k : Int)), .bool big] w fun e w' => e = .returned (.int .i64 (P : Int)) ∧ w' = w) := by
        have hl := pl_lt big (0 + k) (by omega)
        refine ⟨pl big (0 + k), by omega, by omega, rfl, fun w => ?_⟩
        have := place_any ((↑k : Int)) big (by omega) (by omega) w
        rwa [show ((↑k : Int)).toNat = 0 + k by omega] at this
      have hca : wr.cell? ⟨w.heap.size + 1, 0, none⟩ = some (.int .u64 (vb g0 k : Int)) := hM.cp 0 (by omega)
      have hfz := hM.fp 0
      have hcb : wr.cell? ⟨blk, off + P, none⟩ = some (.int .u8 (g0 k)) := by
        rw [hM.below.cell (by exact hblk), hc'.out P (by omega), hg0.out]
        show _ = some (Value.int .u8 (bs (pl big (0 + k))))
        rw [← HP.out]
      have hM' : Hid (OfMid w [(vb g0 k : Int), 0, 0, 0] wr) := hM
      have hgk := hr0.out k
      have m1 : IntKind.i64.wrap (8 * (k : Int)) = 8 * (k : Int) := wrapI _ (by omega) (by omega)
      have m2 : IntKind.i64.wrap ((↑k : Int)) = (↑k : Int) := wrapI _ (by omega) (by omega)
      have m3 : 0 ≤ 8 * (k : Int) := by omega
      have m4 : IntKind.i64.wrap 0 = 0 := by decide
      have m5 : IntKind.u64.wrap (g0 k) = g0 k := by rw [IntKind.wrap_u64]; omega
      have B : Hid _ := or_byte g0 hr0.out k hlt
      clear hM
      go_wp2
      go_region_with (go_at_call 35; refine (hpl.out _).mono ?_; rintro e w' ⟨rfl, rfl⟩)
      all_goals go_wp2
      all_goals go_roundw
      case rel =>
        refine ⟨k + 1, by omega, by go_num, ?_⟩
        rw [← B.out]
        exact (hM'.out.set 0 _ (by omega)).drew
      case measure => simp [intOf]; omega
      case rel =>
        refine ⟨k + 1, by omega, by go_num, ?_⟩
        rw [← B.out]
        exact (hM'.out.set 0 _ (by omega)).drew
      case measure => simp [intOf]; omega
      case rel =>
        refine ⟨k + 1, by omega, by go_num, ?_⟩
        rw [← B.out]
        exact (hM'.out.set 0 _ (by omega)).drew
      case measure => simp [intOf]; omega
    obtain rfl : k = 8 := by omega
    go_wp2
    refine unr_cut (OfMid w [V0, 0, 0, 0]) (by rw [hV0.out]; exact hM) ?_
    intro W1 hM1
    refine unr_succ ?_
    go_wp2
    go_loopw [16] (fun kk wr => ∃ k : Nat, k ≤ 8 ∧ kk = .int .i64 k ∧ OfMid w [V0, (vb g1 k : Int), 0, 0] wr) (fun kk _ => 8 - (intOf kk).toNat)
    case atStart => exact ⟨0, by omega, rfl, hM1⟩
    case round =>
      obtain ⟨k, hk, rfl, hM⟩ := hrel
      by_cases hlt : k < 8
      · have hlt' : (k : Int) < 8 := by omega
        obtain ⟨P, hP, hP', HP, hpl⟩ : ∃ P : Nat, (0 : Int) ≤ P ∧ (P : Int) < 32 ∧ Hid (P = pl big (8 + k)) ∧ Hid (∀ w, Calls Tryd.prog 35 #[.int .i64 (8 + (↑k : Int)), .bool big] w fun e w' => e = .returned (.int .i64 (P : Int)) ∧ w' = w) := by
          have hl := pl_lt big (8 + k) (by omega)
          refine ⟨pl big (8 + k), by omega, by omega, rfl, fun w => ?_⟩
          have := place_any (8 + (↑k : Int)) big (by omega) (by omega) w
          rwa [show (8 + (↑k : Int)).toNat = 8 + k by omega] at this
        have hca : wr.cell? ⟨w.heap.size + 1, 1, none⟩ = some (.int .u64 (vb g1 k : Int)) := hM.cp 1 (by omega)
        have hfz := hM.fp 1
        have hcb : wr.cell? ⟨blk, off + P, none⟩ = some (.int .u8 (g1 k)) := by
          rw [hM.below.cell (by exact hblk), hc'.out P (by omega), hg1.out]
          show _ = some (Value.int .u8 (bs (pl big (8 + k))))
          rw [← HP.out]
        have hM' : Hid (OfMid w [V0, (vb g1 k : Int), 0, 0] wr) := hM
        have hgk := hr1.out k
        have m1 : IntKind.i64.wrap (8 * (k : Int)) = 8 * (k : Int) := wrapI _ (by omega) (by omega)
        have m2 : IntKind.i64.wrap (8 + (↑k : Int)) = 8 + (↑k : Int) := wrapI _ (by omega) (by omega)
        have m3 : 0 ≤ 8 * (k : Int) := by omega
        have m4 : IntKind.i64.wrap 8 = 8 := by decide
        have m5 : IntKind.u64.wrap (g1 k) = g1 k := by rw [IntKind.wrap_u64]; omega
        have B : Hid _ := or_byte g1 hr1.out k hlt
        clear hM
        go_wp2
        go_region_with (go_at_call 35; refine (hpl.out _).mono ?_; rintro e w' ⟨rfl, rfl⟩)
        all_goals go_wp2
        all_goals go_roundw
        case rel =>
          refine ⟨k + 1, by omega, by go_num, ?_⟩
          rw [← B.out]
          exact (hM'.out.set 1 _ (by omega)).drew
        case measure => simp [intOf]; omega
        case rel =>
          refine ⟨k + 1, by omega, by go_num, ?_⟩
          rw [← B.out]
          exact (hM'.out.set 1 _ (by omega)).drew
        case measure => simp [intOf]; omega
        case rel =>
          refine ⟨k + 1, by omega, by go_num, ?_⟩
          rw [← B.out]
          exact (hM'.out.set 1 _ (by omega)).drew
        case measure => simp [intOf]; omega
      obtain rfl : k = 8 := by omega
      go_wp2
      refine unr_cut (OfMid w [V0, V1, 0, 0]) (by rw [hV1.out]; exact hM) ?_
      intro W2 hM2
      refine unr_succ ?_
      go_wp2
      go_loopw [16] (fun kk wr => ∃ k : Nat, k ≤ 8 ∧ kk = .int .i64 k ∧ OfMid w [V0, V1, (vb g2 k : Int), 0] wr) (fun kk _ => 8 - (intOf kk).toNat)
      case atStart => exact ⟨0, by omega, rfl, hM2⟩
      case round =>
        obtain ⟨k, hk, rfl, hM⟩ := hrel
        by_cases hlt : k < 8
        · have hlt' : (k : Int) < 8 := by omega
          obtain ⟨P, hP, hP', HP, hpl⟩ : ∃ P : Nat, (0 : Int) ≤ P ∧ (P : Int) < 32 ∧ Hid (P = pl big (16 + k)) ∧ Hid (∀ w, Calls Tryd.prog 35 #[.int .i64 (16 + (↑k : Int)), .bool big] w fun e w' => e = .returned (.int .i64 (P : Int)) ∧ w' = w) := by
            have hl := pl_lt big (16 + k) (by omega)
            refine ⟨pl big (16 + k), by omega, by omega, rfl, fun w => ?_⟩
            have := place_any (16 + (↑k : Int)) big (by omega) (by omega) w
            rwa [show (16 + (↑k : Int)).toNat = 16 + k by omega] at this
          have hca : wr.cell? ⟨w.heap.size + 1, 2, none⟩ = some (.int .u64 (vb g2 k : Int)) := hM.cp 2 (by omega)
          have hfz := hM.fp 2
          have hcb : wr.cell? ⟨blk, off + P, none⟩ = some (.int .u8 (g2 k)) := by
            rw [hM.below.cell (by exact hblk), hc'.out P (by omega), hg2.out]
            show _ = some (Value.int .u8 (bs (pl big (16 + k))))
            rw [← HP.out]
          have hM' : Hid (OfMid w [V0, V1, (vb g2 k : Int), 0] wr) := hM
          have hgk := hr2.out k
          have m1 : IntKind.i64.wrap (8 * (k : Int)) = 8 * (k : Int) := wrapI _ (by omega) (by omega)
          have m2 : IntKind.i64.wrap (16 + (↑k : Int)) = 16 + (↑k : Int) := wrapI _ (by omega) (by omega)
          have m3 : 0 ≤ 8 * (k : Int) := by omega
          have m4 : IntKind.i64.wrap 16 = 16 := by decide
          have m5 : IntKind.u64.wrap (g2 k) = g2 k := by rw [IntKind.wrap_u64]; omega
          have B : Hid _ := or_byte g2 hr2.out k hlt
          clear hM
          go_wp2
          go_region_with (go_at_call 35; refine (hpl.out _).mono ?_; rintro e w' ⟨rfl, rfl⟩)
          all_goals go_wp2
          all_goals go_roundw
          case rel =>
            refine ⟨k + 1, by omega, by go_num, ?_⟩
            rw [← B.out]
            exact (hM'.out.set 2 _ (by omega)).drew
          case measure => simp [intOf]; omega
          case rel =>
            refine ⟨k + 1, by omega, by go_num, ?_⟩
            rw [← B.out]
            exact (hM'.out.set 2 _ (by omega)).drew
          case measure => simp [intOf]; omega
          case rel =>
            refine ⟨k + 1, by omega, by go_num, ?_⟩
            rw [← B.out]
            exact (hM'.out.set 2 _ (by omega)).drew
          case measure => simp [intOf]; omega
        obtain rfl : k = 8 := by omega
        go_wp2
        refine unr_cut (OfMid w [V0, V1, V2, 0]) (by rw [hV2.out]; exact hM) ?_
        intro W3 hM3
        refine unr_succ ?_
        go_wp2
        go_loopw [16] (fun kk wr => ∃ k : Nat, k ≤ 8 ∧ kk = .int .i64 k ∧ OfMid w [V0, V1, V2, (vb g3 k : Int)] wr) (fun kk _ => 8 - (intOf kk).toNat)
        case atStart => exact ⟨0, by omega, rfl, hM3⟩
        case round =>
          obtain ⟨k, hk, rfl, hM⟩ := hrel
          by_cases hlt : k < 8
          · have hlt' : (k : Int) < 8 := by omega
            obtain ⟨P, hP, hP', HP, hpl⟩ : ∃ P : Nat, (0 : Int) ≤ P ∧ (P : Int) < 32 ∧ Hid (P = pl big (24 + k)) ∧ Hid (∀ w, Calls Tryd.prog 35 #[.int .i64 (24 + (↑k : Int)), .bool big] w fun e w' => e = .returned (.int .i64 (P : Int)) ∧ w' = w) := by
              have hl := pl_lt big (24 + k) (by omega)
              refine ⟨pl big (24 + k), by omega, by omega, rfl, fun w => ?_⟩
              have := place_any (24 + (↑k : Int)) big (by omega) (by omega) w
              rwa [show (24 + (↑k : Int)).toNat = 24 + k by omega] at this
            have hca : wr.cell? ⟨w.heap.size + 1, 3, none⟩ = some (.int .u64 (vb g3 k : Int)) := hM.cp 3 (by omega)
            have hfz := hM.fp 3
            have hcb : wr.cell? ⟨blk, off + P, none⟩ = some (.int .u8 (g3 k)) := by
              rw [hM.below.cell (by exact hblk), hc'.out P (by omega), hg3.out]
              show _ = some (Value.int .u8 (bs (pl big (24 + k))))
              rw [← HP.out]
            have hM' : Hid (OfMid w [V0, V1, V2, (vb g3 k : Int)] wr) := hM
            have hgk := hr3.out k
            have m1 : IntKind.i64.wrap (8 * (k : Int)) = 8 * (k : Int) := wrapI _ (by omega) (by omega)
            have m2 : IntKind.i64.wrap (24 + (↑k : Int)) = 24 + (↑k : Int) := wrapI _ (by omega) (by omega)
            have m3 : 0 ≤ 8 * (k : Int) := by omega
            have m4 : IntKind.i64.wrap 24 = 24 := by decide
            have m5 : IntKind.u64.wrap (g3 k) = g3 k := by rw [IntKind.wrap_u64]; omega
            have B : Hid _ := or_byte g3 hr3.out k hlt
            clear hM
            go_wp2
            go_region_with (go_at_call 35; refine (hpl.out _).mono ?_; rintro e w' ⟨rfl, rfl⟩)
            all_goals go_wp2
            all_goals go_roundw
            case rel =>
              refine ⟨k + 1, by omega, by go_num, ?_⟩
              rw [← B.out]
              exact (hM'.out.set 3 _ (by omega)).drew
            case measure => simp [intOf]; omega
            case rel =>
              refine ⟨k + 1, by omega, by go_num, ?_⟩
              rw [← B.out]
              exact (hM'.out.set 3 _ (by omega)).drew
            case measure => simp [intOf]; omega
            case rel =>
              refine ⟨k + 1, by omega, by go_num, ?_⟩
              rw [← B.out]
              exact (hM'.out.set 3 _ (by omega)).drew
            case measure => simp [intOf]; omega
          obtain rfl : k = 8 := by omega
          go_wp2
          refine unr_cut (OfMid w [V0, V1, V2, V3]) (by rw [hV3.out]; exact hM) ?_
          intro W4 hM4
          have ca0 : W4.cell? ⟨w.heap.size + 1, 0, none⟩ = some (.int .u64 V0) := hM4.cp 0 (by omega)
          have ca1 : W4.cell? ⟨w.heap.size + 1, 1, none⟩ = some (.int .u64 V1) := hM4.cp 1 (by omega)
          have ca2 : W4.cell? ⟨w.heap.size + 1, 2, none⟩ = some (.int .u64 V2) := hM4.cp 2 (by omega)
          have ca3 : W4.cell? ⟨w.heap.size + 1, 3, none⟩ = some (.int .u64 V3) := hM4.cp 3 (by omega)
          have cr0 := hM4.cr 0 (by omega)
          have cr1 := hM4.cr 1 (by omega)
          have cr2 := hM4.cr 2 (by omega)
          have cr3 := hM4.cr 3 (by omega)
          have fr := hM4.fr
          have hbel : Hid (Below w.heap.size w W4) := hM4.below
          refine unr_succ ?_
          go_wp2
          refine bodyPost_ret (v := .tuple #[.agg #[.int .u64 V0, .int .u64 V1, .int .u64 V2, .int .u64 V3], .int .i64 0]) (by simp [results, Tryd.results14, go_sem, *]) rfl ⟨?_, ?_⟩
          · rw [V.out]
          · repeat (first | exact hbel.out | refine Below.drew ?_ | refine Below.setCell ?_ (by simp <;> omega) _)

end Go.Proofs.YtlpmbhneffdcfaaDoor
