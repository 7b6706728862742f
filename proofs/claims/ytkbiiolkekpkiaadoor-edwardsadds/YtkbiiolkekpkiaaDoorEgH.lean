/-
  The program's across of layer 10: the walk, given what each call answers. Conditions: as each theorem says.
-/
import Derived.Test.YtkbiiolkekpkiaaDoorEgA
namespace Go.Proofs.YtkbiiolkekpkiaaDoor.Ed
open Go.RowKit
set_option linter.unusedVariables false
set_option linter.unusedSimpArgs false

set_option maxRecDepth 100000 in
set_option maxHeartbeats 8000000 in
theorem across_w (ya sq ua ma va za : L5) (tb : Bool)
    (Q1 : Hid (∀ w : World, Calls Tryd.prog 53 #[.int .u32 1] w fun e w' => e = .returned (.agg #[.int .u64 1, .int .u64 0, .int .u64 0, .int .u64 0, .int .u64 0]) ∧ Below w.heap.size w w'))
    (Q2 : Hid (∀ w : World, Calls Tryd.prog 51 #[.agg #[.int .u64 ya.l0, .int .u64 ya.l1, .int .u64 ya.l2, .int .u64 ya.l3, .int .u64 ya.l4], .int .i64 1] w fun e w' => e = .returned (.agg #[.int .u64 sq.l0, .int .u64 sq.l1, .int .u64 sq.l2, .int .u64 sq.l3, .int .u64 sq.l4]) ∧ Below w.heap.size w w'))
    (Q3 : Hid (∀ w : World, Gl w → Calls Tryd.prog 55 #[.agg #[.int .u64 sq.l0, .int .u64 sq.l1, .int .u64 sq.l2, .int .u64 sq.l3, .int .u64 sq.l4], .agg #[.int .u64 1, .int .u64 0, .int .u64 0, .int .u64 0, .int .u64 0]] w fun e w' => e = .returned (.agg #[.int .u64 ua.l0, .int .u64 ua.l1, .int .u64 ua.l2, .int .u64 ua.l3, .int .u64 ua.l4]) ∧ Below w.heap.size w w'))
    (Q4 : Hid (∀ w : World, Calls Tryd.prog 49 #[.agg #[.int .u64 929955233495203, .int .u64 466365720129213, .int .u64 1662059464998953, .int .u64 2033849074728123, .int .u64 1442794654840575], .agg #[.int .u64 sq.l0, .int .u64 sq.l1, .int .u64 sq.l2, .int .u64 sq.l3, .int .u64 sq.l4]] w fun e w' => e = .returned (.agg #[.int .u64 ma.l0, .int .u64 ma.l1, .int .u64 ma.l2, .int .u64 ma.l3, .int .u64 ma.l4]) ∧ Below w.heap.size w w'))
    (Q5 : Hid (∀ w : World, Calls Tryd.prog 52 #[.agg #[.int .u64 ma.l0, .int .u64 ma.l1, .int .u64 ma.l2, .int .u64 ma.l3, .int .u64 ma.l4], .agg #[.int .u64 1, .int .u64 0, .int .u64 0, .int .u64 0, .int .u64 0]] w fun e w' => e = .returned (.agg #[.int .u64 va.l0, .int .u64 va.l1, .int .u64 va.l2, .int .u64 va.l3, .int .u64 va.l4]) ∧ Below w.heap.size w w'))
    (Q6 : Hid (∀ w : World, Gl w → Calls Tryd.prog 67 #[.agg #[.int .u64 ua.l0, .int .u64 ua.l1, .int .u64 ua.l2, .int .u64 ua.l3, .int .u64 ua.l4], .agg #[.int .u64 va.l0, .int .u64 va.l1, .int .u64 va.l2, .int .u64 va.l3, .int .u64 va.l4]] w fun e w' => e = .returned (.tuple #[.agg #[.int .u64 za.l0, .int .u64 za.l1, .int .u64 za.l2, .int .u64 za.l3, .int .u64 za.l4], .bool tb]) ∧ Below w.heap.size w w'))
    (w : World) (D_0 : Hid (Gd w)) (Z_0 : Hid (Gl w)) :
    Calls Tryd.prog 35 #[.agg #[.int .u64 ya.l0, .int .u64 ya.l1, .int .u64 ya.l2, .int .u64 ya.l3, .int .u64 ya.l4]] w fun e w' => e = .returned (.tuple #[.agg #[.int .u64 za.l0, .int .u64 za.l1, .int .u64 za.l2, .int .u64 za.l3, .int .u64 za.l4], .bool tb]) ∧ Below w.heap.size w w' := by
  obtain ⟨ya0, ya1, ya2, ya3, ya4⟩ := ya
  obtain ⟨sq0, sq1, sq2, sq3, sq4⟩ := sq
  obtain ⟨ua0, ua1, ua2, ua3, ua4⟩ := ua
  obtain ⟨ma0, ma1, ma2, ma3, ma4⟩ := ma
  obtain ⟨va0, va1, va2, va3, va4⟩ := va
  obtain ⟨za0, za1, za2, za3, za4⟩ := za
  dsimp only at Q1 Q2 Q3 Q4 Q5 Q6 ⊢
  go_enter Tryd.func35, Tryd.ntmps35
  go_upto_region 1 with fail
  have HD := D_0.out.lt
  have HZ := Z_0.out.lt
  refine wp_cut (fun V => At 26 V w.heap.size [.int .u64 ya0, .int .u64 ya1, .int .u64 ya2, .int .u64 ya3, .int .u64 ya4] ∧ At 26 V (w.heap.size + 1) [.int .u64 0, .int .u64 0, .int .u64 0, .int .u64 0, .int .u64 0] ∧ Gd V ∧ Gl V ∧ Below w.heap.size w V) ⟨?_, ?_, ?_, ?_, ?_⟩ ?_
  · (repeat (first | refine At.drew ?_ | refine At.drewN ?_ _ | (refine at_new2 _ _ _ _ ?_; simp; done) | refine at_alloc ?_ _))
  · (repeat (first | refine At.drew ?_ | refine At.drewN ?_ _ | (refine at_new2 _ _ _ _ ?_; simp; done) | refine at_alloc ?_ _))
  · refine D_0.out.grown ?_
    (repeat (first | exact Below.refl _ _ | refine Below.drew ?_ | refine below_drewN ?_ _ | refine Below.alloc ?_ (by simp <;> omega) _))
  · refine Z_0.out.grown ?_
    (repeat (first | exact Below.refl _ _ | refine Below.drew ?_ | refine below_drewN ?_ _ | refine Below.alloc ?_ (by simp <;> omega) _))
  · (repeat (first | exact Below.refl _ _ | refine Below.drew ?_ | refine below_drewN ?_ _ | refine Below.alloc ?_ (by simp <;> omega) _))
  rintro w1 ⟨k0, k1, k2, k3, k4⟩
  have B1_1 := hid k0
  have B2_1 := hid k1
  have D_1 := hid k2
  have Z_1 := hid k3
  have G_1 := hid k4
  clear k0 k1 k2 k3 k4 D_0 Z_0
  refine wp_region_grow (ob := (fun k => if k = 3 then some (.cells #[.int .u64 0, .int .u64 0, .int .u64 0, .int .u64 0, .int .u64 0] 26) else if k = 4 then some (.cells #[.int .u64 0, .int .u64 0, .int .u64 0, .int .u64 0, .int .u64 0] 26) else none)) (st := (fun k => if k = 5 then some (3, .cells #[.int .u64 1, .int .u64 0, .int .u64 0, .int .u64 0, .int .u64 0] 26) else if k = 6 then some (4, .cells #[.int .u64 sq0, .int .u64 sq1, .int .u64 sq2, .int .u64 sq3, .int .u64 sq4] 26) else none)) (by kernel_rfl) ?_
  simp only [List.size_toArray, List.length_cons, List.length_nil, Nat.reduceAdd, Array.replicate_succ, Array.replicate_zero, List.push_toArray, List.nil_append, List.cons_append]
  refine g_first 0 _ (.agg #[.int .u64 1, .int .u64 0, .int .u64 0, .int .u64 0, .int .u64 0]) rfl rfl rfl (by kernel_rfl) (by kernel_rfl) (by kernel_rfl) ?_ ?_
  · refine Or.inl ⟨by rfl, fun w' hw' => ?_⟩
    refine quiet_call (by go_simp) (Q1.out _)
  try simp only [List.getElem_toArray, List.getElem_cons_zero, List.getElem_cons_succ, Act.put, List.setIfInBounds_toArray, List.set_cons_zero, List.set_cons_succ]
  refine g_first 1 _ (.agg #[.int .u64 ya0, .int .u64 ya1, .int .u64 ya2, .int .u64 ya3, .int .u64 ya4]) rfl rfl rfl (by kernel_rfl) (by kernel_rfl) (by kernel_rfl) ?_ ?_
  · refine Or.inl ⟨by rfl, fun w' hw' => ?_⟩
    exact quiet_load 26 _ rfl _ 0 rfl _ _ (at_mid (B1_1.out.below hw') 0 _ rfl) Tryd.underlying26 rfl (by kernel_rfl)
  try simp only [List.getElem_toArray, List.getElem_cons_zero, List.getElem_cons_succ, Act.put, List.setIfInBounds_toArray, List.set_cons_zero, List.set_cons_succ]
  refine g_first 2 _ (.agg #[.int .u64 sq0, .int .u64 sq1, .int .u64 sq2, .int .u64 sq3, .int .u64 sq4]) rfl rfl rfl (by kernel_rfl) (by kernel_rfl) (by kernel_rfl) ?_ ?_
  · refine Or.inl ⟨by rfl, fun w' hw' => ?_⟩
    refine quiet_call (by go_simp) (Q2.out _)
  try simp only [List.getElem_toArray, List.getElem_cons_zero, List.getElem_cons_succ, Act.put, List.setIfInBounds_toArray, List.set_cons_zero, List.set_cons_succ]
  refine g_make 3 _ (.cells #[.int .u64 0, .int .u64 0, .int .u64 0, .int .u64 0, .int .u64 0] 26) (fun k => (decide (3 ≤ k ∧ k ≤ 4)) || (decide (5 ≤ k ∧ k ≤ 6) && k != 5)) rfl rfl rfl rfl ?_ ?_ (by kernel_rfl) (by kernel_rfl) (by kernel_rfl) (by kernel_rfl) (fun g4 => ?_)
  · intro a w
    go_simp
  · intro j hj
    simp only [Bool.or_eq_true, Bool.and_eq_true, decide_eq_true_eq, bne_iff_ne] at hj
    rcases hj with hj | ⟨hj, hne⟩
    · left
      rcases (show j = 3 ∨ j = 4 by omega) with rfl | rfl <;> simp
    · right
      rcases (show j = 5 ∨ j = 6 by omega) with rfl | rfl <;> first | exact ⟨_, _, rfl, by decide⟩ | omega
  try simp only [List.getElem_toArray, List.getElem_cons_zero, List.getElem_cons_succ, Act.put, List.setIfInBounds_toArray, List.set_cons_zero, List.set_cons_succ]
  refine g_make 4 _ (.cells #[.int .u64 0, .int .u64 0, .int .u64 0, .int .u64 0, .int .u64 0] 26) (fun k => (decide (3 ≤ k ∧ k ≤ 4)) || (decide (5 ≤ k ∧ k ≤ 6) && k != 6)) rfl rfl rfl rfl ?_ ?_ (by kernel_rfl) (by kernel_rfl) (by kernel_rfl) (by kernel_rfl) (fun g5 => ?_)
  · intro a w
    go_simp
  · intro j hj
    simp only [Bool.or_eq_true, Bool.and_eq_true, decide_eq_true_eq, bne_iff_ne] at hj
    rcases hj with hj | ⟨hj, hne⟩
    · left
      rcases (show j = 3 ∨ j = 4 by omega) with rfl | rfl <;> simp
    · right
      rcases (show j = 5 ∨ j = 6 by omega) with rfl | rfl <;> first | exact ⟨_, _, rfl, by decide⟩ | omega
  try simp only [List.getElem_toArray, List.getElem_cons_zero, List.getElem_cons_succ, Act.put, List.setIfInBounds_toArray, List.set_cons_zero, List.set_cons_succ]
  refine g_store 5 3 _ (.cells #[.int .u64 1, .int .u64 0, .int .u64 0, .int .u64 0, .int .u64 0] 26) g4 (.cells #[.int .u64 0, .int .u64 0, .int .u64 0, .int .u64 0, .int .u64 0] 26) (fun k => decide (5 ≤ k ∧ k ≤ 6) && k != 5) rfl rfl rfl rfl ?_ (by kernel_rfl) (by kernel_rfl) (by kernel_rfl) (by kernel_rfl) (by simp [upd]) ?_ ?_
  · intro j hj
    simp only [Bool.and_eq_true, decide_eq_true_eq, bne_iff_ne] at hj
    rcases (show j = 5 ∨ j = 6 by omega) with rfl | rfl <;> first | exact ⟨_, _, rfl, by decide⟩ | omega
  · exact stores_whole 26 _ _ rfl g4 [.int .u64 1, .int .u64 0, .int .u64 0, .int .u64 0, .int .u64 0] [.int .u64 0, .int .u64 0, .int .u64 0, .int .u64 0, .int .u64 0] rfl rfl rfl (by kernel_rfl) (by kernel_rfl)
  try simp only [List.getElem_toArray, List.getElem_cons_zero, List.getElem_cons_succ, Act.put, List.setIfInBounds_toArray, List.set_cons_zero, List.set_cons_succ]
  refine g_store 6 4 _ (.cells #[.int .u64 sq0, .int .u64 sq1, .int .u64 sq2, .int .u64 sq3, .int .u64 sq4] 26) g5 (.cells #[.int .u64 0, .int .u64 0, .int .u64 0, .int .u64 0, .int .u64 0] 26) (fun k => decide (5 ≤ k ∧ k ≤ 6) && k != 6) rfl rfl rfl rfl ?_ (by kernel_rfl) (by kernel_rfl) (by kernel_rfl) (by kernel_rfl) (by simp [upd]) ?_ ?_
  · intro j hj
    simp only [Bool.and_eq_true, decide_eq_true_eq, bne_iff_ne] at hj
    rcases (show j = 5 ∨ j = 6 by omega) with rfl | rfl <;> first | exact ⟨_, _, rfl, by decide⟩ | omega
  · exact stores_whole 26 _ _ rfl g5 [.int .u64 sq0, .int .u64 sq1, .int .u64 sq2, .int .u64 sq3, .int .u64 sq4] [.int .u64 0, .int .u64 0, .int .u64 0, .int .u64 0, .int .u64 0] rfl rfl rfl (by kernel_rfl) (by kernel_rfl)
  try simp only [List.getElem_toArray, List.getElem_cons_zero, List.getElem_cons_succ, Act.put, List.setIfInBounds_toArray, List.set_cons_zero, List.set_cons_succ]
  refine ⟨by kernel_rfl, fun w2 hV => ?_⟩
  have own4 := hV.own 3 _ (by simp [upd]; rfl)
  have B4_2 : Hid (At 26 w2 g4 [.int .u64 1, .int .u64 0, .int .u64 0, .int .u64 0, .int .u64 0]) := own4.2.2
  have szB4 : w.heap.size ≤ g4 := by have h1 := own4.1; have h2 := G_1.out.size; dsimp only at h1; omega
  have nlB1B4 : w.heap.size < g4 := by have h1 := own4.1; have h2 := B1_1.out.lt; dsimp only at h1; omega
  have nlB2B4 : (w.heap.size + 1) < g4 := by have h1 := own4.1; have h2 := B2_1.out.lt; dsimp only at h1; omega
  have own5 := hV.own 4 _ (by simp [upd]; rfl)
  have B5_2 : Hid (At 26 w2 g5 [.int .u64 sq0, .int .u64 sq1, .int .u64 sq2, .int .u64 sq3, .int .u64 sq4]) := own5.2.2
  have szB5 : w.heap.size ≤ g5 := by have h1 := own5.1; have h2 := G_1.out.size; dsimp only at h1; omega
  have nlB1B5 : w.heap.size < g5 := by have h1 := own5.1; have h2 := B1_1.out.lt; dsimp only at h1; omega
  have nlB2B5 : (w.heap.size + 1) < g5 := by have h1 := own5.1; have h2 := B2_1.out.lt; dsimp only at h1; omega
  have g := hV.bel
  have B1_2 := hid (B1_1.out.below g)
  have B2_2 := hid (B2_1.out.below g)
  have D_2 := hid (D_1.out.grown g)
  have Z_2 := hid (Z_1.out.grown g)
  have G_2 := hid (G_1.out.trans (g.mono G_1.out.size))
  clear hV g own4 own5 B1_1 B2_1 D_1 Z_1 G_1
  go_wp2_with fail
  have D_2' := hid (D_2.out.grown (Below.refl _ w2).drew)
  have Z_2' := hid (Z_2.out.grown (Below.refl _ w2).drew)
  have K2 : At 26 w2.drew g5 [.int .u64 sq0, .int .u64 sq1, .int .u64 sq2, .int .u64 sq3, .int .u64 sq4] ∧ At 26 w2.drew g4 [.int .u64 1, .int .u64 0, .int .u64 0, .int .u64 0, .int .u64 0] ∧ Gd w2.drew := And.intro B5_2.out.drew (And.intro B4_2.out.drew (D_2'.out))
  refine wp_region_held_drew (S := fun w' => At 26 w' g5 [.int .u64 sq0, .int .u64 sq1, .int .u64 sq2, .int .u64 sq3, .int .u64 sq4] ∧ At 26 w' g4 [.int .u64 1, .int .u64 0, .int .u64 0, .int .u64 0, .int .u64 0] ∧ Gd w') (by kernel_rfl) K2 (fun hHeld => ?_)
  clear K2
  refine h_take 0 (v := .agg #[.int .u64 sq0, .int .u64 sq1, .int .u64 sq2, .int .u64 sq3, .int .u64 sq4]) rfl (by kernel_rfl) (by kernel_rfl) (by kernel_rfl) (fun _ _ _ h => h) (by rfl) ?hyr1_0 (by assumption) ?_
  case hyr1_0 =>
    intro w' hSw
    exact load_run 26 _ rfl _ 0 rfl _ _ (at_mid hSw.1 0 _ rfl) Tryd.underlying26 rfl (by kernel_rfl)
  try simp only [Act.put, List.setIfInBounds_toArray, List.set_cons_zero, List.set_cons_succ]
  refine h_take 1 (v := .agg #[.int .u64 1, .int .u64 0, .int .u64 0, .int .u64 0, .int .u64 0]) rfl (by kernel_rfl) (by kernel_rfl) (by kernel_rfl) (fun _ _ _ h => h) (by rfl) ?hyr1_1 (by assumption) ?_
  case hyr1_1 =>
    intro w' hSw
    exact load_run 26 _ rfl _ 0 rfl _ _ (at_mid hSw.2.1 0 _ rfl) Tryd.underlying26 rfl (by kernel_rfl)
  try simp only [Act.put, List.setIfInBounds_toArray, List.set_cons_zero, List.set_cons_succ]
  refine h_take 3 (v := .agg #[.int .u64 929955233495203, .int .u64 466365720129213, .int .u64 1662059464998953, .int .u64 2033849074728123, .int .u64 1442794654840575]) rfl (by kernel_rfl) (by kernel_rfl) (by kernel_rfl) (fun _ _ _ h => h) (by rfl) ?hyr1_3 (by assumption) ?_
  case hyr1_3 =>
    intro w' hSw
    exact load_run 26 _ rfl 0 0 rfl _ _ hSw.2.2.range Tryd.underlying26 rfl (by kernel_rfl)
  try simp only [Act.put, List.setIfInBounds_toArray, List.set_cons_zero, List.set_cons_succ]
  refine h_take 4 (v := .agg #[.int .u64 sq0, .int .u64 sq1, .int .u64 sq2, .int .u64 sq3, .int .u64 sq4]) rfl (by kernel_rfl) (by kernel_rfl) (by kernel_rfl) (fun _ _ _ h => h) (by rfl) ?hyr1_4 (by assumption) ?_
  case hyr1_4 =>
    intro w' hSw
    exact load_run 26 _ rfl _ 0 rfl _ _ (at_mid hSw.1 0 _ rfl) Tryd.underlying26 rfl (by kernel_rfl)
  try simp only [Act.put, List.setIfInBounds_toArray, List.set_cons_zero, List.set_cons_succ]
  refine h_take 6 (v := .agg #[.int .u64 1, .int .u64 0, .int .u64 0, .int .u64 0, .int .u64 0]) rfl (by kernel_rfl) (by kernel_rfl) (by kernel_rfl) (fun _ _ _ h => h) (by rfl) ?hyr1_6 (by assumption) ?_
  case hyr1_6 =>
    intro w' hSw
    exact load_run 26 _ rfl _ 0 rfl _ _ (at_mid hSw.2.1 0 _ rfl) Tryd.underlying26 rfl (by kernel_rfl)
  try simp only [Act.put, List.setIfInBounds_toArray, List.set_cons_zero, List.set_cons_succ]
  refine h_call 2 rfl (by kernel_rfl) (by rfl) (fun Kk hK => ?_)
  go_simp
  (refine (Q3.out _ Z_2'.out).mono ?_)
  rintro e w3 ⟨rfl, g0⟩
  have g : Below w2.heap.size w2 w3 := (Below.refl _ w2).drew.trans g0
  clear g0
  have B1_3 := hid (B1_2.out.below g)
  have B2_3 := hid (B2_2.out.below g)
  have B4_3 := hid (B4_2.out.below g)
  have B5_3 := hid (B5_2.out.below g)
  have D_3 := hid (D_2.out.grown g)
  have Z_3 := hid (Z_2.out.grown g)
  have G_3 := hid (G_2.out.trans (g.mono G_2.out.size))
  clear g B1_2 B2_2 B4_2 B5_2 D_2 Z_2 G_2
  clear D_2' Z_2'
  have K3 := And.intro B5_3.out (And.intro B4_3.out (D_3.out))
  go_wp2_with fail
  clear hHeld
  refine hK.out _ _ K3 (fun hHeld => ?_)
  clear hK Kk K3
  try simp only [Act.put, List.setIfInBounds_toArray, List.set_cons_zero, List.set_cons_succ]
  refine h_call 5 rfl (by kernel_rfl) (by rfl) (fun Kk hK => ?_)
  go_simp
  (refine (Q4.out _).mono ?_)
  rintro e w4 ⟨rfl, g0⟩
  have g := g0
  clear g0
  have B1_4 := hid (B1_3.out.below g)
  have B2_4 := hid (B2_3.out.below g)
  have B4_4 := hid (B4_3.out.below g)
  have B5_4 := hid (B5_3.out.below g)
  have D_4 := hid (D_3.out.grown g)
  have Z_4 := hid (Z_3.out.grown g)
  have G_4 := hid (G_3.out.trans (g.mono G_3.out.size))
  clear g B1_3 B2_3 B4_3 B5_3 D_3 Z_3 G_3
  have K4 := And.intro B5_4.out (And.intro B4_4.out (D_4.out))
  go_wp2_with fail
  clear hHeld
  refine hK.out _ _ K4 (fun hHeld => ?_)
  clear hK Kk K4
  try simp only [Act.put, List.setIfInBounds_toArray, List.set_cons_zero, List.set_cons_succ]
  refine h_call 7 rfl (by kernel_rfl) (by rfl) (fun Kk hK => ?_)
  go_simp
  (refine (Q5.out _).mono ?_)
  rintro e w5 ⟨rfl, g0⟩
  have g := g0
  clear g0
  have B1_5 := hid (B1_4.out.below g)
  have B2_5 := hid (B2_4.out.below g)
  have B4_5 := hid (B4_4.out.below g)
  have B5_5 := hid (B5_4.out.below g)
  have D_5 := hid (D_4.out.grown g)
  have Z_5 := hid (Z_4.out.grown g)
  have G_5 := hid (G_4.out.trans (g.mono G_4.out.size))
  clear g B1_4 B2_4 B4_4 B5_4 D_4 Z_4 G_4
  have K5 := And.intro B5_5.out (And.intro B4_5.out (D_5.out))
  go_wp2_with fail
  clear hHeld
  refine hK.out _ _ K5 (fun hHeld => ?_)
  clear hK Kk K5
  try simp only [Act.put, List.setIfInBounds_toArray, List.set_cons_zero, List.set_cons_succ]
  refine h_call 8 rfl (by kernel_rfl) (by rfl) (fun Kk hK => ?_)
  go_simp
  (refine (Q6.out _ Z_5.out).mono ?_)
  rintro e w6 ⟨rfl, g0⟩
  have g := g0
  clear g0
  have B1_6 := hid (B1_5.out.below g)
  have B2_6 := hid (B2_5.out.below g)
  have B4_6 := hid (B4_5.out.below g)
  have B5_6 := hid (B5_5.out.below g)
  have D_6 := hid (D_5.out.grown g)
  have Z_6 := hid (Z_5.out.grown g)
  have G_6 := hid (G_5.out.trans (g.mono G_5.out.size))
  clear g B1_5 B2_5 B4_5 B5_5 D_5 Z_5 G_5
  have K6 := And.intro B5_6.out (And.intro B4_6.out (D_6.out))
  go_wp2_with fail
  clear hHeld
  refine hK.out _ _ K6 (fun hHeld => ?_)
  clear hK Kk K6
  try simp only [Act.put, List.setIfInBounds_toArray, List.set_cons_zero, List.set_cons_succ]
  refine h_take 9 (v := .agg #[.int .u64 za0, .int .u64 za1, .int .u64 za2, .int .u64 za3, .int .u64 za4]) rfl (by kernel_rfl) (by kernel_rfl) (by kernel_rfl) (fun _ _ _ h => h) (by rfl) ?hyr1_9 (by assumption) ?_
  case hyr1_9 =>
    intro w' hSw
    clear hSw
    go_simp
  try simp only [Act.put, List.setIfInBounds_toArray, List.set_cons_zero, List.set_cons_succ]
  refine h_take 10 (v := .bool tb) rfl (by kernel_rfl) (by kernel_rfl) (by kernel_rfl) (fun _ _ _ h => h) (by rfl) ?hyr1_10 (by assumption) ?_
  case hyr1_10 =>
    intro w' hSw
    clear hSw
    go_simp
  try simp only [Act.put, List.setIfInBounds_toArray, List.set_cons_zero, List.set_cons_succ]
  have nbB1B2 : ¬ (w.heap.size = (w.heap.size + 1)) := by omega
  have nbB4B2 : ¬ (g4 = (w.heap.size + 1)) := by omega
  have nbB5B2 : ¬ (g5 = (w.heap.size + 1)) := by omega
  refine h_call 11 rfl (by kernel_rfl) (by rfl) (fun Kk hK => ?_)
  refine store_oth 26 _ _ rfl (w.heap.size + 1) [.int .u64 za0, .int .u64 za1, .int .u64 za2, .int .u64 za3, .int .u64 za4] _ rfl rfl B2_6.out rfl (by kernel_rfl) (by kernel_rfl) (fun w7 hC hO => ?_)
  have B1_7 := hid (hO.at B1_6.out nbB1B2)
  have B2_7 := hid hC
  have B4_7 := hid (hO.at B4_6.out nbB4B2)
  have B5_7 := hid (hO.at B5_6.out nbB5B2)
  have G_7 := hid (Oth.bel G_6.out hO (by omega))
  have D_7 := hid (D_6.out.below (below_oth hO (show w.heap.size ≤ (w.heap.size + 1) by omega) G_6.out.size) HD)
  have Z_7 := hid (Z_6.out.below (below_oth hO (show w.heap.size ≤ (w.heap.size + 1) by omega) G_6.out.size) HZ)
  clear B1_6 B2_6 B4_6 B5_6 D_6 Z_6 G_6 hC hO
  have K7 := And.intro B5_7.out (And.intro B4_7.out (D_7.out))
  clear hHeld
  refine hK.out _ _ K7 (fun hHeld => ?_)
  clear hK Kk K7
  try simp only [Act.put, List.setIfInBounds_toArray, List.set_cons_zero, List.set_cons_succ]
  refine h_take 12 (v := .bool tb) rfl (by kernel_rfl) (by kernel_rfl) (by kernel_rfl) (fun _ _ _ h => h) (by rfl) ?hyr1_12 (by assumption) ?_
  case hyr1_12 =>
    intro w' hSw
    clear hSw
    go_simp
  try simp only [Act.put, List.setIfInBounds_toArray, List.set_cons_zero, List.set_cons_succ]
  refine wpAnyH_done (by kernel_rfl) ?_ _
  clear hHeld
  go_wp2_with fail
  exact bodyPost_ret (v := .tuple #[.agg #[.int .u64 za0, .int .u64 za1, .int .u64 za2, .int .u64 za3, .int .u64 za4], .bool tb]) (results_cs (Tryd.results35) _ w7 (w.heap.size + 1) 0 [.int .u64 za0, .int .u64 za1, .int .u64 za2, .int .u64 za3, .int .u64 za4] _ _ rfl rfl B2_7.out.range Tryd.underlying26 rfl (by kernel_rfl)) rfl ⟨rfl, G_7.out⟩
end Go.Proofs.YtkbiiolkekpkiaaDoor.Ed

/-
  The program's Bytes of layer 10: the walk, given what each call answers. Conditions: as each theorem says.
-/
namespace Go.Proofs.YtkbiiolkekpkiaaDoor.Ed
open Go.RowKit
set_option linter.unusedVariables false
set_option linter.unusedSimpArgs false

set_option maxRecDepth 100000 in
set_option maxHeartbeats 8000000 in
theorem bytes_no_w (px py pz pt xa ya : L5) (n : Nat) (hn : n < 2 ^ 255)
    (Q1 : Hid (∀ w : World, Calls Tryd.prog 10 #[.agg #[.int .u64 px.l0, .int .u64 px.l1, .int .u64 px.l2, .int .u64 px.l3, .int .u64 px.l4, .int .u64 py.l0, .int .u64 py.l1, .int .u64 py.l2, .int .u64 py.l3, .int .u64 py.l4, .int .u64 pz.l0, .int .u64 pz.l1, .int .u64 pz.l2, .int .u64 pz.l3, .int .u64 pz.l4, .int .u64 pt.l0, .int .u64 pt.l1, .int .u64 pt.l2, .int .u64 pt.l3, .int .u64 pt.l4]] w fun e w' => e = .returned (.tuple #[.agg #[.int .u64 xa.l0, .int .u64 xa.l1, .int .u64 xa.l2, .int .u64 xa.l3, .int .u64 xa.l4], .agg #[.int .u64 ya.l0, .int .u64 ya.l1, .int .u64 ya.l2, .int .u64 ya.l3, .int .u64 ya.l4]]) ∧ Below w.heap.size w w'))
    (Q2 : Hid (∀ w : World, Calls Tryd.prog 37 #[.agg #[.int .u64 xa.l0, .int .u64 xa.l1, .int .u64 xa.l2, .int .u64 xa.l3, .int .u64 xa.l4]] w fun e w' => e = .returned (.bool false) ∧ Below w.heap.size w w'))
    (QB : Hid (∀ w : World, Calls Tryd.prog 56 #[.agg #[.int .u64 ya.l0, .int .u64 ya.l1, .int .u64 ya.l2, .int .u64 ya.l3, .int .u64 ya.l4]] w fun e w' => ∃ g, e = .returned (.slice (some ⟨g, 0, none⟩) 32 32) ∧ Fil n g 32 w' ∧ w.heap.size ≤ g ∧ Below w.heap.size w w')) (w : World) :
    Calls Tryd.prog 14 #[.agg #[.int .u64 px.l0, .int .u64 px.l1, .int .u64 px.l2, .int .u64 px.l3, .int .u64 px.l4, .int .u64 py.l0, .int .u64 py.l1, .int .u64 py.l2, .int .u64 py.l3, .int .u64 py.l4, .int .u64 pz.l0, .int .u64 pz.l1, .int .u64 pz.l2, .int .u64 pz.l3, .int .u64 pz.l4, .int .u64 pt.l0, .int .u64 pt.l1, .int .u64 pt.l2, .int .u64 pt.l3, .int .u64 pt.l4]] w fun e w' => ∃ g, e = .returned (.slice (some ⟨g, 0, none⟩) 32 32) ∧ Fil n g 32 w' ∧ w.heap.size ≤ g ∧ Below w.heap.size w w' := by
  obtain ⟨px0, px1, px2, px3, px4⟩ := px
  obtain ⟨py0, py1, py2, py3, py4⟩ := py
  obtain ⟨pz0, pz1, pz2, pz3, pz4⟩ := pz
  obtain ⟨pt0, pt1, pt2, pt3, pt4⟩ := pt
  obtain ⟨xa0, xa1, xa2, xa3, xa4⟩ := xa
  obtain ⟨ya0, ya1, ya2, ya3, ya4⟩ := ya
  dsimp only at Q1 Q2 QB ⊢
  go_enter Tryd.func14, Tryd.ntmps14
  go_upto_region 1 with fail
  refine wp_cut (fun V => At 30 V w.heap.size [.int .u64 px0, .int .u64 px1, .int .u64 px2, .int .u64 px3, .int .u64 px4, .int .u64 py0, .int .u64 py1, .int .u64 py2, .int .u64 py3, .int .u64 py4, .int .u64 pz0, .int .u64 pz1, .int .u64 pz2, .int .u64 pz3, .int .u64 pz4, .int .u64 pt0, .int .u64 pt1, .int .u64 pt2, .int .u64 pt3, .int .u64 pt4] ∧ Below w.heap.size w V) ⟨?_, ?_⟩ ?_
  · (repeat (first | refine At.drew ?_ | refine At.drewN ?_ _ | (refine at_new2 _ _ _ _ ?_; simp; done) | refine at_alloc ?_ _))
  · (repeat (first | exact Below.refl _ _ | refine Below.drew ?_ | refine below_drewN ?_ _ | refine Below.alloc ?_ (by simp <;> omega) _))
  rintro w1 ⟨k0, k1⟩
  have B1_1 := hid k0
  have G_1 := hid k1
  clear k0 k1
  go_wp2_with (first | (refine wpList_load_mid rfl 30 _ rfl w.heap.size 0 rfl [.int .u64 px0, .int .u64 px1, .int .u64 px2, .int .u64 px3, .int .u64 px4, .int .u64 py0, .int .u64 py1, .int .u64 py2, .int .u64 py3, .int .u64 py4, .int .u64 pz0, .int .u64 pz1, .int .u64 pz2, .int .u64 pz3, .int .u64 pz4, .int .u64 pt0, .int .u64 pt1, .int .u64 pt2, .int .u64 pt3, .int .u64 pt4] _ (at_mid B1_1.out 0 _ rfl) Tryd.underlying30 rfl (by kernel_rfl) ?_) | fail)
  refine (Q1.out _).mono ?_
  rintro e w2 ⟨rfl, g0⟩
  have g := g0
  clear g0
  have B1_2 := hid (B1_1.out.below g)
  have G_2 := hid (G_1.out.trans (g.mono G_1.out.size))
  clear g B1_1 G_1
  go_wp2_with fail
  refine calls_at (fun V => At 30 V w.heap.size [.int .u64 px0, .int .u64 px1, .int .u64 px2, .int .u64 px3, .int .u64 px4, .int .u64 py0, .int .u64 py1, .int .u64 py2, .int .u64 py3, .int .u64 py4, .int .u64 pz0, .int .u64 pz1, .int .u64 pz2, .int .u64 pz3, .int .u64 pz4, .int .u64 pt0, .int .u64 pt1, .int .u64 pt2, .int .u64 pt3, .int .u64 pt4] ∧ At 26 V w2.heap.size [.int .u64 xa0, .int .u64 xa1, .int .u64 xa2, .int .u64 xa3, .int .u64 xa4] ∧ At 26 V (w2.heap.size + 1) [.int .u64 ya0, .int .u64 ya1, .int .u64 ya2, .int .u64 ya3, .int .u64 ya4] ∧ Below w.heap.size w V) ⟨(at_alloc (at_alloc B1_2.out _) _), (at_alloc (at_new2 _ _ _ _ (by simp)) _), (at_new2 _ _ _ _ (by simp)), ((G_2.out.alloc (by have := G_2.out.size; simp <;> omega) _).alloc (by have := G_2.out.size; simp <;> omega) _)⟩ ?_
  have szB3 : w.heap.size ≤ w2.heap.size := by have := G_2.out.size; omega
  have nlB1B3 : w.heap.size < w2.heap.size := by have := B1_2.out.lt; omega
  have szB4 : w.heap.size ≤ (w2.heap.size + 1) := by have := G_2.out.size; omega
  have nlB1B4 : w.heap.size < (w2.heap.size + 1) := by have := B1_2.out.lt; omega
  rintro w3 ⟨k0, k1, k2, k3⟩
  have B1_3 := hid k0
  have B3_3 := hid k1
  have B4_3 := hid k2
  have G_3 := hid k3
  clear k0 k1 k2 k3 B1_2 G_2
  refine (QB.out _).mono ?_
  rintro e w4 ⟨g, rfl, hf, hgs, gw⟩
  have F_4 : Hid (Fil n g 32 w4) := hf
  have hgl : w.heap.size ≤ g := Nat.le_trans G_3.out.size hgs
  have B1_4 := hid (B1_3.out.below gw)
  have B3_4 := hid (B3_3.out.below gw)
  have B4_4 := hid (B4_3.out.below gw)
  have G_4 := hid (G_3.out.trans (gw.mono G_3.out.size))
  clear gw hf hgs B1_3 B3_3 B4_3 G_3
  go_wp2_with (first | (refine wpList_load_mid rfl 26 _ rfl w2.heap.size 0 rfl [.int .u64 xa0, .int .u64 xa1, .int .u64 xa2, .int .u64 xa3, .int .u64 xa4] _ (at_mid B3_4.out 0 _ rfl) Tryd.underlying26 rfl (by kernel_rfl) ?_) | fail)
  refine (Q2.out _).mono ?_
  rintro e w5 ⟨rfl, gw⟩
  have B1_5 := hid (B1_4.out.below gw)
  have B3_5 := hid (B3_4.out.below gw)
  have B4_5 := hid (B4_4.out.below gw)
  have F_5 := hid (F_4.out.below gw)
  have G_5 := hid (G_4.out.trans (gw.mono G_4.out.size))
  clear gw B1_4 B3_4 B4_4 F_4 G_4
  go_wp2_with fail
  go_ret
  exact ⟨g, rfl, F_5.out, hgl, G_5.out⟩
set_option maxRecDepth 100000 in
set_option maxHeartbeats 8000000 in
theorem bytes_yes_w (px py pz pt xa ya : L5) (n : Nat) (hn : n < 2 ^ 255)
    (Q1 : Hid (∀ w : World, Calls Tryd.prog 10 #[.agg #[.int .u64 px.l0, .int .u64 px.l1, .int .u64 px.l2, .int .u64 px.l3, .int .u64 px.l4, .int .u64 py.l0, .int .u64 py.l1, .int .u64 py.l2, .int .u64 py.l3, .int .u64 py.l4, .int .u64 pz.l0, .int .u64 pz.l1, .int .u64 pz.l2, .int .u64 pz.l3, .int .u64 pz.l4, .int .u64 pt.l0, .int .u64 pt.l1, .int .u64 pt.l2, .int .u64 pt.l3, .int .u64 pt.l4]] w fun e w' => e = .returned (.tuple #[.agg #[.int .u64 xa.l0, .int .u64 xa.l1, .int .u64 xa.l2, .int .u64 xa.l3, .int .u64 xa.l4], .agg #[.int .u64 ya.l0, .int .u64 ya.l1, .int .u64 ya.l2, .int .u64 ya.l3, .int .u64 ya.l4]]) ∧ Below w.heap.size w w'))
    (Q2 : Hid (∀ w : World, Calls Tryd.prog 37 #[.agg #[.int .u64 xa.l0, .int .u64 xa.l1, .int .u64 xa.l2, .int .u64 xa.l3, .int .u64 xa.l4]] w fun e w' => e = .returned (.bool true) ∧ Below w.heap.size w w'))
    (QB : Hid (∀ w : World, Calls Tryd.prog 56 #[.agg #[.int .u64 ya.l0, .int .u64 ya.l1, .int .u64 ya.l2, .int .u64 ya.l3, .int .u64 ya.l4]] w fun e w' => ∃ g, e = .returned (.slice (some ⟨g, 0, none⟩) 32 32) ∧ Fil n g 32 w' ∧ w.heap.size ≤ g ∧ Below w.heap.size w w')) (w : World) :
    Calls Tryd.prog 14 #[.agg #[.int .u64 px.l0, .int .u64 px.l1, .int .u64 px.l2, .int .u64 px.l3, .int .u64 px.l4, .int .u64 py.l0, .int .u64 py.l1, .int .u64 py.l2, .int .u64 py.l3, .int .u64 py.l4, .int .u64 pz.l0, .int .u64 pz.l1, .int .u64 pz.l2, .int .u64 pz.l3, .int .u64 pz.l4, .int .u64 pt.l0, .int .u64 pt.l1, .int .u64 pt.l2, .int .u64 pt.l3, .int .u64 pt.l4]] w fun e w' => ∃ g, e = .returned (.slice (some ⟨g, 0, none⟩) 32 32) ∧ Fil (n + 2 ^ 255) g 32 w' ∧ w.heap.size ≤ g ∧ Below w.heap.size w w' := by
  obtain ⟨px0, px1, px2, px3, px4⟩ := px
  obtain ⟨py0, py1, py2, py3, py4⟩ := py
  obtain ⟨pz0, pz1, pz2, pz3, pz4⟩ := pz
  obtain ⟨pt0, pt1, pt2, pt3, pt4⟩ := pt
  obtain ⟨xa0, xa1, xa2, xa3, xa4⟩ := xa
  obtain ⟨ya0, ya1, ya2, ya3, ya4⟩ := ya
  dsimp only at Q1 Q2 QB ⊢
  go_enter Tryd.func14, Tryd.ntmps14
  go_upto_region 1 with fail
  refine wp_cut (fun V => At 30 V w.heap.size [.int .u64 px0, .int .u64 px1, .int .u64 px2, .int .u64 px3, .int .u64 px4, .int .u64 py0, .int .u64 py1, .int .u64 py2, .int .u64 py3, .int .u64 py4, .int .u64 pz0, .int .u64 pz1, .int .u64 pz2, .int .u64 pz3, .int .u64 pz4, .int .u64 pt0, .int .u64 pt1, .int .u64 pt2, .int .u64 pt3, .int .u64 pt4] ∧ Below w.heap.size w V) ⟨?_, ?_⟩ ?_
  · (repeat (first | refine At.drew ?_ | refine At.drewN ?_ _ | (refine at_new2 _ _ _ _ ?_; simp; done) | refine at_alloc ?_ _))
  · (repeat (first | exact Below.refl _ _ | refine Below.drew ?_ | refine below_drewN ?_ _ | refine Below.alloc ?_ (by simp <;> omega) _))
  rintro w1 ⟨k0, k1⟩
  have B1_1 := hid k0
  have G_1 := hid k1
  clear k0 k1
  go_wp2_with (first | (refine wpList_load_mid rfl 30 _ rfl w.heap.size 0 rfl [.int .u64 px0, .int .u64 px1, .int .u64 px2, .int .u64 px3, .int .u64 px4, .int .u64 py0, .int .u64 py1, .int .u64 py2, .int .u64 py3, .int .u64 py4, .int .u64 pz0, .int .u64 pz1, .int .u64 pz2, .int .u64 pz3, .int .u64 pz4, .int .u64 pt0, .int .u64 pt1, .int .u64 pt2, .int .u64 pt3, .int .u64 pt4] _ (at_mid B1_1.out 0 _ rfl) Tryd.underlying30 rfl (by kernel_rfl) ?_) | fail)
  refine (Q1.out _).mono ?_
  rintro e w2 ⟨rfl, g0⟩
  have g := g0
  clear g0
  have B1_2 := hid (B1_1.out.below g)
  have G_2 := hid (G_1.out.trans (g.mono G_1.out.size))
  clear g B1_1 G_1
  go_wp2_with fail
  refine calls_at (fun V => At 30 V w.heap.size [.int .u64 px0, .int .u64 px1, .int .u64 px2, .int .u64 px3, .int .u64 px4, .int .u64 py0, .int .u64 py1, .int .u64 py2, .int .u64 py3, .int .u64 py4, .int .u64 pz0, .int .u64 pz1, .int .u64 pz2, .int .u64 pz3, .int .u64 pz4, .int .u64 pt0, .int .u64 pt1, .int .u64 pt2, .int .u64 pt3, .int .u64 pt4] ∧ At 26 V w2.heap.size [.int .u64 xa0, .int .u64 xa1, .int .u64 xa2, .int .u64 xa3, .int .u64 xa4] ∧ At 26 V (w2.heap.size + 1) [.int .u64 ya0, .int .u64 ya1, .int .u64 ya2, .int .u64 ya3, .int .u64 ya4] ∧ Below w.heap.size w V) ⟨(at_alloc (at_alloc B1_2.out _) _), (at_alloc (at_new2 _ _ _ _ (by simp)) _), (at_new2 _ _ _ _ (by simp)), ((G_2.out.alloc (by have := G_2.out.size; simp <;> omega) _).alloc (by have := G_2.out.size; simp <;> omega) _)⟩ ?_
  have szB3 : w.heap.size ≤ w2.heap.size := by have := G_2.out.size; omega
  have nlB1B3 : w.heap.size < w2.heap.size := by have := B1_2.out.lt; omega
  have szB4 : w.heap.size ≤ (w2.heap.size + 1) := by have := G_2.out.size; omega
  have nlB1B4 : w.heap.size < (w2.heap.size + 1) := by have := B1_2.out.lt; omega
  rintro w3 ⟨k0, k1, k2, k3⟩
  have B1_3 := hid k0
  have B3_3 := hid k1
  have B4_3 := hid k2
  have G_3 := hid k3
  clear k0 k1 k2 k3 B1_2 G_2
  refine (QB.out _).mono ?_
  rintro e w4 ⟨g, rfl, hf, hgs, gw⟩
  have F_4 : Hid (Fil n g 32 w4) := hf
  have hgl : w.heap.size ≤ g := Nat.le_trans G_3.out.size hgs
  have B1_4 := hid (B1_3.out.below gw)
  have B3_4 := hid (B3_3.out.below gw)
  have B4_4 := hid (B4_3.out.below gw)
  have G_4 := hid (G_3.out.trans (gw.mono G_3.out.size))
  clear gw hf hgs B1_3 B3_3 B4_3 G_3
  go_wp2_with (first | (refine wpList_load_mid rfl 26 _ rfl w2.heap.size 0 rfl [.int .u64 xa0, .int .u64 xa1, .int .u64 xa2, .int .u64 xa3, .int .u64 xa4] _ (at_mid B3_4.out 0 _ rfl) Tryd.underlying26 rfl (by kernel_rfl) ?_) | fail)
  refine (Q2.out _).mono ?_
  rintro e w5 ⟨rfl, gw⟩
  have B1_5 := hid (B1_4.out.below gw)
  have B3_5 := hid (B3_4.out.below gw)
  have B4_5 := hid (B4_4.out.below gw)
  have F_5 := hid (F_4.out.below gw)
  have G_5 := hid (G_4.out.trans (gw.mono G_4.out.size))
  clear gw B1_4 B3_4 B4_4 F_4 G_4
  have r31 : w5.cell? ⟨g, 31, none⟩ = some (.int .u8 (byteAt n 31)) := (F_5.out.cell 31 (by omega)).trans (by rw [if_pos (by omega)])
  have f31 := F_5.out.free 31
  have ho := or_top n hn
  go_wp2_with fail
  go_ret
  exact ⟨g, rfl, fil_sign n g _ F_5.out hn, hgl, G_5.out.setCell hgl _⟩
end Go.Proofs.YtkbiiolkekpkiaaDoor.Ed

/-
  The program's Of of layer 10: the walk, given what each call answers. Conditions: as each theorem says.
-/
namespace Go.Proofs.YtkbiiolkekpkiaaDoor.Ed
open Go.RowKit
set_option linter.unusedVariables false
set_option linter.unusedSimpArgs false

set_option maxRecDepth 100000 in
set_option maxHeartbeats 8000000 in
theorem ofP_short_w (a : Option Addr) (n c : Nat) (hn : ¬ n = 32) (w : World) :
    Calls Tryd.prog 8 #[.slice a n c] w fun e w' => e = .returned (.tuple #[.agg #[.int .u64 0, .int .u64 0, .int .u64 0, .int .u64 0, .int .u64 0, .int .u64 0, .int .u64 0, .int .u64 0, .int .u64 0, .int .u64 0, .int .u64 0, .int .u64 0, .int .u64 0, .int .u64 0, .int .u64 0, .int .u64 0, .int .u64 0, .int .u64 0, .int .u64 0, .int .u64 0], .bool false]) ∧ Below w.heap.size w w' := by
  have hn2 : (decide ((n : Int) = 32)) = false := decide_eq_false (by omega)
  have hn3 : ¬ (n : Int) = 32 := by omega
  go_enter Tryd.func8, Tryd.ntmps8
  go_upto_region 1 with fail
  refine wp_cut (fun V => At 30 V w.heap.size [.int .u64 0, .int .u64 0, .int .u64 0, .int .u64 0, .int .u64 0, .int .u64 0, .int .u64 0, .int .u64 0, .int .u64 0, .int .u64 0, .int .u64 0, .int .u64 0, .int .u64 0, .int .u64 0, .int .u64 0, .int .u64 0, .int .u64 0, .int .u64 0, .int .u64 0, .int .u64 0] ∧ Below w.heap.size w V) ⟨?_, ?_⟩ ?_
  · (repeat (first | refine At.drew ?_ | refine At.drewN ?_ _ | (refine at_new2 _ _ _ _ ?_; simp; done) | refine at_alloc ?_ _))
  · (repeat (first | exact Below.refl _ _ | refine Below.drew ?_ | refine below_drewN ?_ _ | refine Below.alloc ?_ (by simp <;> omega) _))
  rintro w1 ⟨k0, k1⟩
  have B2_1 := hid k0
  have G_1 := hid k1
  clear k0 k1
  go_wp2_with (refine list_store_whole rfl 30 _ _ rfl w.heap.size [.int .u64 0, .int .u64 0, .int .u64 0, .int .u64 0, .int .u64 0, .int .u64 0, .int .u64 0, .int .u64 0, .int .u64 0, .int .u64 0, .int .u64 0, .int .u64 0, .int .u64 0, .int .u64 0, .int .u64 0, .int .u64 0, .int .u64 0, .int .u64 0, .int .u64 0, .int .u64 0] _ rfl rfl B2_1.out rfl (by kernel_rfl) (by kernel_rfl) w.heap.size w G_1.out (by omega) (fun F hC hB => ?_))
  exact bodyPost_ret (v := .tuple #[.agg #[.int .u64 0, .int .u64 0, .int .u64 0, .int .u64 0, .int .u64 0, .int .u64 0, .int .u64 0, .int .u64 0, .int .u64 0, .int .u64 0, .int .u64 0, .int .u64 0, .int .u64 0, .int .u64 0, .int .u64 0, .int .u64 0, .int .u64 0, .int .u64 0, .int .u64 0, .int .u64 0], .bool false]) (results_cs (Tryd.results8) _ F w.heap.size 0 [.int .u64 0, .int .u64 0, .int .u64 0, .int .u64 0, .int .u64 0, .int .u64 0, .int .u64 0, .int .u64 0, .int .u64 0, .int .u64 0, .int .u64 0, .int .u64 0, .int .u64 0, .int .u64 0, .int .u64 0, .int .u64 0, .int .u64 0, .int .u64 0, .int .u64 0, .int .u64 0] _ _ rfl rfl hC.range Tryd.underlying30 rfl (by kernel_rfl)) rfl ⟨rfl, hB⟩
set_option maxRecDepth 100000 in
set_option maxHeartbeats 8000000 in
theorem ofP_big_w (ye : L5) (N y b o c : Nat) (hN : N < 2 ^ 256) (hy : Hid (y = N % 2 ^ 255)) (hs : bits .and .u8 (byteAt N 31) 128 = 0) (w : World) (hb : b < w.heap.size)
    (HC : Hid (∀ j, j < 32 → w.cell? ⟨b, o + j, none⟩ = some (.int .u8 (byteAt N j))))
    (KC : Hid (∀ W : World, Below w.heap.size w W → Calls Tryd.prog 33 #[.slice (some ⟨b, o, none⟩) 32 c] W fun e w' => ∃ v', e = .returned v' ∧ Own8 W.heap.size w' v' (leB N 32) ∧ Below W.heap.size W w'))
    (KO : Hid (∀ (w : World) (g c : Nat), g < w.heap.size → (∀ j, j < 32 → w.cell? ⟨g, 0 + j, none⟩ = some (.int .u8 (byteAt y j))) → Calls Tryd.prog 34 #[.slice (some ⟨g, 0, none⟩) 32 c] w fun e w' => e = .returned (.tuple #[.agg #[.int .u64 ye.l0, .int .u64 ye.l1, .int .u64 ye.l2, .int .u64 ye.l3, .int .u64 ye.l4], .bool false]) ∧ Below w.heap.size w w'))
    (D_0 : Hid (Gd w)) (Z_0 : Hid (Gl w)) :
    Calls Tryd.prog 8 #[.slice (some ⟨b, o, none⟩) 32 c] w fun e w' => e = .returned (.tuple #[.agg #[.int .u64 0, .int .u64 0, .int .u64 0, .int .u64 0, .int .u64 0, .int .u64 0, .int .u64 0, .int .u64 0, .int .u64 0, .int .u64 0, .int .u64 0, .int .u64 0, .int .u64 0, .int .u64 0, .int .u64 0, .int .u64 0, .int .u64 0, .int .u64 0, .int .u64 0, .int .u64 0], .bool false]) ∧ Below w.heap.size w w' := by
  obtain ⟨ye0, ye1, ye2, ye3, ye4⟩ := ye
  dsimp only at  KO ⊢
  go_enter Tryd.func8, Tryd.ntmps8
  go_upto_region 1 with fail
  have HD := D_0.out.lt
  have HZ := Z_0.out.lt
  refine wp_cut (fun V => At 30 V w.heap.size [.int .u64 0, .int .u64 0, .int .u64 0, .int .u64 0, .int .u64 0, .int .u64 0, .int .u64 0, .int .u64 0, .int .u64 0, .int .u64 0, .int .u64 0, .int .u64 0, .int .u64 0, .int .u64 0, .int .u64 0, .int .u64 0, .int .u64 0, .int .u64 0, .int .u64 0, .int .u64 0] ∧ Gd V ∧ Gl V ∧ Below w.heap.size w V) ⟨?_, ?_, ?_, ?_⟩ ?_
  · (repeat (first | refine At.drew ?_ | refine At.drewN ?_ _ | (refine at_new2 _ _ _ _ ?_; simp; done) | refine at_alloc ?_ _))
  · refine D_0.out.grown ?_
    (repeat (first | exact Below.refl _ _ | refine Below.drew ?_ | refine below_drewN ?_ _ | refine Below.alloc ?_ (by simp <;> omega) _))
  · refine Z_0.out.grown ?_
    (repeat (first | exact Below.refl _ _ | refine Below.drew ?_ | refine below_drewN ?_ _ | refine Below.alloc ?_ (by simp <;> omega) _))
  · (repeat (first | exact Below.refl _ _ | refine Below.drew ?_ | refine below_drewN ?_ _ | refine Below.alloc ?_ (by simp <;> omega) _))
  rintro w1 ⟨k0, k1, k2, k3⟩
  have B2_1 := hid k0
  have D_1 := hid k1
  have Z_1 := hid k2
  have G_1 := hid k3
  clear k0 k1 k2 k3 D_0 Z_0
  have c31 : w1.cell? ⟨b, o + 31, none⟩ = some (.int .u8 (byteAt N 31)) := (G_1.out.cell (p := ⟨b, o + 31, none⟩) hb).trans (HC.out 31 (by omega))
  go_wp2_with fail
  clear c31
  refine (KC.out w1 G_1.out).mono ?_
  rintro e w2 ⟨v2, rfl, ho, g⟩
  obtain ⟨gb, gc, L, rfl, hgb, hA, hL⟩ := own8_row ho
  obtain ⟨hAN, hcells⟩ := row_low hA hL hN hy.out
  clear hy
  have r31 : w2.cell? ⟨gb, 31, none⟩ = some (.int .u8 (byteAt N 31)) := by rw [hA.cell]; exact hL 31 (by omega)
  have f31 : w2.frozen? ⟨gb, 31, none⟩ = false := hA.free 31
  have nlB2 : w.heap.size < gb := Nat.lt_of_lt_of_le B2_1.out.lt hgb
  have hgw : w.heap.size ≤ gb := Nat.le_trans G_1.out.size hgb
  have B2_2 := hid (B2_1.out.below g)
  have D_2 := hid (D_1.out.grown g)
  have Z_2 := hid (Z_1.out.grown g)
  have G_2 := hid (G_1.out.trans (g.mono G_1.out.size))
  clear g ho hgb B2_1 D_1 Z_1 G_1
  go_wp2_with fail
  clear r31 f31 hAN
  have hO : Oth gb w2 (w2.setCell ⟨gb, 31, none⟩ (.int .u8 (byteAt y 31))) := (Oth.refl gb w2).set 31 _
  refine calls_at (fun V => (∀ j, j < 32 → V.cell? ⟨gb, 0 + j, none⟩ = some (.int .u8 (byteAt y j))) ∧ gb < V.heap.size ∧ At 30 V w.heap.size [.int .u64 0, .int .u64 0, .int .u64 0, .int .u64 0, .int .u64 0, .int .u64 0, .int .u64 0, .int .u64 0, .int .u64 0, .int .u64 0, .int .u64 0, .int .u64 0, .int .u64 0, .int .u64 0, .int .u64 0, .int .u64 0, .int .u64 0, .int .u64 0, .int .u64 0, .int .u64 0] ∧ Gd V ∧ Gl V ∧ Below w.heap.size w V) ⟨hcells, by simpa using hA.lt, hO.at B2_2.out (by omega), D_2.out.below (below_oth hO hgw G_2.out.size) HD, Z_2.out.below (below_oth hO hgw G_2.out.size) HZ, Oth.bel G_2.out hO hgw⟩ ?_
  clear hO hcells hA hL
  rintro w3 ⟨hcells, hlt, k0, k1, k2, k3⟩
  have B2_3 := hid k0
  have D_3 := hid k1
  have Z_3 := hid k2
  have G_3 := hid k3
  clear k0 k1 k2 k3 B2_2 D_2 Z_2 G_2
  refine (KO.out w3 gb gc hlt hcells).mono ?_
  rintro e w4 ⟨rfl, g⟩
  clear hlt hcells
  have B2_4 := hid (B2_3.out.below g)
  have D_4 := hid (D_3.out.grown g)
  have Z_4 := hid (Z_3.out.grown g)
  have G_4 := hid (G_3.out.trans (g.mono G_3.out.size))
  clear g B2_3 D_3 Z_3 G_3
  go_wp2_with (refine list_store_whole rfl 30 _ _ rfl w.heap.size [.int .u64 0, .int .u64 0, .int .u64 0, .int .u64 0, .int .u64 0, .int .u64 0, .int .u64 0, .int .u64 0, .int .u64 0, .int .u64 0, .int .u64 0, .int .u64 0, .int .u64 0, .int .u64 0, .int .u64 0, .int .u64 0, .int .u64 0, .int .u64 0, .int .u64 0, .int .u64 0] _ rfl rfl (at_alloc B2_4.out _) rfl (by kernel_rfl) (by kernel_rfl) w.heap.size w (G_4.out.alloc (by have := G_4.out.size; simp <;> omega) _) (by omega) (fun F hC hB => ?_))
  exact bodyPost_ret (v := .tuple #[.agg #[.int .u64 0, .int .u64 0, .int .u64 0, .int .u64 0, .int .u64 0, .int .u64 0, .int .u64 0, .int .u64 0, .int .u64 0, .int .u64 0, .int .u64 0, .int .u64 0, .int .u64 0, .int .u64 0, .int .u64 0, .int .u64 0, .int .u64 0, .int .u64 0, .int .u64 0, .int .u64 0], .bool false]) (results_cs (Tryd.results8) _ F w.heap.size 0 [.int .u64 0, .int .u64 0, .int .u64 0, .int .u64 0, .int .u64 0, .int .u64 0, .int .u64 0, .int .u64 0, .int .u64 0, .int .u64 0, .int .u64 0, .int .u64 0, .int .u64 0, .int .u64 0, .int .u64 0, .int .u64 0, .int .u64 0, .int .u64 0, .int .u64 0, .int .u64 0] _ _ rfl rfl hC.range Tryd.underlying30 rfl (by kernel_rfl)) rfl ⟨rfl, hB⟩
set_option maxRecDepth 100000 in
set_option maxHeartbeats 8000000 in
theorem ofP_notok_w (ye za : L5) (N y b o c : Nat) (hN : N < 2 ^ 256) (hy : Hid (y = N % 2 ^ 255)) (hs : bits .and .u8 (byteAt N 31) 128 = 0) (w : World) (hb : b < w.heap.size)
    (HC : Hid (∀ j, j < 32 → w.cell? ⟨b, o + j, none⟩ = some (.int .u8 (byteAt N j))))
    (KC : Hid (∀ W : World, Below w.heap.size w W → Calls Tryd.prog 33 #[.slice (some ⟨b, o, none⟩) 32 c] W fun e w' => ∃ v', e = .returned v' ∧ Own8 W.heap.size w' v' (leB N 32) ∧ Below W.heap.size W w'))
    (KO : Hid (∀ (w : World) (g c : Nat), g < w.heap.size → (∀ j, j < 32 → w.cell? ⟨g, 0 + j, none⟩ = some (.int .u8 (byteAt y j))) → Calls Tryd.prog 34 #[.slice (some ⟨g, 0, none⟩) 32 c] w fun e w' => e = .returned (.tuple #[.agg #[.int .u64 ye.l0, .int .u64 ye.l1, .int .u64 ye.l2, .int .u64 ye.l3, .int .u64 ye.l4], .bool true]) ∧ Below w.heap.size w w'))
    (Q1 : Hid (∀ w : World, Gd w → Gl w → Calls Tryd.prog 35 #[.agg #[.int .u64 ye.l0, .int .u64 ye.l1, .int .u64 ye.l2, .int .u64 ye.l3, .int .u64 ye.l4]] w fun e w' => e = .returned (.tuple #[.agg #[.int .u64 za.l0, .int .u64 za.l1, .int .u64 za.l2, .int .u64 za.l3, .int .u64 za.l4], .bool false]) ∧ Below w.heap.size w w'))
    (D_0 : Hid (Gd w)) (Z_0 : Hid (Gl w)) :
    Calls Tryd.prog 8 #[.slice (some ⟨b, o, none⟩) 32 c] w fun e w' => e = .returned (.tuple #[.agg #[.int .u64 0, .int .u64 0, .int .u64 0, .int .u64 0, .int .u64 0, .int .u64 0, .int .u64 0, .int .u64 0, .int .u64 0, .int .u64 0, .int .u64 0, .int .u64 0, .int .u64 0, .int .u64 0, .int .u64 0, .int .u64 0, .int .u64 0, .int .u64 0, .int .u64 0, .int .u64 0], .bool false]) ∧ Below w.heap.size w w' := by
  obtain ⟨ye0, ye1, ye2, ye3, ye4⟩ := ye
  obtain ⟨za0, za1, za2, za3, za4⟩ := za
  dsimp only at Q1 KO ⊢
  go_enter Tryd.func8, Tryd.ntmps8
  go_upto_region 1 with fail
  have HD := D_0.out.lt
  have HZ := Z_0.out.lt
  refine wp_cut (fun V => At 30 V w.heap.size [.int .u64 0, .int .u64 0, .int .u64 0, .int .u64 0, .int .u64 0, .int .u64 0, .int .u64 0, .int .u64 0, .int .u64 0, .int .u64 0, .int .u64 0, .int .u64 0, .int .u64 0, .int .u64 0, .int .u64 0, .int .u64 0, .int .u64 0, .int .u64 0, .int .u64 0, .int .u64 0] ∧ Gd V ∧ Gl V ∧ Below w.heap.size w V) ⟨?_, ?_, ?_, ?_⟩ ?_
  · (repeat (first | refine At.drew ?_ | refine At.drewN ?_ _ | (refine at_new2 _ _ _ _ ?_; simp; done) | refine at_alloc ?_ _))
  · refine D_0.out.grown ?_
    (repeat (first | exact Below.refl _ _ | refine Below.drew ?_ | refine below_drewN ?_ _ | refine Below.alloc ?_ (by simp <;> omega) _))
  · refine Z_0.out.grown ?_
    (repeat (first | exact Below.refl _ _ | refine Below.drew ?_ | refine below_drewN ?_ _ | refine Below.alloc ?_ (by simp <;> omega) _))
  · (repeat (first | exact Below.refl _ _ | refine Below.drew ?_ | refine below_drewN ?_ _ | refine Below.alloc ?_ (by simp <;> omega) _))
  rintro w1 ⟨k0, k1, k2, k3⟩
  have B2_1 := hid k0
  have D_1 := hid k1
  have Z_1 := hid k2
  have G_1 := hid k3
  clear k0 k1 k2 k3 D_0 Z_0
  have c31 : w1.cell? ⟨b, o + 31, none⟩ = some (.int .u8 (byteAt N 31)) := (G_1.out.cell (p := ⟨b, o + 31, none⟩) hb).trans (HC.out 31 (by omega))
  go_wp2_with fail
  clear c31
  refine (KC.out w1 G_1.out).mono ?_
  rintro e w2 ⟨v2, rfl, ho, g⟩
  obtain ⟨gb, gc, L, rfl, hgb, hA, hL⟩ := own8_row ho
  obtain ⟨hAN, hcells⟩ := row_low hA hL hN hy.out
  clear hy
  have r31 : w2.cell? ⟨gb, 31, none⟩ = some (.int .u8 (byteAt N 31)) := by rw [hA.cell]; exact hL 31 (by omega)
  have f31 : w2.frozen? ⟨gb, 31, none⟩ = false := hA.free 31
  have nlB2 : w.heap.size < gb := Nat.lt_of_lt_of_le B2_1.out.lt hgb
  have hgw : w.heap.size ≤ gb := Nat.le_trans G_1.out.size hgb
  have B2_2 := hid (B2_1.out.below g)
  have D_2 := hid (D_1.out.grown g)
  have Z_2 := hid (Z_1.out.grown g)
  have G_2 := hid (G_1.out.trans (g.mono G_1.out.size))
  clear g ho hgb B2_1 D_1 Z_1 G_1
  go_wp2_with fail
  clear r31 f31 hAN
  have hO : Oth gb w2 (w2.setCell ⟨gb, 31, none⟩ (.int .u8 (byteAt y 31))) := (Oth.refl gb w2).set 31 _
  refine calls_at (fun V => (∀ j, j < 32 → V.cell? ⟨gb, 0 + j, none⟩ = some (.int .u8 (byteAt y j))) ∧ gb < V.heap.size ∧ At 30 V w.heap.size [.int .u64 0, .int .u64 0, .int .u64 0, .int .u64 0, .int .u64 0, .int .u64 0, .int .u64 0, .int .u64 0, .int .u64 0, .int .u64 0, .int .u64 0, .int .u64 0, .int .u64 0, .int .u64 0, .int .u64 0, .int .u64 0, .int .u64 0, .int .u64 0, .int .u64 0, .int .u64 0] ∧ Gd V ∧ Gl V ∧ Below w.heap.size w V) ⟨hcells, by simpa using hA.lt, hO.at B2_2.out (by omega), D_2.out.below (below_oth hO hgw G_2.out.size) HD, Z_2.out.below (below_oth hO hgw G_2.out.size) HZ, Oth.bel G_2.out hO hgw⟩ ?_
  clear hO hcells hA hL
  rintro w3 ⟨hcells, hlt, k0, k1, k2, k3⟩
  have B2_3 := hid k0
  have D_3 := hid k1
  have Z_3 := hid k2
  have G_3 := hid k3
  clear k0 k1 k2 k3 B2_2 D_2 Z_2 G_2
  refine (KO.out w3 gb gc hlt hcells).mono ?_
  rintro e w4 ⟨rfl, g⟩
  clear hlt hcells
  have B2_4 := hid (B2_3.out.below g)
  have D_4 := hid (D_3.out.grown g)
  have Z_4 := hid (Z_3.out.grown g)
  have G_4 := hid (G_3.out.trans (g.mono G_3.out.size))
  clear g B2_3 D_3 Z_3 G_3
  go_wp2_with fail
  refine calls_at (fun V => At 30 V w.heap.size [.int .u64 0, .int .u64 0, .int .u64 0, .int .u64 0, .int .u64 0, .int .u64 0, .int .u64 0, .int .u64 0, .int .u64 0, .int .u64 0, .int .u64 0, .int .u64 0, .int .u64 0, .int .u64 0, .int .u64 0, .int .u64 0, .int .u64 0, .int .u64 0, .int .u64 0, .int .u64 0] ∧ Gd V ∧ Gl V ∧ At 26 V w4.heap.size [.int .u64 ye0, .int .u64 ye1, .int .u64 ye2, .int .u64 ye3, .int .u64 ye4] ∧ Below w.heap.size w V) ⟨(at_alloc B2_4.out _), (D_4.out.grown ((Below.refl _ _).alloc (Nat.le_refl _) _)), (Z_4.out.grown ((Below.refl _ _).alloc (Nat.le_refl _) _)), (at_new2 _ _ _ _ (by simp)), (G_4.out.alloc (by have := G_4.out.size; simp <;> omega) _)⟩ ?_
  have szB6 : w.heap.size ≤ w4.heap.size := by have := G_4.out.size; omega
  have nlB2B6 : w.heap.size < w4.heap.size := by have := B2_4.out.lt; omega
  rintro w5 ⟨k0, k1, k2, k3, k4⟩
  have B2_5 := hid k0
  have D_5 := hid k1
  have Z_5 := hid k2
  have B6_5 := hid k3
  have G_5 := hid k4
  clear k0 k1 k2 k3 k4 B2_4 D_4 Z_4 G_4
  refine (Q1.out _ D_5.out Z_5.out).mono ?_
  rintro e w6 ⟨rfl, g0⟩
  have g := g0
  clear g0
  have B2_6 := hid (B2_5.out.below g)
  have B6_6 := hid (B6_5.out.below g)
  have D_6 := hid (D_5.out.grown g)
  have Z_6 := hid (Z_5.out.grown g)
  have G_6 := hid (G_5.out.trans (g.mono G_5.out.size))
  clear g B2_5 B6_5 D_5 Z_5 G_5
  go_wp2_with (refine list_store_whole rfl 30 _ _ rfl w.heap.size [.int .u64 0, .int .u64 0, .int .u64 0, .int .u64 0, .int .u64 0, .int .u64 0, .int .u64 0, .int .u64 0, .int .u64 0, .int .u64 0, .int .u64 0, .int .u64 0, .int .u64 0, .int .u64 0, .int .u64 0, .int .u64 0, .int .u64 0, .int .u64 0, .int .u64 0, .int .u64 0] _ rfl rfl (at_alloc B2_6.out _) rfl (by kernel_rfl) (by kernel_rfl) w.heap.size w (G_6.out.alloc (by have := G_6.out.size; simp <;> omega) _) (by omega) (fun F hC hB => ?_))
  exact bodyPost_ret (v := .tuple #[.agg #[.int .u64 0, .int .u64 0, .int .u64 0, .int .u64 0, .int .u64 0, .int .u64 0, .int .u64 0, .int .u64 0, .int .u64 0, .int .u64 0, .int .u64 0, .int .u64 0, .int .u64 0, .int .u64 0, .int .u64 0, .int .u64 0, .int .u64 0, .int .u64 0, .int .u64 0, .int .u64 0], .bool false]) (results_cs (Tryd.results8) _ F w.heap.size 0 [.int .u64 0, .int .u64 0, .int .u64 0, .int .u64 0, .int .u64 0, .int .u64 0, .int .u64 0, .int .u64 0, .int .u64 0, .int .u64 0, .int .u64 0, .int .u64 0, .int .u64 0, .int .u64 0, .int .u64 0, .int .u64 0, .int .u64 0, .int .u64 0, .int .u64 0, .int .u64 0] _ _ rfl rfl hC.range Tryd.underlying30 rfl (by kernel_rfl)) rfl ⟨rfl, hB⟩
set_option maxRecDepth 100000 in
set_option maxHeartbeats 8000000 in
theorem ofP_yes_w (ye za cx cy cz ct : L5) (N y b o c : Nat) (hN : N < 2 ^ 256) (hy : Hid (y = N % 2 ^ 255)) (hs : bits .and .u8 (byteAt N 31) 128 = 0) (w : World) (hb : b < w.heap.size)
    (HC : Hid (∀ j, j < 32 → w.cell? ⟨b, o + j, none⟩ = some (.int .u8 (byteAt N j))))
    (KC : Hid (∀ W : World, Below w.heap.size w W → Calls Tryd.prog 33 #[.slice (some ⟨b, o, none⟩) 32 c] W fun e w' => ∃ v', e = .returned v' ∧ Own8 W.heap.size w' v' (leB N 32) ∧ Below W.heap.size W w'))
    (KO : Hid (∀ (w : World) (g c : Nat), g < w.heap.size → (∀ j, j < 32 → w.cell? ⟨g, 0 + j, none⟩ = some (.int .u8 (byteAt y j))) → Calls Tryd.prog 34 #[.slice (some ⟨g, 0, none⟩) 32 c] w fun e w' => e = .returned (.tuple #[.agg #[.int .u64 ye.l0, .int .u64 ye.l1, .int .u64 ye.l2, .int .u64 ye.l3, .int .u64 ye.l4], .bool true]) ∧ Below w.heap.size w w'))
    (Q1 : Hid (∀ w : World, Gd w → Gl w → Calls Tryd.prog 35 #[.agg #[.int .u64 ye.l0, .int .u64 ye.l1, .int .u64 ye.l2, .int .u64 ye.l3, .int .u64 ye.l4]] w fun e w' => e = .returned (.tuple #[.agg #[.int .u64 za.l0, .int .u64 za.l1, .int .u64 za.l2, .int .u64 za.l3, .int .u64 za.l4], .bool true]) ∧ Below w.heap.size w w'))
    (Q2 : Hid (∀ w : World, Calls Tryd.prog 37 #[.agg #[.int .u64 za.l0, .int .u64 za.l1, .int .u64 za.l2, .int .u64 za.l3, .int .u64 za.l4]] w fun e w' => e = .returned (.bool false) ∧ Below w.heap.size w w'))
    (Q3 : Hid (∀ w : World, Calls Tryd.prog 38 #[.agg #[.int .u64 za.l0, .int .u64 za.l1, .int .u64 za.l2, .int .u64 za.l3, .int .u64 za.l4], .agg #[.int .u64 ye.l0, .int .u64 ye.l1, .int .u64 ye.l2, .int .u64 ye.l3, .int .u64 ye.l4]] w fun e w' => e = .returned (.agg #[.int .u64 cx.l0, .int .u64 cx.l1, .int .u64 cx.l2, .int .u64 cx.l3, .int .u64 cx.l4, .int .u64 cy.l0, .int .u64 cy.l1, .int .u64 cy.l2, .int .u64 cy.l3, .int .u64 cy.l4, .int .u64 cz.l0, .int .u64 cz.l1, .int .u64 cz.l2, .int .u64 cz.l3, .int .u64 cz.l4, .int .u64 ct.l0, .int .u64 ct.l1, .int .u64 ct.l2, .int .u64 ct.l3, .int .u64 ct.l4]) ∧ Below w.heap.size w w'))
    (D_0 : Hid (Gd w)) (Z_0 : Hid (Gl w)) :
    Calls Tryd.prog 8 #[.slice (some ⟨b, o, none⟩) 32 c] w fun e w' => e = .returned (.tuple #[.agg #[.int .u64 cx.l0, .int .u64 cx.l1, .int .u64 cx.l2, .int .u64 cx.l3, .int .u64 cx.l4, .int .u64 cy.l0, .int .u64 cy.l1, .int .u64 cy.l2, .int .u64 cy.l3, .int .u64 cy.l4, .int .u64 cz.l0, .int .u64 cz.l1, .int .u64 cz.l2, .int .u64 cz.l3, .int .u64 cz.l4, .int .u64 ct.l0, .int .u64 ct.l1, .int .u64 ct.l2, .int .u64 ct.l3, .int .u64 ct.l4], .bool true]) ∧ Below w.heap.size w w' := by
  obtain ⟨ye0, ye1, ye2, ye3, ye4⟩ := ye
  obtain ⟨za0, za1, za2, za3, za4⟩ := za
  obtain ⟨cx0, cx1, cx2, cx3, cx4⟩ := cx
  obtain ⟨cy0, cy1, cy2, cy3, cy4⟩ := cy
  obtain ⟨cz0, cz1, cz2, cz3, cz4⟩ := cz
  obtain ⟨ct0, ct1, ct2, ct3, ct4⟩ := ct
  dsimp only at Q1 Q2 Q3 KO ⊢
  go_enter Tryd.func8, Tryd.ntmps8
  go_upto_region 1 with fail
  have HD := D_0.out.lt
  have HZ := Z_0.out.lt
  refine wp_cut (fun V => At 30 V w.heap.size [.int .u64 0, .int .u64 0, .int .u64 0, .int .u64 0, .int .u64 0, .int .u64 0, .int .u64 0, .int .u64 0, .int .u64 0, .int .u64 0, .int .u64 0, .int .u64 0, .int .u64 0, .int .u64 0, .int .u64 0, .int .u64 0, .int .u64 0, .int .u64 0, .int .u64 0, .int .u64 0] ∧ Gd V ∧ Gl V ∧ Below w.heap.size w V) ⟨?_, ?_, ?_, ?_⟩ ?_
  · (repeat (first | refine At.drew ?_ | refine At.drewN ?_ _ | (refine at_new2 _ _ _ _ ?_; simp; done) | refine at_alloc ?_ _))
  · refine D_0.out.grown ?_
    (repeat (first | exact Below.refl _ _ | refine Below.drew ?_ | refine below_drewN ?_ _ | refine Below.alloc ?_ (by simp <;> omega) _))
  · refine Z_0.out.grown ?_
    (repeat (first | exact Below.refl _ _ | refine Below.drew ?_ | refine below_drewN ?_ _ | refine Below.alloc ?_ (by simp <;> omega) _))
  · (repeat (first | exact Below.refl _ _ | refine Below.drew ?_ | refine below_drewN ?_ _ | refine Below.alloc ?_ (by simp <;> omega) _))
  rintro w1 ⟨k0, k1, k2, k3⟩
  have B2_1 := hid k0
  have D_1 := hid k1
  have Z_1 := hid k2
  have G_1 := hid k3
  clear k0 k1 k2 k3 D_0 Z_0
  have c31 : w1.cell? ⟨b, o + 31, none⟩ = some (.int .u8 (byteAt N 31)) := (G_1.out.cell (p := ⟨b, o + 31, none⟩) hb).trans (HC.out 31 (by omega))
  go_wp2_with fail
  clear c31
  refine (KC.out w1 G_1.out).mono ?_
  rintro e w2 ⟨v2, rfl, ho, g⟩
  obtain ⟨gb, gc, L, rfl, hgb, hA, hL⟩ := own8_row ho
  obtain ⟨hAN, hcells⟩ := row_low hA hL hN hy.out
  clear hy
  have r31 : w2.cell? ⟨gb, 31, none⟩ = some (.int .u8 (byteAt N 31)) := by rw [hA.cell]; exact hL 31 (by omega)
  have f31 : w2.frozen? ⟨gb, 31, none⟩ = false := hA.free 31
  have nlB2 : w.heap.size < gb := Nat.lt_of_lt_of_le B2_1.out.lt hgb
  have hgw : w.heap.size ≤ gb := Nat.le_trans G_1.out.size hgb
  have B2_2 := hid (B2_1.out.below g)
  have D_2 := hid (D_1.out.grown g)
  have Z_2 := hid (Z_1.out.grown g)
  have G_2 := hid (G_1.out.trans (g.mono G_1.out.size))
  clear g ho hgb B2_1 D_1 Z_1 G_1
  go_wp2_with fail
  clear r31 f31 hAN
  have hO : Oth gb w2 (w2.setCell ⟨gb, 31, none⟩ (.int .u8 (byteAt y 31))) := (Oth.refl gb w2).set 31 _
  refine calls_at (fun V => (∀ j, j < 32 → V.cell? ⟨gb, 0 + j, none⟩ = some (.int .u8 (byteAt y j))) ∧ gb < V.heap.size ∧ At 30 V w.heap.size [.int .u64 0, .int .u64 0, .int .u64 0, .int .u64 0, .int .u64 0, .int .u64 0, .int .u64 0, .int .u64 0, .int .u64 0, .int .u64 0, .int .u64 0, .int .u64 0, .int .u64 0, .int .u64 0, .int .u64 0, .int .u64 0, .int .u64 0, .int .u64 0, .int .u64 0, .int .u64 0] ∧ Gd V ∧ Gl V ∧ Below w.heap.size w V) ⟨hcells, by simpa using hA.lt, hO.at B2_2.out (by omega), D_2.out.below (below_oth hO hgw G_2.out.size) HD, Z_2.out.below (below_oth hO hgw G_2.out.size) HZ, Oth.bel G_2.out hO hgw⟩ ?_
  clear hO hcells hA hL
  rintro w3 ⟨hcells, hlt, k0, k1, k2, k3⟩
  have B2_3 := hid k0
  have D_3 := hid k1
  have Z_3 := hid k2
  have G_3 := hid k3
  clear k0 k1 k2 k3 B2_2 D_2 Z_2 G_2
  refine (KO.out w3 gb gc hlt hcells).mono ?_
  rintro e w4 ⟨rfl, g⟩
  clear hlt hcells
  have B2_4 := hid (B2_3.out.below g)
  have D_4 := hid (D_3.out.grown g)
  have Z_4 := hid (Z_3.out.grown g)
  have G_4 := hid (G_3.out.trans (g.mono G_3.out.size))
  clear g B2_3 D_3 Z_3 G_3
  go_wp2_with fail
  refine calls_at (fun V => At 30 V w.heap.size [.int .u64 0, .int .u64 0, .int .u64 0, .int .u64 0, .int .u64 0, .int .u64 0, .int .u64 0, .int .u64 0, .int .u64 0, .int .u64 0, .int .u64 0, .int .u64 0, .int .u64 0, .int .u64 0, .int .u64 0, .int .u64 0, .int .u64 0, .int .u64 0, .int .u64 0, .int .u64 0] ∧ Gd V ∧ Gl V ∧ At 26 V w4.heap.size [.int .u64 ye0, .int .u64 ye1, .int .u64 ye2, .int .u64 ye3, .int .u64 ye4] ∧ Below w.heap.size w V) ⟨(at_alloc B2_4.out _), (D_4.out.grown ((Below.refl _ _).alloc (Nat.le_refl _) _)), (Z_4.out.grown ((Below.refl _ _).alloc (Nat.le_refl _) _)), (at_new2 _ _ _ _ (by simp)), (G_4.out.alloc (by have := G_4.out.size; simp <;> omega) _)⟩ ?_
  have szB6 : w.heap.size ≤ w4.heap.size := by have := G_4.out.size; omega
  have nlB2B6 : w.heap.size < w4.heap.size := by have := B2_4.out.lt; omega
  rintro w5 ⟨k0, k1, k2, k3, k4⟩
  have B2_5 := hid k0
  have D_5 := hid k1
  have Z_5 := hid k2
  have B6_5 := hid k3
  have G_5 := hid k4
  clear k0 k1 k2 k3 k4 B2_4 D_4 Z_4 G_4
  refine (Q1.out _ D_5.out Z_5.out).mono ?_
  rintro e w6 ⟨rfl, g0⟩
  have g := g0
  clear g0
  have B2_6 := hid (B2_5.out.below g)
  have B6_6 := hid (B6_5.out.below g)
  have D_6 := hid (D_5.out.grown g)
  have Z_6 := hid (Z_5.out.grown g)
  have G_6 := hid (G_5.out.trans (g.mono G_5.out.size))
  clear g B2_5 B6_5 D_5 Z_5 G_5
  go_wp2_with fail
  refine calls_at (fun V => At 30 V w.heap.size [.int .u64 0, .int .u64 0, .int .u64 0, .int .u64 0, .int .u64 0, .int .u64 0, .int .u64 0, .int .u64 0, .int .u64 0, .int .u64 0, .int .u64 0, .int .u64 0, .int .u64 0, .int .u64 0, .int .u64 0, .int .u64 0, .int .u64 0, .int .u64 0, .int .u64 0, .int .u64 0] ∧ At 26 V w4.heap.size [.int .u64 ye0, .int .u64 ye1, .int .u64 ye2, .int .u64 ye3, .int .u64 ye4] ∧ Gd V ∧ Gl V ∧ At 26 V w6.heap.size [.int .u64 za0, .int .u64 za1, .int .u64 za2, .int .u64 za3, .int .u64 za4] ∧ Below w.heap.size w V) ⟨(at_alloc B2_6.out _), (at_alloc B6_6.out _), (D_6.out.grown ((Below.refl _ _).alloc (Nat.le_refl _) _)), (Z_6.out.grown ((Below.refl _ _).alloc (Nat.le_refl _) _)), (at_new2 _ _ _ _ (by simp)), (G_6.out.alloc (by have := G_6.out.size; simp <;> omega) _)⟩ ?_
  have szB8 : w.heap.size ≤ w6.heap.size := by have := G_6.out.size; omega
  have nlB2B8 : w.heap.size < w6.heap.size := by have := B2_6.out.lt; omega
  have nlB6B8 : w4.heap.size < w6.heap.size := by have := B6_6.out.lt; omega
  rintro w7 ⟨k0, k1, k2, k3, k4, k5⟩
  have B2_7 := hid k0
  have B6_7 := hid k1
  have D_7 := hid k2
  have Z_7 := hid k3
  have B8_7 := hid k4
  have G_7 := hid k5
  clear k0 k1 k2 k3 k4 k5 B2_6 B6_6 D_6 Z_6 G_6
  refine (Q2.out _).mono ?_
  rintro e w8 ⟨rfl, g0⟩
  have g := g0
  clear g0
  have B2_8 := hid (B2_7.out.below g)
  have B6_8 := hid (B6_7.out.below g)
  have B8_8 := hid (B8_7.out.below g)
  have D_8 := hid (D_7.out.grown g)
  have Z_8 := hid (Z_7.out.grown g)
  have G_8 := hid (G_7.out.trans (g.mono G_7.out.size))
  clear g B2_7 B6_7 B8_7 D_7 Z_7 G_7
  go_wp2_with (first | (refine wpList_load_mid rfl 26 _ rfl w6.heap.size 0 rfl [.int .u64 za0, .int .u64 za1, .int .u64 za2, .int .u64 za3, .int .u64 za4] _ (at_mid B8_8.out 0 _ rfl) Tryd.underlying26 rfl (by kernel_rfl) ?_) | (refine wpList_load_mid rfl 26 _ rfl w4.heap.size 0 rfl [.int .u64 ye0, .int .u64 ye1, .int .u64 ye2, .int .u64 ye3, .int .u64 ye4] _ (at_mid B6_8.out 0 _ rfl) Tryd.underlying26 rfl (by kernel_rfl) ?_) | fail)
  refine (Q3.out _).mono ?_
  rintro e w9 ⟨rfl, g0⟩
  have g := g0
  clear g0
  have B2_9 := hid (B2_8.out.below g)
  have B6_9 := hid (B6_8.out.below g)
  have B8_9 := hid (B8_8.out.below g)
  have D_9 := hid (D_8.out.grown g)
  have Z_9 := hid (Z_8.out.grown g)
  have G_9 := hid (G_8.out.trans (g.mono G_8.out.size))
  clear g B2_8 B6_8 B8_8 D_8 Z_8 G_8
  go_wp2_with (first | (refine list_store_whole rfl 30 _ _ rfl w.heap.size [.int .u64 cx0, .int .u64 cx1, .int .u64 cx2, .int .u64 cx3, .int .u64 cx4, .int .u64 cy0, .int .u64 cy1, .int .u64 cy2, .int .u64 cy3, .int .u64 cy4, .int .u64 cz0, .int .u64 cz1, .int .u64 cz2, .int .u64 cz3, .int .u64 cz4, .int .u64 ct0, .int .u64 ct1, .int .u64 ct2, .int .u64 ct3, .int .u64 ct4] _ rfl rfl B2_9.out rfl (by kernel_rfl) (by kernel_rfl) w.heap.size w G_9.out (by omega) (fun F hC hB => ?_)) | fail)
  exact bodyPost_ret (v := .tuple #[.agg #[.int .u64 cx0, .int .u64 cx1, .int .u64 cx2, .int .u64 cx3, .int .u64 cx4, .int .u64 cy0, .int .u64 cy1, .int .u64 cy2, .int .u64 cy3, .int .u64 cy4, .int .u64 cz0, .int .u64 cz1, .int .u64 cz2, .int .u64 cz3, .int .u64 cz4, .int .u64 ct0, .int .u64 ct1, .int .u64 ct2, .int .u64 ct3, .int .u64 ct4], .bool true]) (results_cs (Tryd.results8) _ F w.heap.size 0 [.int .u64 cx0, .int .u64 cx1, .int .u64 cx2, .int .u64 cx3, .int .u64 cx4, .int .u64 cy0, .int .u64 cy1, .int .u64 cy2, .int .u64 cy3, .int .u64 cy4, .int .u64 cz0, .int .u64 cz1, .int .u64 cz2, .int .u64 cz3, .int .u64 cz4, .int .u64 ct0, .int .u64 ct1, .int .u64 ct2, .int .u64 ct3, .int .u64 ct4] _ _ rfl rfl hC.range Tryd.underlying30 rfl (by kernel_rfl)) rfl ⟨rfl, hB⟩
set_option maxRecDepth 100000 in
set_option maxHeartbeats 8000000 in
theorem ofP_big_neg_w (ye : L5) (N y b o c : Nat) (hN : N < 2 ^ 256) (hy : Hid (y = N % 2 ^ 255)) (hs : bits .and .u8 (byteAt N 31) 128 = 128) (w : World) (hb : b < w.heap.size)
    (HC : Hid (∀ j, j < 32 → w.cell? ⟨b, o + j, none⟩ = some (.int .u8 (byteAt N j))))
    (KC : Hid (∀ W : World, Below w.heap.size w W → Calls Tryd.prog 33 #[.slice (some ⟨b, o, none⟩) 32 c] W fun e w' => ∃ v', e = .returned v' ∧ Own8 W.heap.size w' v' (leB N 32) ∧ Below W.heap.size W w'))
    (KO : Hid (∀ (w : World) (g c : Nat), g < w.heap.size → (∀ j, j < 32 → w.cell? ⟨g, 0 + j, none⟩ = some (.int .u8 (byteAt y j))) → Calls Tryd.prog 34 #[.slice (some ⟨g, 0, none⟩) 32 c] w fun e w' => e = .returned (.tuple #[.agg #[.int .u64 ye.l0, .int .u64 ye.l1, .int .u64 ye.l2, .int .u64 ye.l3, .int .u64 ye.l4], .bool false]) ∧ Below w.heap.size w w'))
    (D_0 : Hid (Gd w)) (Z_0 : Hid (Gl w)) :
    Calls Tryd.prog 8 #[.slice (some ⟨b, o, none⟩) 32 c] w fun e w' => e = .returned (.tuple #[.agg #[.int .u64 0, .int .u64 0, .int .u64 0, .int .u64 0, .int .u64 0, .int .u64 0, .int .u64 0, .int .u64 0, .int .u64 0, .int .u64 0, .int .u64 0, .int .u64 0, .int .u64 0, .int .u64 0, .int .u64 0, .int .u64 0, .int .u64 0, .int .u64 0, .int .u64 0, .int .u64 0], .bool false]) ∧ Below w.heap.size w w' := by
  obtain ⟨ye0, ye1, ye2, ye3, ye4⟩ := ye
  dsimp only at  KO ⊢
  go_enter Tryd.func8, Tryd.ntmps8
  go_upto_region 1 with fail
  have HD := D_0.out.lt
  have HZ := Z_0.out.lt
  refine wp_cut (fun V => At 30 V w.heap.size [.int .u64 0, .int .u64 0, .int .u64 0, .int .u64 0, .int .u64 0, .int .u64 0, .int .u64 0, .int .u64 0, .int .u64 0, .int .u64 0, .int .u64 0, .int .u64 0, .int .u64 0, .int .u64 0, .int .u64 0, .int .u64 0, .int .u64 0, .int .u64 0, .int .u64 0, .int .u64 0] ∧ Gd V ∧ Gl V ∧ Below w.heap.size w V) ⟨?_, ?_, ?_, ?_⟩ ?_
  · (repeat (first | refine At.drew ?_ | refine At.drewN ?_ _ | (refine at_new2 _ _ _ _ ?_; simp; done) | refine at_alloc ?_ _))
  · refine D_0.out.grown ?_
    (repeat (first | exact Below.refl _ _ | refine Below.drew ?_ | refine below_drewN ?_ _ | refine Below.alloc ?_ (by simp <;> omega) _))
  · refine Z_0.out.grown ?_
    (repeat (first | exact Below.refl _ _ | refine Below.drew ?_ | refine below_drewN ?_ _ | refine Below.alloc ?_ (by simp <;> omega) _))
  · (repeat (first | exact Below.refl _ _ | refine Below.drew ?_ | refine below_drewN ?_ _ | refine Below.alloc ?_ (by simp <;> omega) _))
  rintro w1 ⟨k0, k1, k2, k3⟩
  have B2_1 := hid k0
  have D_1 := hid k1
  have Z_1 := hid k2
  have G_1 := hid k3
  clear k0 k1 k2 k3 D_0 Z_0
  have c31 : w1.cell? ⟨b, o + 31, none⟩ = some (.int .u8 (byteAt N 31)) := (G_1.out.cell (p := ⟨b, o + 31, none⟩) hb).trans (HC.out 31 (by omega))
  go_wp2_with fail
  clear c31
  refine (KC.out w1 G_1.out).mono ?_
  rintro e w2 ⟨v2, rfl, ho, g⟩
  obtain ⟨gb, gc, L, rfl, hgb, hA, hL⟩ := own8_row ho
  obtain ⟨hAN, hcells⟩ := row_low hA hL hN hy.out
  clear hy
  have r31 : w2.cell? ⟨gb, 31, none⟩ = some (.int .u8 (byteAt N 31)) := by rw [hA.cell]; exact hL 31 (by omega)
  have f31 : w2.frozen? ⟨gb, 31, none⟩ = false := hA.free 31
  have nlB2 : w.heap.size < gb := Nat.lt_of_lt_of_le B2_1.out.lt hgb
  have hgw : w.heap.size ≤ gb := Nat.le_trans G_1.out.size hgb
  have B2_2 := hid (B2_1.out.below g)
  have D_2 := hid (D_1.out.grown g)
  have Z_2 := hid (Z_1.out.grown g)
  have G_2 := hid (G_1.out.trans (g.mono G_1.out.size))
  clear g ho hgb B2_1 D_1 Z_1 G_1
  go_wp2_with fail
  clear r31 f31 hAN
  have hO : Oth gb w2 (w2.setCell ⟨gb, 31, none⟩ (.int .u8 (byteAt y 31))) := (Oth.refl gb w2).set 31 _
  refine calls_at (fun V => (∀ j, j < 32 → V.cell? ⟨gb, 0 + j, none⟩ = some (.int .u8 (byteAt y j))) ∧ gb < V.heap.size ∧ At 30 V w.heap.size [.int .u64 0, .int .u64 0, .int .u64 0, .int .u64 0, .int .u64 0, .int .u64 0, .int .u64 0, .int .u64 0, .int .u64 0, .int .u64 0, .int .u64 0, .int .u64 0, .int .u64 0, .int .u64 0, .int .u64 0, .int .u64 0, .int .u64 0, .int .u64 0, .int .u64 0, .int .u64 0] ∧ Gd V ∧ Gl V ∧ Below w.heap.size w V) ⟨hcells, by simpa using hA.lt, hO.at B2_2.out (by omega), D_2.out.below (below_oth hO hgw G_2.out.size) HD, Z_2.out.below (below_oth hO hgw G_2.out.size) HZ, Oth.bel G_2.out hO hgw⟩ ?_
  clear hO hcells hA hL
  rintro w3 ⟨hcells, hlt, k0, k1, k2, k3⟩
  have B2_3 := hid k0
  have D_3 := hid k1
  have Z_3 := hid k2
  have G_3 := hid k3
  clear k0 k1 k2 k3 B2_2 D_2 Z_2 G_2
  refine (KO.out w3 gb gc hlt hcells).mono ?_
  rintro e w4 ⟨rfl, g⟩
  clear hlt hcells
  have B2_4 := hid (B2_3.out.below g)
  have D_4 := hid (D_3.out.grown g)
  have Z_4 := hid (Z_3.out.grown g)
  have G_4 := hid (G_3.out.trans (g.mono G_3.out.size))
  clear g B2_3 D_3 Z_3 G_3
  go_wp2_with (refine list_store_whole rfl 30 _ _ rfl w.heap.size [.int .u64 0, .int .u64 0, .int .u64 0, .int .u64 0, .int .u64 0, .int .u64 0, .int .u64 0, .int .u64 0, .int .u64 0, .int .u64 0, .int .u64 0, .int .u64 0, .int .u64 0, .int .u64 0, .int .u64 0, .int .u64 0, .int .u64 0, .int .u64 0, .int .u64 0, .int .u64 0] _ rfl rfl (at_alloc B2_4.out _) rfl (by kernel_rfl) (by kernel_rfl) w.heap.size w (G_4.out.alloc (by have := G_4.out.size; simp <;> omega) _) (by omega) (fun F hC hB => ?_))
  exact bodyPost_ret (v := .tuple #[.agg #[.int .u64 0, .int .u64 0, .int .u64 0, .int .u64 0, .int .u64 0, .int .u64 0, .int .u64 0, .int .u64 0, .int .u64 0, .int .u64 0, .int .u64 0, .int .u64 0, .int .u64 0, .int .u64 0, .int .u64 0, .int .u64 0, .int .u64 0, .int .u64 0, .int .u64 0, .int .u64 0], .bool false]) (results_cs (Tryd.results8) _ F w.heap.size 0 [.int .u64 0, .int .u64 0, .int .u64 0, .int .u64 0, .int .u64 0, .int .u64 0, .int .u64 0, .int .u64 0, .int .u64 0, .int .u64 0, .int .u64 0, .int .u64 0, .int .u64 0, .int .u64 0, .int .u64 0, .int .u64 0, .int .u64 0, .int .u64 0, .int .u64 0, .int .u64 0] _ _ rfl rfl hC.range Tryd.underlying30 rfl (by kernel_rfl)) rfl ⟨rfl, hB⟩
set_option maxRecDepth 100000 in
set_option maxHeartbeats 8000000 in
theorem ofP_notok_neg_w (ye za : L5) (N y b o c : Nat) (hN : N < 2 ^ 256) (hy : Hid (y = N % 2 ^ 255)) (hs : bits .and .u8 (byteAt N 31) 128 = 128) (w : World) (hb : b < w.heap.size)
    (HC : Hid (∀ j, j < 32 → w.cell? ⟨b, o + j, none⟩ = some (.int .u8 (byteAt N j))))
    (KC : Hid (∀ W : World, Below w.heap.size w W → Calls Tryd.prog 33 #[.slice (some ⟨b, o, none⟩) 32 c] W fun e w' => ∃ v', e = .returned v' ∧ Own8 W.heap.size w' v' (leB N 32) ∧ Below W.heap.size W w'))
    (KO : Hid (∀ (w : World) (g c : Nat), g < w.heap.size → (∀ j, j < 32 → w.cell? ⟨g, 0 + j, none⟩ = some (.int .u8 (byteAt y j))) → Calls Tryd.prog 34 #[.slice (some ⟨g, 0, none⟩) 32 c] w fun e w' => e = .returned (.tuple #[.agg #[.int .u64 ye.l0, .int .u64 ye.l1, .int .u64 ye.l2, .int .u64 ye.l3, .int .u64 ye.l4], .bool true]) ∧ Below w.heap.size w w'))
    (Q1 : Hid (∀ w : World, Gd w → Gl w → Calls Tryd.prog 35 #[.agg #[.int .u64 ye.l0, .int .u64 ye.l1, .int .u64 ye.l2, .int .u64 ye.l3, .int .u64 ye.l4]] w fun e w' => e = .returned (.tuple #[.agg #[.int .u64 za.l0, .int .u64 za.l1, .int .u64 za.l2, .int .u64 za.l3, .int .u64 za.l4], .bool false]) ∧ Below w.heap.size w w'))
    (D_0 : Hid (Gd w)) (Z_0 : Hid (Gl w)) :
    Calls Tryd.prog 8 #[.slice (some ⟨b, o, none⟩) 32 c] w fun e w' => e = .returned (.tuple #[.agg #[.int .u64 0, .int .u64 0, .int .u64 0, .int .u64 0, .int .u64 0, .int .u64 0, .int .u64 0, .int .u64 0, .int .u64 0, .int .u64 0, .int .u64 0, .int .u64 0, .int .u64 0, .int .u64 0, .int .u64 0, .int .u64 0, .int .u64 0, .int .u64 0, .int .u64 0, .int .u64 0], .bool false]) ∧ Below w.heap.size w w' := by
  obtain ⟨ye0, ye1, ye2, ye3, ye4⟩ := ye
  obtain ⟨za0, za1, za2, za3, za4⟩ := za
  dsimp only at Q1 KO ⊢
  go_enter Tryd.func8, Tryd.ntmps8
  go_upto_region 1 with fail
  have HD := D_0.out.lt
  have HZ := Z_0.out.lt
  refine wp_cut (fun V => At 30 V w.heap.size [.int .u64 0, .int .u64 0, .int .u64 0, .int .u64 0, .int .u64 0, .int .u64 0, .int .u64 0, .int .u64 0, .int .u64 0, .int .u64 0, .int .u64 0, .int .u64 0, .int .u64 0, .int .u64 0, .int .u64 0, .int .u64 0, .int .u64 0, .int .u64 0, .int .u64 0, .int .u64 0] ∧ Gd V ∧ Gl V ∧ Below w.heap.size w V) ⟨?_, ?_, ?_, ?_⟩ ?_
  · (repeat (first | refine At.drew ?_ | refine At.drewN ?_ _ | (refine at_new2 _ _ _ _ ?_; simp; done) | refine at_alloc ?_ _))
  · refine D_0.out.grown ?_
    (repeat (first | exact Below.refl _ _ | refine Below.drew ?_ | refine below_drewN ?_ _ | refine Below.alloc ?_ (by simp <;> omega) _))
  · refine Z_0.out.grown ?_
    (repeat (first | exact Below.refl _ _ | refine Below.drew ?_ | refine below_drewN ?_ _ | refine Below.alloc ?_ (by simp <;> omega) _))
  · (repeat (first | exact Below.refl _ _ | refine Below.drew ?_ | refine below_drewN ?_ _ | refine Below.alloc ?_ (by simp <;> omega) _))
  rintro w1 ⟨k0, k1, k2, k3⟩
  have B2_1 := hid k0
  have D_1 := hid k1
  have Z_1 := hid k2
  have G_1 := hid k3
  clear k0 k1 k2 k3 D_0 Z_0
  have c31 : w1.cell? ⟨b, o + 31, none⟩ = some (.int .u8 (byteAt N 31)) := (G_1.out.cell (p := ⟨b, o + 31, none⟩) hb).trans (HC.out 31 (by omega))
  go_wp2_with fail
  clear c31
  refine (KC.out w1 G_1.out).mono ?_
  rintro e w2 ⟨v2, rfl, ho, g⟩
  obtain ⟨gb, gc, L, rfl, hgb, hA, hL⟩ := own8_row ho
  obtain ⟨hAN, hcells⟩ := row_low hA hL hN hy.out
  clear hy
  have r31 : w2.cell? ⟨gb, 31, none⟩ = some (.int .u8 (byteAt N 31)) := by rw [hA.cell]; exact hL 31 (by omega)
  have f31 : w2.frozen? ⟨gb, 31, none⟩ = false := hA.free 31
  have nlB2 : w.heap.size < gb := Nat.lt_of_lt_of_le B2_1.out.lt hgb
  have hgw : w.heap.size ≤ gb := Nat.le_trans G_1.out.size hgb
  have B2_2 := hid (B2_1.out.below g)
  have D_2 := hid (D_1.out.grown g)
  have Z_2 := hid (Z_1.out.grown g)
  have G_2 := hid (G_1.out.trans (g.mono G_1.out.size))
  clear g ho hgb B2_1 D_1 Z_1 G_1
  go_wp2_with fail
  clear r31 f31 hAN
  have hO : Oth gb w2 (w2.setCell ⟨gb, 31, none⟩ (.int .u8 (byteAt y 31))) := (Oth.refl gb w2).set 31 _
  refine calls_at (fun V => (∀ j, j < 32 → V.cell? ⟨gb, 0 + j, none⟩ = some (.int .u8 (byteAt y j))) ∧ gb < V.heap.size ∧ At 30 V w.heap.size [.int .u64 0, .int .u64 0, .int .u64 0, .int .u64 0, .int .u64 0, .int .u64 0, .int .u64 0, .int .u64 0, .int .u64 0, .int .u64 0, .int .u64 0, .int .u64 0, .int .u64 0, .int .u64 0, .int .u64 0, .int .u64 0, .int .u64 0, .int .u64 0, .int .u64 0, .int .u64 0] ∧ Gd V ∧ Gl V ∧ Below w.heap.size w V) ⟨hcells, by simpa using hA.lt, hO.at B2_2.out (by omega), D_2.out.below (below_oth hO hgw G_2.out.size) HD, Z_2.out.below (below_oth hO hgw G_2.out.size) HZ, Oth.bel G_2.out hO hgw⟩ ?_
  clear hO hcells hA hL
  rintro w3 ⟨hcells, hlt, k0, k1, k2, k3⟩
  have B2_3 := hid k0
  have D_3 := hid k1
  have Z_3 := hid k2
  have G_3 := hid k3
  clear k0 k1 k2 k3 B2_2 D_2 Z_2 G_2
  refine (KO.out w3 gb gc hlt hcells).mono ?_
  rintro e w4 ⟨rfl, g⟩
  clear hlt hcells
  have B2_4 := hid (B2_3.out.below g)
  have D_4 := hid (D_3.out.grown g)
  have Z_4 := hid (Z_3.out.grown g)
  have G_4 := hid (G_3.out.trans (g.mono G_3.out.size))
  clear g B2_3 D_3 Z_3 G_3
  go_wp2_with fail
  refine calls_at (fun V => At 30 V w.heap.size [.int .u64 0, .int .u64 0, .int .u64 0, .int .u64 0, .int .u64 0, .int .u64 0, .int .u64 0, .int .u64 0, .int .u64 0, .int .u64 0, .int .u64 0, .int .u64 0, .int .u64 0, .int .u64 0, .int .u64 0, .int .u64 0, .int .u64 0, .int .u64 0, .int .u64 0, .int .u64 0] ∧ Gd V ∧ Gl V ∧ At 26 V w4.heap.size [.int .u64 ye0, .int .u64 ye1, .int .u64 ye2, .int .u64 ye3, .int .u64 ye4] ∧ Below w.heap.size w V) ⟨(at_alloc B2_4.out _), (D_4.out.grown ((Below.refl _ _).alloc (Nat.le_refl _) _)), (Z_4.out.grown ((Below.refl _ _).alloc (Nat.le_refl _) _)), (at_new2 _ _ _ _ (by simp)), (G_4.out.alloc (by have := G_4.out.size; simp <;> omega) _)⟩ ?_
  have szB6 : w.heap.size ≤ w4.heap.size := by have := G_4.out.size; omega
  have nlB2B6 : w.heap.size < w4.heap.size := by have := B2_4.out.lt; omega
  rintro w5 ⟨k0, k1, k2, k3, k4⟩
  have B2_5 := hid k0
  have D_5 := hid k1
  have Z_5 := hid k2
  have B6_5 := hid k3
  have G_5 := hid k4
  clear k0 k1 k2 k3 k4 B2_4 D_4 Z_4 G_4
  refine (Q1.out _ D_5.out Z_5.out).mono ?_
  rintro e w6 ⟨rfl, g0⟩
  have g := g0
  clear g0
  have B2_6 := hid (B2_5.out.below g)
  have B6_6 := hid (B6_5.out.below g)
  have D_6 := hid (D_5.out.grown g)
  have Z_6 := hid (Z_5.out.grown g)
  have G_6 := hid (G_5.out.trans (g.mono G_5.out.size))
  clear g B2_5 B6_5 D_5 Z_5 G_5
  go_wp2_with (refine list_store_whole rfl 30 _ _ rfl w.heap.size [.int .u64 0, .int .u64 0, .int .u64 0, .int .u64 0, .int .u64 0, .int .u64 0, .int .u64 0, .int .u64 0, .int .u64 0, .int .u64 0, .int .u64 0, .int .u64 0, .int .u64 0, .int .u64 0, .int .u64 0, .int .u64 0, .int .u64 0, .int .u64 0, .int .u64 0, .int .u64 0] _ rfl rfl (at_alloc B2_6.out _) rfl (by kernel_rfl) (by kernel_rfl) w.heap.size w (G_6.out.alloc (by have := G_6.out.size; simp <;> omega) _) (by omega) (fun F hC hB => ?_))
  exact bodyPost_ret (v := .tuple #[.agg #[.int .u64 0, .int .u64 0, .int .u64 0, .int .u64 0, .int .u64 0, .int .u64 0, .int .u64 0, .int .u64 0, .int .u64 0, .int .u64 0, .int .u64 0, .int .u64 0, .int .u64 0, .int .u64 0, .int .u64 0, .int .u64 0, .int .u64 0, .int .u64 0, .int .u64 0, .int .u64 0], .bool false]) (results_cs (Tryd.results8) _ F w.heap.size 0 [.int .u64 0, .int .u64 0, .int .u64 0, .int .u64 0, .int .u64 0, .int .u64 0, .int .u64 0, .int .u64 0, .int .u64 0, .int .u64 0, .int .u64 0, .int .u64 0, .int .u64 0, .int .u64 0, .int .u64 0, .int .u64 0, .int .u64 0, .int .u64 0, .int .u64 0, .int .u64 0] _ _ rfl rfl hC.range Tryd.underlying30 rfl (by kernel_rfl)) rfl ⟨rfl, hB⟩
set_option maxRecDepth 100000 in
set_option maxHeartbeats 8000000 in
theorem ofP_yes_neg_w (ye za xn cx cy cz ct : L5) (N y b o c : Nat) (hN : N < 2 ^ 256) (hy : Hid (y = N % 2 ^ 255)) (hs : bits .and .u8 (byteAt N 31) 128 = 128) (w : World) (hb : b < w.heap.size)
    (HC : Hid (∀ j, j < 32 → w.cell? ⟨b, o + j, none⟩ = some (.int .u8 (byteAt N j))))
    (KC : Hid (∀ W : World, Below w.heap.size w W → Calls Tryd.prog 33 #[.slice (some ⟨b, o, none⟩) 32 c] W fun e w' => ∃ v', e = .returned v' ∧ Own8 W.heap.size w' v' (leB N 32) ∧ Below W.heap.size W w'))
    (KO : Hid (∀ (w : World) (g c : Nat), g < w.heap.size → (∀ j, j < 32 → w.cell? ⟨g, 0 + j, none⟩ = some (.int .u8 (byteAt y j))) → Calls Tryd.prog 34 #[.slice (some ⟨g, 0, none⟩) 32 c] w fun e w' => e = .returned (.tuple #[.agg #[.int .u64 ye.l0, .int .u64 ye.l1, .int .u64 ye.l2, .int .u64 ye.l3, .int .u64 ye.l4], .bool true]) ∧ Below w.heap.size w w'))
    (Q1 : Hid (∀ w : World, Gd w → Gl w → Calls Tryd.prog 35 #[.agg #[.int .u64 ye.l0, .int .u64 ye.l1, .int .u64 ye.l2, .int .u64 ye.l3, .int .u64 ye.l4]] w fun e w' => e = .returned (.tuple #[.agg #[.int .u64 za.l0, .int .u64 za.l1, .int .u64 za.l2, .int .u64 za.l3, .int .u64 za.l4], .bool true]) ∧ Below w.heap.size w w'))
    (Q2 : Hid (∀ w : World, Gl w → Calls Tryd.prog 36 #[.agg #[.int .u64 za.l0, .int .u64 za.l1, .int .u64 za.l2, .int .u64 za.l3, .int .u64 za.l4]] w fun e w' => e = .returned (.agg #[.int .u64 xn.l0, .int .u64 xn.l1, .int .u64 xn.l2, .int .u64 xn.l3, .int .u64 xn.l4]) ∧ Below w.heap.size w w'))
    (Q3 : Hid (∀ w : World, Calls Tryd.prog 37 #[.agg #[.int .u64 xn.l0, .int .u64 xn.l1, .int .u64 xn.l2, .int .u64 xn.l3, .int .u64 xn.l4]] w fun e w' => e = .returned (.bool true) ∧ Below w.heap.size w w'))
    (Q4 : Hid (∀ w : World, Calls Tryd.prog 38 #[.agg #[.int .u64 xn.l0, .int .u64 xn.l1, .int .u64 xn.l2, .int .u64 xn.l3, .int .u64 xn.l4], .agg #[.int .u64 ye.l0, .int .u64 ye.l1, .int .u64 ye.l2, .int .u64 ye.l3, .int .u64 ye.l4]] w fun e w' => e = .returned (.agg #[.int .u64 cx.l0, .int .u64 cx.l1, .int .u64 cx.l2, .int .u64 cx.l3, .int .u64 cx.l4, .int .u64 cy.l0, .int .u64 cy.l1, .int .u64 cy.l2, .int .u64 cy.l3, .int .u64 cy.l4, .int .u64 cz.l0, .int .u64 cz.l1, .int .u64 cz.l2, .int .u64 cz.l3, .int .u64 cz.l4, .int .u64 ct.l0, .int .u64 ct.l1, .int .u64 ct.l2, .int .u64 ct.l3, .int .u64 ct.l4]) ∧ Below w.heap.size w w'))
    (D_0 : Hid (Gd w)) (Z_0 : Hid (Gl w)) :
    Calls Tryd.prog 8 #[.slice (some ⟨b, o, none⟩) 32 c] w fun e w' => e = .returned (.tuple #[.agg #[.int .u64 cx.l0, .int .u64 cx.l1, .int .u64 cx.l2, .int .u64 cx.l3, .int .u64 cx.l4, .int .u64 cy.l0, .int .u64 cy.l1, .int .u64 cy.l2, .int .u64 cy.l3, .int .u64 cy.l4, .int .u64 cz.l0, .int .u64 cz.l1, .int .u64 cz.l2, .int .u64 cz.l3, .int .u64 cz.l4, .int .u64 ct.l0, .int .u64 ct.l1, .int .u64 ct.l2, .int .u64 ct.l3, .int .u64 ct.l4], .bool true]) ∧ Below w.heap.size w w' := by
  obtain ⟨ye0, ye1, ye2, ye3, ye4⟩ := ye
  obtain ⟨za0, za1, za2, za3, za4⟩ := za
  obtain ⟨xn0, xn1, xn2, xn3, xn4⟩ := xn
  obtain ⟨cx0, cx1, cx2, cx3, cx4⟩ := cx
  obtain ⟨cy0, cy1, cy2, cy3, cy4⟩ := cy
  obtain ⟨cz0, cz1, cz2, cz3, cz4⟩ := cz
  obtain ⟨ct0, ct1, ct2, ct3, ct4⟩ := ct
  dsimp only at Q1 Q2 Q3 Q4 KO ⊢
  go_enter Tryd.func8, Tryd.ntmps8
  go_upto_region 1 with fail
  have HD := D_0.out.lt
  have HZ := Z_0.out.lt
  refine wp_cut (fun V => At 30 V w.heap.size [.int .u64 0, .int .u64 0, .int .u64 0, .int .u64 0, .int .u64 0, .int .u64 0, .int .u64 0, .int .u64 0, .int .u64 0, .int .u64 0, .int .u64 0, .int .u64 0, .int .u64 0, .int .u64 0, .int .u64 0, .int .u64 0, .int .u64 0, .int .u64 0, .int .u64 0, .int .u64 0] ∧ Gd V ∧ Gl V ∧ Below w.heap.size w V) ⟨?_, ?_, ?_, ?_⟩ ?_
  · (repeat (first | refine At.drew ?_ | refine At.drewN ?_ _ | (refine at_new2 _ _ _ _ ?_; simp; done) | refine at_alloc ?_ _))
  · refine D_0.out.grown ?_
    (repeat (first | exact Below.refl _ _ | refine Below.drew ?_ | refine below_drewN ?_ _ | refine Below.alloc ?_ (by simp <;> omega) _))
  · refine Z_0.out.grown ?_
    (repeat (first | exact Below.refl _ _ | refine Below.drew ?_ | refine below_drewN ?_ _ | refine Below.alloc ?_ (by simp <;> omega) _))
  · (repeat (first | exact Below.refl _ _ | refine Below.drew ?_ | refine below_drewN ?_ _ | refine Below.alloc ?_ (by simp <;> omega) _))
  rintro w1 ⟨k0, k1, k2, k3⟩
  have B2_1 := hid k0
  have D_1 := hid k1
  have Z_1 := hid k2
  have G_1 := hid k3
  clear k0 k1 k2 k3 D_0 Z_0
  have c31 : w1.cell? ⟨b, o + 31, none⟩ = some (.int .u8 (byteAt N 31)) := (G_1.out.cell (p := ⟨b, o + 31, none⟩) hb).trans (HC.out 31 (by omega))
  go_wp2_with fail
  clear c31
  refine (KC.out w1 G_1.out).mono ?_
  rintro e w2 ⟨v2, rfl, ho, g⟩
  obtain ⟨gb, gc, L, rfl, hgb, hA, hL⟩ := own8_row ho
  obtain ⟨hAN, hcells⟩ := row_low hA hL hN hy.out
  clear hy
  have r31 : w2.cell? ⟨gb, 31, none⟩ = some (.int .u8 (byteAt N 31)) := by rw [hA.cell]; exact hL 31 (by omega)
  have f31 : w2.frozen? ⟨gb, 31, none⟩ = false := hA.free 31
  have nlB2 : w.heap.size < gb := Nat.lt_of_lt_of_le B2_1.out.lt hgb
  have hgw : w.heap.size ≤ gb := Nat.le_trans G_1.out.size hgb
  have B2_2 := hid (B2_1.out.below g)
  have D_2 := hid (D_1.out.grown g)
  have Z_2 := hid (Z_1.out.grown g)
  have G_2 := hid (G_1.out.trans (g.mono G_1.out.size))
  clear g ho hgb B2_1 D_1 Z_1 G_1
  go_wp2_with fail
  clear r31 f31 hAN
  have hO : Oth gb w2 (w2.setCell ⟨gb, 31, none⟩ (.int .u8 (byteAt y 31))) := (Oth.refl gb w2).set 31 _
  refine calls_at (fun V => (∀ j, j < 32 → V.cell? ⟨gb, 0 + j, none⟩ = some (.int .u8 (byteAt y j))) ∧ gb < V.heap.size ∧ At 30 V w.heap.size [.int .u64 0, .int .u64 0, .int .u64 0, .int .u64 0, .int .u64 0, .int .u64 0, .int .u64 0, .int .u64 0, .int .u64 0, .int .u64 0, .int .u64 0, .int .u64 0, .int .u64 0, .int .u64 0, .int .u64 0, .int .u64 0, .int .u64 0, .int .u64 0, .int .u64 0, .int .u64 0] ∧ Gd V ∧ Gl V ∧ Below w.heap.size w V) ⟨hcells, by simpa using hA.lt, hO.at B2_2.out (by omega), D_2.out.below (below_oth hO hgw G_2.out.size) HD, Z_2.out.below (below_oth hO hgw G_2.out.size) HZ, Oth.bel G_2.out hO hgw⟩ ?_
  clear hO hcells hA hL
  rintro w3 ⟨hcells, hlt, k0, k1, k2, k3⟩
  have B2_3 := hid k0
  have D_3 := hid k1
  have Z_3 := hid k2
  have G_3 := hid k3
  clear k0 k1 k2 k3 B2_2 D_2 Z_2 G_2
  refine (KO.out w3 gb gc hlt hcells).mono ?_
  rintro e w4 ⟨rfl, g⟩
  clear hlt hcells
  have B2_4 := hid (B2_3.out.below g)
  have D_4 := hid (D_3.out.grown g)
  have Z_4 := hid (Z_3.out.grown g)
  have G_4 := hid (G_3.out.trans (g.mono G_3.out.size))
  clear g B2_3 D_3 Z_3 G_3
  go_wp2_with fail
  refine calls_at (fun V => At 30 V w.heap.size [.int .u64 0, .int .u64 0, .int .u64 0, .int .u64 0, .int .u64 0, .int .u64 0, .int .u64 0, .int .u64 0, .int .u64 0, .int .u64 0, .int .u64 0, .int .u64 0, .int .u64 0, .int .u64 0, .int .u64 0, .int .u64 0, .int .u64 0, .int .u64 0, .int .u64 0, .int .u64 0] ∧ Gd V ∧ Gl V ∧ At 26 V w4.heap.size [.int .u64 ye0, .int .u64 ye1, .int .u64 ye2, .int .u64 ye3, .int .u64 ye4] ∧ Below w.heap.size w V) ⟨(at_alloc B2_4.out _), (D_4.out.grown ((Below.refl _ _).alloc (Nat.le_refl _) _)), (Z_4.out.grown ((Below.refl _ _).alloc (Nat.le_refl _) _)), (at_new2 _ _ _ _ (by simp)), (G_4.out.alloc (by have := G_4.out.size; simp <;> omega) _)⟩ ?_
  have szB6 : w.heap.size ≤ w4.heap.size := by have := G_4.out.size; omega
  have nlB2B6 : w.heap.size < w4.heap.size := by have := B2_4.out.lt; omega
  rintro w5 ⟨k0, k1, k2, k3, k4⟩
  have B2_5 := hid k0
  have D_5 := hid k1
  have Z_5 := hid k2
  have B6_5 := hid k3
  have G_5 := hid k4
  clear k0 k1 k2 k3 k4 B2_4 D_4 Z_4 G_4
  refine (Q1.out _ D_5.out Z_5.out).mono ?_
  rintro e w6 ⟨rfl, g0⟩
  have g := g0
  clear g0
  have B2_6 := hid (B2_5.out.below g)
  have B6_6 := hid (B6_5.out.below g)
  have D_6 := hid (D_5.out.grown g)
  have Z_6 := hid (Z_5.out.grown g)
  have G_6 := hid (G_5.out.trans (g.mono G_5.out.size))
  clear g B2_5 B6_5 D_5 Z_5 G_5
  go_wp2_with fail
  refine calls_at (fun V => At 30 V w.heap.size [.int .u64 0, .int .u64 0, .int .u64 0, .int .u64 0, .int .u64 0, .int .u64 0, .int .u64 0, .int .u64 0, .int .u64 0, .int .u64 0, .int .u64 0, .int .u64 0, .int .u64 0, .int .u64 0, .int .u64 0, .int .u64 0, .int .u64 0, .int .u64 0, .int .u64 0, .int .u64 0] ∧ At 26 V w4.heap.size [.int .u64 ye0, .int .u64 ye1, .int .u64 ye2, .int .u64 ye3, .int .u64 ye4] ∧ Gd V ∧ Gl V ∧ At 26 V w6.heap.size [.int .u64 za0, .int .u64 za1, .int .u64 za2, .int .u64 za3, .int .u64 za4] ∧ Below w.heap.size w V) ⟨(at_alloc B2_6.out _), (at_alloc B6_6.out _), (D_6.out.grown ((Below.refl _ _).alloc (Nat.le_refl _) _)), (Z_6.out.grown ((Below.refl _ _).alloc (Nat.le_refl _) _)), (at_new2 _ _ _ _ (by simp)), (G_6.out.alloc (by have := G_6.out.size; simp <;> omega) _)⟩ ?_
  have szB8 : w.heap.size ≤ w6.heap.size := by have := G_6.out.size; omega
  have nlB2B8 : w.heap.size < w6.heap.size := by have := B2_6.out.lt; omega
  have nlB6B8 : w4.heap.size < w6.heap.size := by have := B6_6.out.lt; omega
  rintro w7 ⟨k0, k1, k2, k3, k4, k5⟩
  have B2_7 := hid k0
  have B6_7 := hid k1
  have D_7 := hid k2
  have Z_7 := hid k3
  have B8_7 := hid k4
  have G_7 := hid k5
  clear k0 k1 k2 k3 k4 k5 B2_6 B6_6 D_6 Z_6 G_6
  refine (Q2.out _ Z_7.out).mono ?_
  rintro e w8 ⟨rfl, g0⟩
  have g := g0
  clear g0
  have B2_8 := hid (B2_7.out.below g)
  have B6_8 := hid (B6_7.out.below g)
  have B8_8 := hid (B8_7.out.below g)
  have D_8 := hid (D_7.out.grown g)
  have Z_8 := hid (Z_7.out.grown g)
  have G_8 := hid (G_7.out.trans (g.mono G_7.out.size))
  clear g B2_7 B6_7 B8_7 D_7 Z_7 G_7
  have nbB2B8 : ¬ (w.heap.size = w6.heap.size) := by omega
  have nbB6B8 : ¬ (w4.heap.size = w6.heap.size) := by omega
  go_wp2_with (first | (refine list_store_oth rfl 26 _ _ rfl w6.heap.size [.int .u64 xn0, .int .u64 xn1, .int .u64 xn2, .int .u64 xn3, .int .u64 xn4] _ rfl rfl B8_8.out rfl (by kernel_rfl) (by kernel_rfl) (fun w9 hC hO => ?_); have cc0 := hC.cell 0; have cc1 := hC.cell 1; have cc2 := hC.cell 2; have cc3 := hC.cell 3; have cc4 := hC.cell 4; simp only [List.getElem?_cons_zero, List.getElem?_cons_succ] at cc0 cc1 cc2 cc3 cc4) | fail)
  clear cc0 cc1 cc2 cc3 cc4
  have B2_9 := hid (hO.at B2_8.out nbB2B8)
  have B6_9 := hid (hO.at B6_8.out nbB6B8)
  have B8_9 := hid hC
  have G_9 := hid (Oth.bel G_8.out hO (by omega))
  have D_9 := hid (D_8.out.below (below_oth hO (show w.heap.size ≤ w6.heap.size by omega) G_8.out.size) HD)
  have Z_9 := hid (Z_8.out.below (below_oth hO (show w.heap.size ≤ w6.heap.size by omega) G_8.out.size) HZ)
  clear B2_8 B6_8 B8_8 D_8 Z_8 G_8 hC hO
  refine (Q3.out _).mono ?_
  rintro e w10 ⟨rfl, g0⟩
  have g := g0
  clear g0
  have B2_10 := hid (B2_9.out.below g)
  have B6_10 := hid (B6_9.out.below g)
  have B8_10 := hid (B8_9.out.below g)
  have D_10 := hid (D_9.out.grown g)
  have Z_10 := hid (Z_9.out.grown g)
  have G_10 := hid (G_9.out.trans (g.mono G_9.out.size))
  clear g B2_9 B6_9 B8_9 D_9 Z_9 G_9
  go_wp2_with (first | (refine wpList_load_mid rfl 26 _ rfl w6.heap.size 0 rfl [.int .u64 xn0, .int .u64 xn1, .int .u64 xn2, .int .u64 xn3, .int .u64 xn4] _ (at_mid B8_10.out 0 _ rfl) Tryd.underlying26 rfl (by kernel_rfl) ?_) | (refine wpList_load_mid rfl 26 _ rfl w4.heap.size 0 rfl [.int .u64 ye0, .int .u64 ye1, .int .u64 ye2, .int .u64 ye3, .int .u64 ye4] _ (at_mid B6_10.out 0 _ rfl) Tryd.underlying26 rfl (by kernel_rfl) ?_) | fail)
  refine (Q4.out _).mono ?_
  rintro e w11 ⟨rfl, g0⟩
  have g := g0
  clear g0
  have B2_11 := hid (B2_10.out.below g)
  have B6_11 := hid (B6_10.out.below g)
  have B8_11 := hid (B8_10.out.below g)
  have D_11 := hid (D_10.out.grown g)
  have Z_11 := hid (Z_10.out.grown g)
  have G_11 := hid (G_10.out.trans (g.mono G_10.out.size))
  clear g B2_10 B6_10 B8_10 D_10 Z_10 G_10
  go_wp2_with (first | (refine list_store_whole rfl 30 _ _ rfl w.heap.size [.int .u64 cx0, .int .u64 cx1, .int .u64 cx2, .int .u64 cx3, .int .u64 cx4, .int .u64 cy0, .int .u64 cy1, .int .u64 cy2, .int .u64 cy3, .int .u64 cy4, .int .u64 cz0, .int .u64 cz1, .int .u64 cz2, .int .u64 cz3, .int .u64 cz4, .int .u64 ct0, .int .u64 ct1, .int .u64 ct2, .int .u64 ct3, .int .u64 ct4] _ rfl rfl B2_11.out rfl (by kernel_rfl) (by kernel_rfl) w.heap.size w G_11.out (by omega) (fun F hC hB => ?_)) | fail)
  exact bodyPost_ret (v := .tuple #[.agg #[.int .u64 cx0, .int .u64 cx1, .int .u64 cx2, .int .u64 cx3, .int .u64 cx4, .int .u64 cy0, .int .u64 cy1, .int .u64 cy2, .int .u64 cy3, .int .u64 cy4, .int .u64 cz0, .int .u64 cz1, .int .u64 cz2, .int .u64 cz3, .int .u64 cz4, .int .u64 ct0, .int .u64 ct1, .int .u64 ct2, .int .u64 ct3, .int .u64 ct4], .bool true]) (results_cs (Tryd.results8) _ F w.heap.size 0 [.int .u64 cx0, .int .u64 cx1, .int .u64 cx2, .int .u64 cx3, .int .u64 cx4, .int .u64 cy0, .int .u64 cy1, .int .u64 cy2, .int .u64 cy3, .int .u64 cy4, .int .u64 cz0, .int .u64 cz1, .int .u64 cz2, .int .u64 cz3, .int .u64 cz4, .int .u64 ct0, .int .u64 ct1, .int .u64 ct2, .int .u64 ct3, .int .u64 ct4] _ _ rfl rfl hC.range Tryd.underlying30 rfl (by kernel_rfl)) rfl ⟨rfl, hB⟩
set_option maxRecDepth 100000 in
set_option maxHeartbeats 8000000 in
theorem ofP_zero_neg_w (ye za xn : L5) (N y b o c : Nat) (hN : N < 2 ^ 256) (hy : Hid (y = N % 2 ^ 255)) (hs : bits .and .u8 (byteAt N 31) 128 = 128) (w : World) (hb : b < w.heap.size)
    (HC : Hid (∀ j, j < 32 → w.cell? ⟨b, o + j, none⟩ = some (.int .u8 (byteAt N j))))
    (KC : Hid (∀ W : World, Below w.heap.size w W → Calls Tryd.prog 33 #[.slice (some ⟨b, o, none⟩) 32 c] W fun e w' => ∃ v', e = .returned v' ∧ Own8 W.heap.size w' v' (leB N 32) ∧ Below W.heap.size W w'))
    (KO : Hid (∀ (w : World) (g c : Nat), g < w.heap.size → (∀ j, j < 32 → w.cell? ⟨g, 0 + j, none⟩ = some (.int .u8 (byteAt y j))) → Calls Tryd.prog 34 #[.slice (some ⟨g, 0, none⟩) 32 c] w fun e w' => e = .returned (.tuple #[.agg #[.int .u64 ye.l0, .int .u64 ye.l1, .int .u64 ye.l2, .int .u64 ye.l3, .int .u64 ye.l4], .bool true]) ∧ Below w.heap.size w w'))
    (Q1 : Hid (∀ w : World, Gd w → Gl w → Calls Tryd.prog 35 #[.agg #[.int .u64 ye.l0, .int .u64 ye.l1, .int .u64 ye.l2, .int .u64 ye.l3, .int .u64 ye.l4]] w fun e w' => e = .returned (.tuple #[.agg #[.int .u64 za.l0, .int .u64 za.l1, .int .u64 za.l2, .int .u64 za.l3, .int .u64 za.l4], .bool true]) ∧ Below w.heap.size w w'))
    (Q2 : Hid (∀ w : World, Gl w → Calls Tryd.prog 36 #[.agg #[.int .u64 za.l0, .int .u64 za.l1, .int .u64 za.l2, .int .u64 za.l3, .int .u64 za.l4]] w fun e w' => e = .returned (.agg #[.int .u64 xn.l0, .int .u64 xn.l1, .int .u64 xn.l2, .int .u64 xn.l3, .int .u64 xn.l4]) ∧ Below w.heap.size w w'))
    (Q3 : Hid (∀ w : World, Calls Tryd.prog 37 #[.agg #[.int .u64 xn.l0, .int .u64 xn.l1, .int .u64 xn.l2, .int .u64 xn.l3, .int .u64 xn.l4]] w fun e w' => e = .returned (.bool false) ∧ Below w.heap.size w w'))
    (D_0 : Hid (Gd w)) (Z_0 : Hid (Gl w)) :
    Calls Tryd.prog 8 #[.slice (some ⟨b, o, none⟩) 32 c] w fun e w' => e = .returned (.tuple #[.agg #[.int .u64 0, .int .u64 0, .int .u64 0, .int .u64 0, .int .u64 0, .int .u64 0, .int .u64 0, .int .u64 0, .int .u64 0, .int .u64 0, .int .u64 0, .int .u64 0, .int .u64 0, .int .u64 0, .int .u64 0, .int .u64 0, .int .u64 0, .int .u64 0, .int .u64 0, .int .u64 0], .bool false]) ∧ Below w.heap.size w w' := by
  obtain ⟨ye0, ye1, ye2, ye3, ye4⟩ := ye
  obtain ⟨za0, za1, za2, za3, za4⟩ := za
  obtain ⟨xn0, xn1, xn2, xn3, xn4⟩ := xn
  dsimp only at Q1 Q2 Q3 KO ⊢
  go_enter Tryd.func8, Tryd.ntmps8
  go_upto_region 1 with fail
  have HD := D_0.out.lt
  have HZ := Z_0.out.lt
  refine wp_cut (fun V => At 30 V w.heap.size [.int .u64 0, .int .u64 0, .int .u64 0, .int .u64 0, .int .u64 0, .int .u64 0, .int .u64 0, .int .u64 0, .int .u64 0, .int .u64 0, .int .u64 0, .int .u64 0, .int .u64 0, .int .u64 0, .int .u64 0, .int .u64 0, .int .u64 0, .int .u64 0, .int .u64 0, .int .u64 0] ∧ Gd V ∧ Gl V ∧ Below w.heap.size w V) ⟨?_, ?_, ?_, ?_⟩ ?_
  · (repeat (first | refine At.drew ?_ | refine At.drewN ?_ _ | (refine at_new2 _ _ _ _ ?_; simp; done) | refine at_alloc ?_ _))
  · refine D_0.out.grown ?_
    (repeat (first | exact Below.refl _ _ | refine Below.drew ?_ | refine below_drewN ?_ _ | refine Below.alloc ?_ (by simp <;> omega) _))
  · refine Z_0.out.grown ?_
    (repeat (first | exact Below.refl _ _ | refine Below.drew ?_ | refine below_drewN ?_ _ | refine Below.alloc ?_ (by simp <;> omega) _))
  · (repeat (first | exact Below.refl _ _ | refine Below.drew ?_ | refine below_drewN ?_ _ | refine Below.alloc ?_ (by simp <;> omega) _))
  rintro w1 ⟨k0, k1, k2, k3⟩
  have B2_1 := hid k0
  have D_1 := hid k1
  have Z_1 := hid k2
  have G_1 := hid k3
  clear k0 k1 k2 k3 D_0 Z_0
  have c31 : w1.cell? ⟨b, o + 31, none⟩ = some (.int .u8 (byteAt N 31)) := (G_1.out.cell (p := ⟨b, o + 31, none⟩) hb).trans (HC.out 31 (by omega))
  go_wp2_with fail
  clear c31
  refine (KC.out w1 G_1.out).mono ?_
  rintro e w2 ⟨v2, rfl, ho, g⟩
  obtain ⟨gb, gc, L, rfl, hgb, hA, hL⟩ := own8_row ho
  obtain ⟨hAN, hcells⟩ := row_low hA hL hN hy.out
  clear hy
  have r31 : w2.cell? ⟨gb, 31, none⟩ = some (.int .u8 (byteAt N 31)) := by rw [hA.cell]; exact hL 31 (by omega)
  have f31 : w2.frozen? ⟨gb, 31, none⟩ = false := hA.free 31
  have nlB2 : w.heap.size < gb := Nat.lt_of_lt_of_le B2_1.out.lt hgb
  have hgw : w.heap.size ≤ gb := Nat.le_trans G_1.out.size hgb
  have B2_2 := hid (B2_1.out.below g)
  have D_2 := hid (D_1.out.grown g)
  have Z_2 := hid (Z_1.out.grown g)
  have G_2 := hid (G_1.out.trans (g.mono G_1.out.size))
  clear g ho hgb B2_1 D_1 Z_1 G_1
  go_wp2_with fail
  clear r31 f31 hAN
  have hO : Oth gb w2 (w2.setCell ⟨gb, 31, none⟩ (.int .u8 (byteAt y 31))) := (Oth.refl gb w2).set 31 _
  refine calls_at (fun V => (∀ j, j < 32 → V.cell? ⟨gb, 0 + j, none⟩ = some (.int .u8 (byteAt y j))) ∧ gb < V.heap.size ∧ At 30 V w.heap.size [.int .u64 0, .int .u64 0, .int .u64 0, .int .u64 0, .int .u64 0, .int .u64 0, .int .u64 0, .int .u64 0, .int .u64 0, .int .u64 0, .int .u64 0, .int .u64 0, .int .u64 0, .int .u64 0, .int .u64 0, .int .u64 0, .int .u64 0, .int .u64 0, .int .u64 0, .int .u64 0] ∧ Gd V ∧ Gl V ∧ Below w.heap.size w V) ⟨hcells, by simpa using hA.lt, hO.at B2_2.out (by omega), D_2.out.below (below_oth hO hgw G_2.out.size) HD, Z_2.out.below (below_oth hO hgw G_2.out.size) HZ, Oth.bel G_2.out hO hgw⟩ ?_
  clear hO hcells hA hL
  rintro w3 ⟨hcells, hlt, k0, k1, k2, k3⟩
  have B2_3 := hid k0
  have D_3 := hid k1
  have Z_3 := hid k2
  have G_3 := hid k3
  clear k0 k1 k2 k3 B2_2 D_2 Z_2 G_2
  refine (KO.out w3 gb gc hlt hcells).mono ?_
  rintro e w4 ⟨rfl, g⟩
  clear hlt hcells
  have B2_4 := hid (B2_3.out.below g)
  have D_4 := hid (D_3.out.grown g)
  have Z_4 := hid (Z_3.out.grown g)
  have G_4 := hid (G_3.out.trans (g.mono G_3.out.size))
  clear g B2_3 D_3 Z_3 G_3
  go_wp2_with fail
  refine calls_at (fun V => At 30 V w.heap.size [.int .u64 0, .int .u64 0, .int .u64 0, .int .u64 0, .int .u64 0, .int .u64 0, .int .u64 0, .int .u64 0, .int .u64 0, .int .u64 0, .int .u64 0, .int .u64 0, .int .u64 0, .int .u64 0, .int .u64 0, .int .u64 0, .int .u64 0, .int .u64 0, .int .u64 0, .int .u64 0] ∧ Gd V ∧ Gl V ∧ At 26 V w4.heap.size [.int .u64 ye0, .int .u64 ye1, .int .u64 ye2, .int .u64 ye3, .int .u64 ye4] ∧ Below w.heap.size w V) ⟨(at_alloc B2_4.out _), (D_4.out.grown ((Below.refl _ _).alloc (Nat.le_refl _) _)), (Z_4.out.grown ((Below.refl _ _).alloc (Nat.le_refl _) _)), (at_new2 _ _ _ _ (by simp)), (G_4.out.alloc (by have := G_4.out.size; simp <;> omega) _)⟩ ?_
  have szB6 : w.heap.size ≤ w4.heap.size := by have := G_4.out.size; omega
  have nlB2B6 : w.heap.size < w4.heap.size := by have := B2_4.out.lt; omega
  rintro w5 ⟨k0, k1, k2, k3, k4⟩
  have B2_5 := hid k0
  have D_5 := hid k1
  have Z_5 := hid k2
  have B6_5 := hid k3
  have G_5 := hid k4
  clear k0 k1 k2 k3 k4 B2_4 D_4 Z_4 G_4
  refine (Q1.out _ D_5.out Z_5.out).mono ?_
  rintro e w6 ⟨rfl, g0⟩
  have g := g0
  clear g0
  have B2_6 := hid (B2_5.out.below g)
  have B6_6 := hid (B6_5.out.below g)
  have D_6 := hid (D_5.out.grown g)
  have Z_6 := hid (Z_5.out.grown g)
  have G_6 := hid (G_5.out.trans (g.mono G_5.out.size))
  clear g B2_5 B6_5 D_5 Z_5 G_5
  go_wp2_with fail
  refine calls_at (fun V => At 30 V w.heap.size [.int .u64 0, .int .u64 0, .int .u64 0, .int .u64 0, .int .u64 0, .int .u64 0, .int .u64 0, .int .u64 0, .int .u64 0, .int .u64 0, .int .u64 0, .int .u64 0, .int .u64 0, .int .u64 0, .int .u64 0, .int .u64 0, .int .u64 0, .int .u64 0, .int .u64 0, .int .u64 0] ∧ At 26 V w4.heap.size [.int .u64 ye0, .int .u64 ye1, .int .u64 ye2, .int .u64 ye3, .int .u64 ye4] ∧ Gd V ∧ Gl V ∧ At 26 V w6.heap.size [.int .u64 za0, .int .u64 za1, .int .u64 za2, .int .u64 za3, .int .u64 za4] ∧ Below w.heap.size w V) ⟨(at_alloc B2_6.out _), (at_alloc B6_6.out _), (D_6.out.grown ((Below.refl _ _).alloc (Nat.le_refl _) _)), (Z_6.out.grown ((Below.refl _ _).alloc (Nat.le_refl _) _)), (at_new2 _ _ _ _ (by simp)), (G_6.out.alloc (by have := G_6.out.size; simp <;> omega) _)⟩ ?_
  have szB8 : w.heap.size ≤ w6.heap.size := by have := G_6.out.size; omega
  have nlB2B8 : w.heap.size < w6.heap.size := by have := B2_6.out.lt; omega
  have nlB6B8 : w4.heap.size < w6.heap.size := by have := B6_6.out.lt; omega
  rintro w7 ⟨k0, k1, k2, k3, k4, k5⟩
  have B2_7 := hid k0
  have B6_7 := hid k1
  have D_7 := hid k2
  have Z_7 := hid k3
  have B8_7 := hid k4
  have G_7 := hid k5
  clear k0 k1 k2 k3 k4 k5 B2_6 B6_6 D_6 Z_6 G_6
  refine (Q2.out _ Z_7.out).mono ?_
  rintro e w8 ⟨rfl, g0⟩
  have g := g0
  clear g0
  have B2_8 := hid (B2_7.out.below g)
  have B6_8 := hid (B6_7.out.below g)
  have B8_8 := hid (B8_7.out.below g)
  have D_8 := hid (D_7.out.grown g)
  have Z_8 := hid (Z_7.out.grown g)
  have G_8 := hid (G_7.out.trans (g.mono G_7.out.size))
  clear g B2_7 B6_7 B8_7 D_7 Z_7 G_7
  have nbB2B8 : ¬ (w.heap.size = w6.heap.size) := by omega
  have nbB6B8 : ¬ (w4.heap.size = w6.heap.size) := by omega
  go_wp2_with (first | (refine list_store_oth rfl 26 _ _ rfl w6.heap.size [.int .u64 xn0, .int .u64 xn1, .int .u64 xn2, .int .u64 xn3, .int .u64 xn4] _ rfl rfl B8_8.out rfl (by kernel_rfl) (by kernel_rfl) (fun w9 hC hO => ?_); have cc0 := hC.cell 0; have cc1 := hC.cell 1; have cc2 := hC.cell 2; have cc3 := hC.cell 3; have cc4 := hC.cell 4; simp only [List.getElem?_cons_zero, List.getElem?_cons_succ] at cc0 cc1 cc2 cc3 cc4) | fail)
  clear cc0 cc1 cc2 cc3 cc4
  have B2_9 := hid (hO.at B2_8.out nbB2B8)
  have B6_9 := hid (hO.at B6_8.out nbB6B8)
  have B8_9 := hid hC
  have G_9 := hid (Oth.bel G_8.out hO (by omega))
  have D_9 := hid (D_8.out.below (below_oth hO (show w.heap.size ≤ w6.heap.size by omega) G_8.out.size) HD)
  have Z_9 := hid (Z_8.out.below (below_oth hO (show w.heap.size ≤ w6.heap.size by omega) G_8.out.size) HZ)
  clear B2_8 B6_8 B8_8 D_8 Z_8 G_8 hC hO
  refine (Q3.out _).mono ?_
  rintro e w10 ⟨rfl, g0⟩
  have g := g0
  clear g0
  have B2_10 := hid (B2_9.out.below g)
  have B6_10 := hid (B6_9.out.below g)
  have B8_10 := hid (B8_9.out.below g)
  have D_10 := hid (D_9.out.grown g)
  have Z_10 := hid (Z_9.out.grown g)
  have G_10 := hid (G_9.out.trans (g.mono G_9.out.size))
  clear g B2_9 B6_9 B8_9 D_9 Z_9 G_9
  go_wp2_with (refine list_store_whole rfl 30 _ _ rfl w.heap.size [.int .u64 0, .int .u64 0, .int .u64 0, .int .u64 0, .int .u64 0, .int .u64 0, .int .u64 0, .int .u64 0, .int .u64 0, .int .u64 0, .int .u64 0, .int .u64 0, .int .u64 0, .int .u64 0, .int .u64 0, .int .u64 0, .int .u64 0, .int .u64 0, .int .u64 0, .int .u64 0] _ rfl rfl B2_10.out rfl (by kernel_rfl) (by kernel_rfl) w.heap.size w G_10.out (by omega) (fun F hC hB => ?_))
  exact bodyPost_ret (v := .tuple #[.agg #[.int .u64 0, .int .u64 0, .int .u64 0, .int .u64 0, .int .u64 0, .int .u64 0, .int .u64 0, .int .u64 0, .int .u64 0, .int .u64 0, .int .u64 0, .int .u64 0, .int .u64 0, .int .u64 0, .int .u64 0, .int .u64 0, .int .u64 0, .int .u64 0, .int .u64 0, .int .u64 0], .bool false]) (results_cs (Tryd.results8) _ F w.heap.size 0 [.int .u64 0, .int .u64 0, .int .u64 0, .int .u64 0, .int .u64 0, .int .u64 0, .int .u64 0, .int .u64 0, .int .u64 0, .int .u64 0, .int .u64 0, .int .u64 0, .int .u64 0, .int .u64 0, .int .u64 0, .int .u64 0, .int .u64 0, .int .u64 0, .int .u64 0, .int .u64 0] _ _ rfl rfl hC.range Tryd.underlying30 rfl (by kernel_rfl)) rfl ⟨rfl, hB⟩
end Go.Proofs.YtkbiiolkekpkiaaDoor.Ed
