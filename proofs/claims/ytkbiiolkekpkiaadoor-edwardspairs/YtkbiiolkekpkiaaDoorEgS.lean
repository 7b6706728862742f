/-
  The program's From of layer 10: the walk, given what each call answers. Conditions: as each theorem says.
-/
import Derived.Test.YtkbiiolkekpkiaaDoorEgA
import Derived.Test.YtkbiiolkekpkiaaDoorEgK
import Derived.Test.YtkbiiolkekpkiaaDoorEgX
namespace Go.Proofs.YtkbiiolkekpkiaaDoor.Ed
open Go.RowKit
set_option linter.unusedVariables false
set_option linter.unusedSimpArgs false

set_option maxRecDepth 100000 in
set_option maxHeartbeats 8000000 in
theorem from_yes_w (xa ya sx sy ma dm rt df cx cy cz ct : L5)
    (Q1 : Hid (∀ w : World, Calls Tryd.prog 51 #[.agg #[.int .u64 xa.l0, .int .u64 xa.l1, .int .u64 xa.l2, .int .u64 xa.l3, .int .u64 xa.l4], .int .i64 1] w fun e w' => e = .returned (.agg #[.int .u64 sx.l0, .int .u64 sx.l1, .int .u64 sx.l2, .int .u64 sx.l3, .int .u64 sx.l4]) ∧ Below w.heap.size w w'))
    (Q2 : Hid (∀ w : World, Calls Tryd.prog 51 #[.agg #[.int .u64 ya.l0, .int .u64 ya.l1, .int .u64 ya.l2, .int .u64 ya.l3, .int .u64 ya.l4], .int .i64 1] w fun e w' => e = .returned (.agg #[.int .u64 sy.l0, .int .u64 sy.l1, .int .u64 sy.l2, .int .u64 sy.l3, .int .u64 sy.l4]) ∧ Below w.heap.size w w'))
    (Q3 : Hid (∀ w : World, Calls Tryd.prog 53 #[.int .u32 1] w fun e w' => e = .returned (.agg #[.int .u64 1, .int .u64 0, .int .u64 0, .int .u64 0, .int .u64 0]) ∧ Below w.heap.size w w'))
    (Q4 : Hid (∀ w : World, Calls Tryd.prog 49 #[.agg #[.int .u64 sx.l0, .int .u64 sx.l1, .int .u64 sx.l2, .int .u64 sx.l3, .int .u64 sx.l4], .agg #[.int .u64 sy.l0, .int .u64 sy.l1, .int .u64 sy.l2, .int .u64 sy.l3, .int .u64 sy.l4]] w fun e w' => e = .returned (.agg #[.int .u64 ma.l0, .int .u64 ma.l1, .int .u64 ma.l2, .int .u64 ma.l3, .int .u64 ma.l4]) ∧ Below w.heap.size w w'))
    (Q5 : Hid (∀ w : World, Calls Tryd.prog 49 #[.agg #[.int .u64 929955233495203, .int .u64 466365720129213, .int .u64 1662059464998953, .int .u64 2033849074728123, .int .u64 1442794654840575], .agg #[.int .u64 ma.l0, .int .u64 ma.l1, .int .u64 ma.l2, .int .u64 ma.l3, .int .u64 ma.l4]] w fun e w' => e = .returned (.agg #[.int .u64 dm.l0, .int .u64 dm.l1, .int .u64 dm.l2, .int .u64 dm.l3, .int .u64 dm.l4]) ∧ Below w.heap.size w w'))
    (Q6 : Hid (∀ w : World, Calls Tryd.prog 52 #[.agg #[.int .u64 1, .int .u64 0, .int .u64 0, .int .u64 0, .int .u64 0], .agg #[.int .u64 dm.l0, .int .u64 dm.l1, .int .u64 dm.l2, .int .u64 dm.l3, .int .u64 dm.l4]] w fun e w' => e = .returned (.agg #[.int .u64 rt.l0, .int .u64 rt.l1, .int .u64 rt.l2, .int .u64 rt.l3, .int .u64 rt.l4]) ∧ Below w.heap.size w w'))
    (Q7 : Hid (∀ w : World, Gf w → Calls Tryd.prog 55 #[.agg #[.int .u64 sy.l0, .int .u64 sy.l1, .int .u64 sy.l2, .int .u64 sy.l3, .int .u64 sy.l4], .agg #[.int .u64 sx.l0, .int .u64 sx.l1, .int .u64 sx.l2, .int .u64 sx.l3, .int .u64 sx.l4]] w fun e w' => e = .returned (.agg #[.int .u64 df.l0, .int .u64 df.l1, .int .u64 df.l2, .int .u64 df.l3, .int .u64 df.l4]) ∧ Below w.heap.size w w'))
    (Q8 : Hid (∀ w : World, Calls Tryd.prog 54 #[.agg #[.int .u64 df.l0, .int .u64 df.l1, .int .u64 df.l2, .int .u64 df.l3, .int .u64 df.l4], .agg #[.int .u64 rt.l0, .int .u64 rt.l1, .int .u64 rt.l2, .int .u64 rt.l3, .int .u64 rt.l4]] w fun e w' => e = .returned (.bool true) ∧ Below w.heap.size w w'))
    (Q9 : Hid (∀ w : World, Calls Tryd.prog 38 #[.agg #[.int .u64 xa.l0, .int .u64 xa.l1, .int .u64 xa.l2, .int .u64 xa.l3, .int .u64 xa.l4], .agg #[.int .u64 ya.l0, .int .u64 ya.l1, .int .u64 ya.l2, .int .u64 ya.l3, .int .u64 ya.l4]] w fun e w' => e = .returned (.agg #[.int .u64 cx.l0, .int .u64 cx.l1, .int .u64 cx.l2, .int .u64 cx.l3, .int .u64 cx.l4, .int .u64 cy.l0, .int .u64 cy.l1, .int .u64 cy.l2, .int .u64 cy.l3, .int .u64 cy.l4, .int .u64 cz.l0, .int .u64 cz.l1, .int .u64 cz.l2, .int .u64 cz.l3, .int .u64 cz.l4, .int .u64 ct.l0, .int .u64 ct.l1, .int .u64 ct.l2, .int .u64 ct.l3, .int .u64 ct.l4]) ∧ Below w.heap.size w w'))
    (w : World) (D_0 : Hid (Gd w)) (Z_0 : Hid (Gf w)) :
    Calls Tryd.prog 12 #[.agg #[.int .u64 xa.l0, .int .u64 xa.l1, .int .u64 xa.l2, .int .u64 xa.l3, .int .u64 xa.l4], .agg #[.int .u64 ya.l0, .int .u64 ya.l1, .int .u64 ya.l2, .int .u64 ya.l3, .int .u64 ya.l4]] w fun e w' => e = .returned (.tuple #[.agg #[.int .u64 cx.l0, .int .u64 cx.l1, .int .u64 cx.l2, .int .u64 cx.l3, .int .u64 cx.l4, .int .u64 cy.l0, .int .u64 cy.l1, .int .u64 cy.l2, .int .u64 cy.l3, .int .u64 cy.l4, .int .u64 cz.l0, .int .u64 cz.l1, .int .u64 cz.l2, .int .u64 cz.l3, .int .u64 cz.l4, .int .u64 ct.l0, .int .u64 ct.l1, .int .u64 ct.l2, .int .u64 ct.l3, .int .u64 ct.l4], .bool true]) ∧ Below w.heap.size w w' := by
  obtain ⟨xa0, xa1, xa2, xa3, xa4⟩ := xa
  obtain ⟨ya0, ya1, ya2, ya3, ya4⟩ := ya
  obtain ⟨sx0, sx1, sx2, sx3, sx4⟩ := sx
  obtain ⟨sy0, sy1, sy2, sy3, sy4⟩ := sy
  obtain ⟨ma0, ma1, ma2, ma3, ma4⟩ := ma
  obtain ⟨dm0, dm1, dm2, dm3, dm4⟩ := dm
  obtain ⟨rt0, rt1, rt2, rt3, rt4⟩ := rt
  obtain ⟨df0, df1, df2, df3, df4⟩ := df
  obtain ⟨cx0, cx1, cx2, cx3, cx4⟩ := cx
  obtain ⟨cy0, cy1, cy2, cy3, cy4⟩ := cy
  obtain ⟨cz0, cz1, cz2, cz3, cz4⟩ := cz
  obtain ⟨ct0, ct1, ct2, ct3, ct4⟩ := ct
  dsimp only at Q1 Q2 Q3 Q4 Q5 Q6 Q7 Q8 Q9 ⊢
  go_enter Tryd.func12, Tryd.ntmps12
  go_upto_region 1 with fail
  have HD := D_0.out.lt
  have HZ := Z_0.out.lt
  refine wp_cut (fun V => At 26 V w.heap.size [.int .u64 xa0, .int .u64 xa1, .int .u64 xa2, .int .u64 xa3, .int .u64 xa4] ∧ At 26 V (w.heap.size + 1) [.int .u64 ya0, .int .u64 ya1, .int .u64 ya2, .int .u64 ya3, .int .u64 ya4] ∧ At 30 V (w.heap.size + 1 + 1) [.int .u64 0, .int .u64 0, .int .u64 0, .int .u64 0, .int .u64 0, .int .u64 0, .int .u64 0, .int .u64 0, .int .u64 0, .int .u64 0, .int .u64 0, .int .u64 0, .int .u64 0, .int .u64 0, .int .u64 0, .int .u64 0, .int .u64 0, .int .u64 0, .int .u64 0, .int .u64 0] ∧ Gd V ∧ Gf V ∧ Below w.heap.size w V) ⟨?_, ?_, ?_, ?_, ?_, ?_⟩ ?_
  · (repeat (first | refine At.drew ?_ | refine At.drewN ?_ _ | (refine at_new2 _ _ _ _ ?_; simp; done) | refine at_alloc ?_ _))
  · (repeat (first | refine At.drew ?_ | refine At.drewN ?_ _ | (refine at_new2 _ _ _ _ ?_; simp; done) | refine at_alloc ?_ _))
  · (repeat (first | refine At.drew ?_ | refine At.drewN ?_ _ | (refine at_new2 _ _ _ _ ?_; simp; done) | refine at_alloc ?_ _))
  · refine D_0.out.grown ?_
    (repeat (first | exact Below.refl _ _ | refine Below.drew ?_ | refine below_drewN ?_ _ | refine Below.alloc ?_ (by simp <;> omega) _))
  · refine Z_0.out.grown ?_
    (repeat (first | exact Below.refl _ _ | refine Below.drew ?_ | refine below_drewN ?_ _ | refine Below.alloc ?_ (by simp <;> omega) _))
  · (repeat (first | exact Below.refl _ _ | refine Below.drew ?_ | refine below_drewN ?_ _ | refine Below.alloc ?_ (by simp <;> omega) _))
  rintro w1 ⟨k0, k1, k2, k3, k4, k5⟩
  have B2_1 := hid k0
  have B3_1 := hid k1
  have B4_1 := hid k2
  have D_1 := hid k3
  have Z_1 := hid k4
  have G_1 := hid k5
  clear k0 k1 k2 k3 k4 k5 D_0 Z_0
  refine wp_region_grow (ob := (fun k => if k = 4 then some (.cells #[.int .u64 0, .int .u64 0, .int .u64 0, .int .u64 0, .int .u64 0] 26) else if k = 5 then some (.cells #[.int .u64 0, .int .u64 0, .int .u64 0, .int .u64 0, .int .u64 0] 26) else none)) (st := (fun k => if k = 6 then some (4, .cells #[.int .u64 sx0, .int .u64 sx1, .int .u64 sx2, .int .u64 sx3, .int .u64 sx4] 26) else if k = 7 then some (5, .cells #[.int .u64 sy0, .int .u64 sy1, .int .u64 sy2, .int .u64 sy3, .int .u64 sy4] 26) else none)) (by kernel_rfl) ?_
  simp only [List.size_toArray, List.length_cons, List.length_nil, Nat.reduceAdd, Array.replicate_succ, Array.replicate_zero, List.push_toArray, List.nil_append, List.cons_append]
  refine g_first 0 _ (.agg #[.int .u64 xa0, .int .u64 xa1, .int .u64 xa2, .int .u64 xa3, .int .u64 xa4]) rfl rfl rfl (by kernel_rfl) (by kernel_rfl) (by kernel_rfl) ?_ ?_
  · refine Or.inl ⟨by rfl, fun w' hw' => ?_⟩
    exact quiet_load 26 _ rfl _ 0 rfl _ _ (at_mid (B2_1.out.below hw') 0 _ rfl) Tryd.underlying26 rfl (by kernel_rfl)
  try simp only [List.getElem_toArray, List.getElem_cons_zero, List.getElem_cons_succ, Act.put, List.setIfInBounds_toArray, List.set_cons_zero, List.set_cons_succ]
  refine g_first 1 _ (.agg #[.int .u64 sx0, .int .u64 sx1, .int .u64 sx2, .int .u64 sx3, .int .u64 sx4]) rfl rfl rfl (by kernel_rfl) (by kernel_rfl) (by kernel_rfl) ?_ ?_
  · refine Or.inl ⟨by rfl, fun w' hw' => ?_⟩
    refine quiet_call (by go_simp) (Q1.out _)
  try simp only [List.getElem_toArray, List.getElem_cons_zero, List.getElem_cons_succ, Act.put, List.setIfInBounds_toArray, List.set_cons_zero, List.set_cons_succ]
  refine g_first 2 _ (.agg #[.int .u64 ya0, .int .u64 ya1, .int .u64 ya2, .int .u64 ya3, .int .u64 ya4]) rfl rfl rfl (by kernel_rfl) (by kernel_rfl) (by kernel_rfl) ?_ ?_
  · refine Or.inl ⟨by rfl, fun w' hw' => ?_⟩
    exact quiet_load 26 _ rfl _ 0 rfl _ _ (at_mid (B3_1.out.below hw') 0 _ rfl) Tryd.underlying26 rfl (by kernel_rfl)
  try simp only [List.getElem_toArray, List.getElem_cons_zero, List.getElem_cons_succ, Act.put, List.setIfInBounds_toArray, List.set_cons_zero, List.set_cons_succ]
  refine g_first 3 _ (.agg #[.int .u64 sy0, .int .u64 sy1, .int .u64 sy2, .int .u64 sy3, .int .u64 sy4]) rfl rfl rfl (by kernel_rfl) (by kernel_rfl) (by kernel_rfl) ?_ ?_
  · refine Or.inl ⟨by rfl, fun w' hw' => ?_⟩
    refine quiet_call (by go_simp) (Q2.out _)
  try simp only [List.getElem_toArray, List.getElem_cons_zero, List.getElem_cons_succ, Act.put, List.setIfInBounds_toArray, List.set_cons_zero, List.set_cons_succ]
  refine g_make 4 _ (.cells #[.int .u64 0, .int .u64 0, .int .u64 0, .int .u64 0, .int .u64 0] 26) (fun k => (decide (4 ≤ k ∧ k ≤ 5)) || (decide (6 ≤ k ∧ k ≤ 7) && k != 6)) rfl rfl rfl rfl ?_ ?_ (by kernel_rfl) (by kernel_rfl) (by kernel_rfl) (by kernel_rfl) (fun g6 => ?_)
  · intro a w
    go_simp
  · intro j hj
    simp only [Bool.or_eq_true, Bool.and_eq_true, decide_eq_true_eq, bne_iff_ne] at hj
    rcases hj with hj | ⟨hj, hne⟩
    · left
      rcases (show j = 4 ∨ j = 5 by omega) with rfl | rfl <;> simp
    · right
      rcases (show j = 6 ∨ j = 7 by omega) with rfl | rfl <;> first | exact ⟨_, _, rfl, by decide⟩ | omega
  try simp only [List.getElem_toArray, List.getElem_cons_zero, List.getElem_cons_succ, Act.put, List.setIfInBounds_toArray, List.set_cons_zero, List.set_cons_succ]
  refine g_make 5 _ (.cells #[.int .u64 0, .int .u64 0, .int .u64 0, .int .u64 0, .int .u64 0] 26) (fun k => (decide (4 ≤ k ∧ k ≤ 5)) || (decide (6 ≤ k ∧ k ≤ 7) && k != 7)) rfl rfl rfl rfl ?_ ?_ (by kernel_rfl) (by kernel_rfl) (by kernel_rfl) (by kernel_rfl) (fun g7 => ?_)
  · intro a w
    go_simp
  · intro j hj
    simp only [Bool.or_eq_true, Bool.and_eq_true, decide_eq_true_eq, bne_iff_ne] at hj
    rcases hj with hj | ⟨hj, hne⟩
    · left
      rcases (show j = 4 ∨ j = 5 by omega) with rfl | rfl <;> simp
    · right
      rcases (show j = 6 ∨ j = 7 by omega) with rfl | rfl <;> first | exact ⟨_, _, rfl, by decide⟩ | omega
  try simp only [List.getElem_toArray, List.getElem_cons_zero, List.getElem_cons_succ, Act.put, List.setIfInBounds_toArray, List.set_cons_zero, List.set_cons_succ]
  refine g_store 6 4 _ (.cells #[.int .u64 sx0, .int .u64 sx1, .int .u64 sx2, .int .u64 sx3, .int .u64 sx4] 26) g6 (.cells #[.int .u64 0, .int .u64 0, .int .u64 0, .int .u64 0, .int .u64 0] 26) (fun k => decide (6 ≤ k ∧ k ≤ 7) && k != 6) rfl rfl rfl rfl ?_ (by kernel_rfl) (by kernel_rfl) (by kernel_rfl) (by kernel_rfl) (by simp [upd]) ?_ ?_
  · intro j hj
    simp only [Bool.and_eq_true, decide_eq_true_eq, bne_iff_ne] at hj
    rcases (show j = 6 ∨ j = 7 by omega) with rfl | rfl <;> first | exact ⟨_, _, rfl, by decide⟩ | omega
  · exact stores_whole 26 _ _ rfl g6 [.int .u64 sx0, .int .u64 sx1, .int .u64 sx2, .int .u64 sx3, .int .u64 sx4] [.int .u64 0, .int .u64 0, .int .u64 0, .int .u64 0, .int .u64 0] rfl rfl rfl (by kernel_rfl) (by kernel_rfl)
  try simp only [List.getElem_toArray, List.getElem_cons_zero, List.getElem_cons_succ, Act.put, List.setIfInBounds_toArray, List.set_cons_zero, List.set_cons_succ]
  refine g_store 7 5 _ (.cells #[.int .u64 sy0, .int .u64 sy1, .int .u64 sy2, .int .u64 sy3, .int .u64 sy4] 26) g7 (.cells #[.int .u64 0, .int .u64 0, .int .u64 0, .int .u64 0, .int .u64 0] 26) (fun k => decide (6 ≤ k ∧ k ≤ 7) && k != 7) rfl rfl rfl rfl ?_ (by kernel_rfl) (by kernel_rfl) (by kernel_rfl) (by kernel_rfl) (by simp [upd]) ?_ ?_
  · intro j hj
    simp only [Bool.and_eq_true, decide_eq_true_eq, bne_iff_ne] at hj
    rcases (show j = 6 ∨ j = 7 by omega) with rfl | rfl <;> first | exact ⟨_, _, rfl, by decide⟩ | omega
  · exact stores_whole 26 _ _ rfl g7 [.int .u64 sy0, .int .u64 sy1, .int .u64 sy2, .int .u64 sy3, .int .u64 sy4] [.int .u64 0, .int .u64 0, .int .u64 0, .int .u64 0, .int .u64 0] rfl rfl rfl (by kernel_rfl) (by kernel_rfl)
  try simp only [List.getElem_toArray, List.getElem_cons_zero, List.getElem_cons_succ, Act.put, List.setIfInBounds_toArray, List.set_cons_zero, List.set_cons_succ]
  refine ⟨by kernel_rfl, fun w2 hV => ?_⟩
  have own6 := hV.own 4 _ (by simp [upd]; rfl)
  have B6_2 : Hid (At 26 w2 g6 [.int .u64 sx0, .int .u64 sx1, .int .u64 sx2, .int .u64 sx3, .int .u64 sx4]) := own6.2.2
  have szB6 : w.heap.size ≤ g6 := by have h1 := own6.1; have h2 := G_1.out.size; dsimp only at h1; omega
  have nlB2B6 : w.heap.size < g6 := by have h1 := own6.1; have h2 := B2_1.out.lt; dsimp only at h1; omega
  have nlB3B6 : (w.heap.size + 1) < g6 := by have h1 := own6.1; have h2 := B3_1.out.lt; dsimp only at h1; omega
  have nlB4B6 : (w.heap.size + 1 + 1) < g6 := by have h1 := own6.1; have h2 := B4_1.out.lt; dsimp only at h1; omega
  have own7 := hV.own 5 _ (by simp [upd]; rfl)
  have B7_2 : Hid (At 26 w2 g7 [.int .u64 sy0, .int .u64 sy1, .int .u64 sy2, .int .u64 sy3, .int .u64 sy4]) := own7.2.2
  have szB7 : w.heap.size ≤ g7 := by have h1 := own7.1; have h2 := G_1.out.size; dsimp only at h1; omega
  have nlB2B7 : w.heap.size < g7 := by have h1 := own7.1; have h2 := B2_1.out.lt; dsimp only at h1; omega
  have nlB3B7 : (w.heap.size + 1) < g7 := by have h1 := own7.1; have h2 := B3_1.out.lt; dsimp only at h1; omega
  have nlB4B7 : (w.heap.size + 1 + 1) < g7 := by have h1 := own7.1; have h2 := B4_1.out.lt; dsimp only at h1; omega
  have g := hV.bel
  have B2_2 := hid (B2_1.out.below g)
  have B3_2 := hid (B3_1.out.below g)
  have B4_2 := hid (B4_1.out.below g)
  have D_2 := hid (D_1.out.grown g)
  have Z_2 := hid (Z_1.out.grown g)
  have G_2 := hid (G_1.out.trans (g.mono G_1.out.size))
  clear hV g own6 own7 B2_1 B3_1 B4_1 D_1 Z_1 G_1
  go_wp2_with fail
  refine wp_region_grow (ob := (fun k => if k = 7 then some (.cells #[.int .u64 0, .int .u64 0, .int .u64 0, .int .u64 0, .int .u64 0] 26) else none)) (st := (fun k => if k = 8 then some (7, .cells #[.int .u64 rt0, .int .u64 rt1, .int .u64 rt2, .int .u64 rt3, .int .u64 rt4] 26) else none)) (by kernel_rfl) ?_
  simp only [List.size_toArray, List.length_cons, List.length_nil, Nat.reduceAdd, Array.replicate_succ, Array.replicate_zero, List.push_toArray, List.nil_append, List.cons_append]
  refine g_first 0 _ (.agg #[.int .u64 1, .int .u64 0, .int .u64 0, .int .u64 0, .int .u64 0]) rfl rfl rfl (by kernel_rfl) (by kernel_rfl) (by kernel_rfl) ?_ ?_
  · refine Or.inl ⟨by rfl, fun w' hw' => ?_⟩
    refine quiet_call (by go_simp) (Q3.out _)
  try simp only [List.getElem_toArray, List.getElem_cons_zero, List.getElem_cons_succ, Act.put, List.setIfInBounds_toArray, List.set_cons_zero, List.set_cons_succ]
  refine g_first 1 _ (.agg #[.int .u64 929955233495203, .int .u64 466365720129213, .int .u64 1662059464998953, .int .u64 2033849074728123, .int .u64 1442794654840575]) rfl rfl rfl (by kernel_rfl) (by kernel_rfl) (by kernel_rfl) ?_ ?_
  · refine Or.inl ⟨by rfl, fun w' hw' => ?_⟩
    exact quiet_load 26 _ rfl 0 0 rfl _ _ (D_2.out.grown hw').range Tryd.underlying26 rfl (by kernel_rfl)
  try simp only [List.getElem_toArray, List.getElem_cons_zero, List.getElem_cons_succ, Act.put, List.setIfInBounds_toArray, List.set_cons_zero, List.set_cons_succ]
  refine g_first 2 _ (.agg #[.int .u64 sx0, .int .u64 sx1, .int .u64 sx2, .int .u64 sx3, .int .u64 sx4]) rfl rfl rfl (by kernel_rfl) (by kernel_rfl) (by kernel_rfl) ?_ ?_
  · refine Or.inl ⟨by rfl, fun w' hw' => ?_⟩
    exact quiet_load 26 _ rfl _ 0 rfl _ _ (at_mid (B6_2.out.below hw') 0 _ rfl) Tryd.underlying26 rfl (by kernel_rfl)
  try simp only [List.getElem_toArray, List.getElem_cons_zero, List.getElem_cons_succ, Act.put, List.setIfInBounds_toArray, List.set_cons_zero, List.set_cons_succ]
  refine g_first 3 _ (.agg #[.int .u64 sy0, .int .u64 sy1, .int .u64 sy2, .int .u64 sy3, .int .u64 sy4]) rfl rfl rfl (by kernel_rfl) (by kernel_rfl) (by kernel_rfl) ?_ ?_
  · refine Or.inl ⟨by rfl, fun w' hw' => ?_⟩
    exact quiet_load 26 _ rfl _ 0 rfl _ _ (at_mid (B7_2.out.below hw') 0 _ rfl) Tryd.underlying26 rfl (by kernel_rfl)
  try simp only [List.getElem_toArray, List.getElem_cons_zero, List.getElem_cons_succ, Act.put, List.setIfInBounds_toArray, List.set_cons_zero, List.set_cons_succ]
  refine g_first 4 _ (.agg #[.int .u64 ma0, .int .u64 ma1, .int .u64 ma2, .int .u64 ma3, .int .u64 ma4]) rfl rfl rfl (by kernel_rfl) (by kernel_rfl) (by kernel_rfl) ?_ ?_
  · refine Or.inl ⟨by rfl, fun w' hw' => ?_⟩
    refine quiet_call (by go_simp) (Q4.out _)
  try simp only [List.getElem_toArray, List.getElem_cons_zero, List.getElem_cons_succ, Act.put, List.setIfInBounds_toArray, List.set_cons_zero, List.set_cons_succ]
  refine g_first 5 _ (.agg #[.int .u64 dm0, .int .u64 dm1, .int .u64 dm2, .int .u64 dm3, .int .u64 dm4]) rfl rfl rfl (by kernel_rfl) (by kernel_rfl) (by kernel_rfl) ?_ ?_
  · refine Or.inl ⟨by rfl, fun w' hw' => ?_⟩
    refine quiet_call (by go_simp) (Q5.out _)
  try simp only [List.getElem_toArray, List.getElem_cons_zero, List.getElem_cons_succ, Act.put, List.setIfInBounds_toArray, List.set_cons_zero, List.set_cons_succ]
  refine g_first 6 _ (.agg #[.int .u64 rt0, .int .u64 rt1, .int .u64 rt2, .int .u64 rt3, .int .u64 rt4]) rfl rfl rfl (by kernel_rfl) (by kernel_rfl) (by kernel_rfl) ?_ ?_
  · refine Or.inl ⟨by rfl, fun w' hw' => ?_⟩
    refine quiet_call (by go_simp) (Q6.out _)
  try simp only [List.getElem_toArray, List.getElem_cons_zero, List.getElem_cons_succ, Act.put, List.setIfInBounds_toArray, List.set_cons_zero, List.set_cons_succ]
  refine g_make 7 _ (.cells #[.int .u64 0, .int .u64 0, .int .u64 0, .int .u64 0, .int .u64 0] 26) (fun k => (decide (7 ≤ k ∧ k ≤ 7)) || (decide (8 ≤ k ∧ k ≤ 8) && k != 8)) rfl rfl rfl rfl ?_ ?_ (by kernel_rfl) (by kernel_rfl) (by kernel_rfl) (by kernel_rfl) (fun g8 => ?_)
  · intro a w
    go_simp
  · intro j hj
    simp only [Bool.or_eq_true, Bool.and_eq_true, decide_eq_true_eq, bne_iff_ne] at hj
    rcases hj with hj | ⟨hj, hne⟩
    · left
      rcases (show j = 7 by omega) with rfl <;> simp
    · right
      rcases (show j = 8 by omega) with rfl <;> first | exact ⟨_, _, rfl, by decide⟩ | omega
  try simp only [List.getElem_toArray, List.getElem_cons_zero, List.getElem_cons_succ, Act.put, List.setIfInBounds_toArray, List.set_cons_zero, List.set_cons_succ]
  refine g_store 8 7 _ (.cells #[.int .u64 rt0, .int .u64 rt1, .int .u64 rt2, .int .u64 rt3, .int .u64 rt4] 26) g8 (.cells #[.int .u64 0, .int .u64 0, .int .u64 0, .int .u64 0, .int .u64 0] 26) (fun k => decide (8 ≤ k ∧ k ≤ 8) && k != 8) rfl rfl rfl rfl ?_ (by kernel_rfl) (by kernel_rfl) (by kernel_rfl) (by kernel_rfl) (by simp [upd]) ?_ ?_
  · intro j hj
    simp only [Bool.and_eq_true, decide_eq_true_eq, bne_iff_ne] at hj
    rcases (show j = 8 by omega) with rfl <;> first | exact ⟨_, _, rfl, by decide⟩ | omega
  · exact stores_whole 26 _ _ rfl g8 [.int .u64 rt0, .int .u64 rt1, .int .u64 rt2, .int .u64 rt3, .int .u64 rt4] [.int .u64 0, .int .u64 0, .int .u64 0, .int .u64 0, .int .u64 0] rfl rfl rfl (by kernel_rfl) (by kernel_rfl)
  try simp only [List.getElem_toArray, List.getElem_cons_zero, List.getElem_cons_succ, Act.put, List.setIfInBounds_toArray, List.set_cons_zero, List.set_cons_succ]
  refine ⟨by kernel_rfl, fun w3 hV => ?_⟩
  have own8 := hV.own 7 _ (by simp [upd]; rfl)
  have B8_3 : Hid (At 26 w3 g8 [.int .u64 rt0, .int .u64 rt1, .int .u64 rt2, .int .u64 rt3, .int .u64 rt4]) := own8.2.2
  have szB8 : w.heap.size ≤ g8 := by have h1 := own8.1; have h2 := G_2.out.size; dsimp only at h1; omega
  have nlB2B8 : w.heap.size < g8 := by have h1 := own8.1; have h2 := B2_2.out.lt; dsimp only at h1; omega
  have nlB3B8 : (w.heap.size + 1) < g8 := by have h1 := own8.1; have h2 := B3_2.out.lt; dsimp only at h1; omega
  have nlB4B8 : (w.heap.size + 1 + 1) < g8 := by have h1 := own8.1; have h2 := B4_2.out.lt; dsimp only at h1; omega
  have nlB6B8 : g6 < g8 := by have h1 := own8.1; have h2 := B6_2.out.lt; dsimp only at h1; omega
  have nlB7B8 : g7 < g8 := by have h1 := own8.1; have h2 := B7_2.out.lt; dsimp only at h1; omega
  have g := hV.bel
  have B2_3 := hid (B2_2.out.below g)
  have B3_3 := hid (B3_2.out.below g)
  have B4_3 := hid (B4_2.out.below g)
  have B6_3 := hid (B6_2.out.below g)
  have B7_3 := hid (B7_2.out.below g)
  have D_3 := hid (D_2.out.grown g)
  have Z_3 := hid (Z_2.out.grown g)
  have G_3 := hid (G_2.out.trans (g.mono G_2.out.size))
  clear hV g own8 B2_2 B3_2 B4_2 B6_2 B7_2 D_2 Z_2 G_2
  go_wp2_with fail
  have D_3' := hid (D_3.out.grown (Below.refl _ w3).drew)
  have Z_3' := hid (Z_3.out.grown (Below.refl _ w3).drew)
  have K3 : At 26 w3.drew g7 [.int .u64 sy0, .int .u64 sy1, .int .u64 sy2, .int .u64 sy3, .int .u64 sy4] ∧ At 26 w3.drew g6 [.int .u64 sx0, .int .u64 sx1, .int .u64 sx2, .int .u64 sx3, .int .u64 sx4] ∧ At 26 w3.drew g8 [.int .u64 rt0, .int .u64 rt1, .int .u64 rt2, .int .u64 rt3, .int .u64 rt4] := And.intro B7_3.out.drew (And.intro B6_3.out.drew (B8_3.out.drew))
  refine wp_region_held_drew (S := fun w' => At 26 w' g7 [.int .u64 sy0, .int .u64 sy1, .int .u64 sy2, .int .u64 sy3, .int .u64 sy4] ∧ At 26 w' g6 [.int .u64 sx0, .int .u64 sx1, .int .u64 sx2, .int .u64 sx3, .int .u64 sx4] ∧ At 26 w' g8 [.int .u64 rt0, .int .u64 rt1, .int .u64 rt2, .int .u64 rt3, .int .u64 rt4]) (by kernel_rfl) K3 (fun hHeld => ?_)
  clear K3
  refine h_take 0 (v := .agg #[.int .u64 sy0, .int .u64 sy1, .int .u64 sy2, .int .u64 sy3, .int .u64 sy4]) rfl (by kernel_rfl) (by kernel_rfl) (by kernel_rfl) (fun _ _ _ h => h) (by rfl) ?hyr2_0 (by assumption) ?_
  case hyr2_0 =>
    intro w' hSw
    exact load_run 26 _ rfl _ 0 rfl _ _ (at_mid hSw.1 0 _ rfl) Tryd.underlying26 rfl (by kernel_rfl)
  try simp only [Act.put, List.setIfInBounds_toArray, List.set_cons_zero, List.set_cons_succ]
  refine h_take 1 (v := .agg #[.int .u64 sx0, .int .u64 sx1, .int .u64 sx2, .int .u64 sx3, .int .u64 sx4]) rfl (by kernel_rfl) (by kernel_rfl) (by kernel_rfl) (fun _ _ _ h => h) (by rfl) ?hyr2_1 (by assumption) ?_
  case hyr2_1 =>
    intro w' hSw
    exact load_run 26 _ rfl _ 0 rfl _ _ (at_mid hSw.2.1 0 _ rfl) Tryd.underlying26 rfl (by kernel_rfl)
  try simp only [Act.put, List.setIfInBounds_toArray, List.set_cons_zero, List.set_cons_succ]
  refine h_take 3 (v := .agg #[.int .u64 rt0, .int .u64 rt1, .int .u64 rt2, .int .u64 rt3, .int .u64 rt4]) rfl (by kernel_rfl) (by kernel_rfl) (by kernel_rfl) (fun _ _ _ h => h) (by rfl) ?hyr2_3 (by assumption) ?_
  case hyr2_3 =>
    intro w' hSw
    exact load_run 26 _ rfl _ 0 rfl _ _ (at_mid hSw.2.2 0 _ rfl) Tryd.underlying26 rfl (by kernel_rfl)
  try simp only [Act.put, List.setIfInBounds_toArray, List.set_cons_zero, List.set_cons_succ]
  refine h_call 2 rfl (by kernel_rfl) (by rfl) (fun Kk hK => ?_)
  go_simp
  (refine (Q7.out _ Z_3'.out).mono ?_)
  rintro e w4 ⟨rfl, g0⟩
  have g : Below w3.heap.size w3 w4 := (Below.refl _ w3).drew.trans g0
  clear g0
  have B2_4 := hid (B2_3.out.below g)
  have B3_4 := hid (B3_3.out.below g)
  have B4_4 := hid (B4_3.out.below g)
  have B6_4 := hid (B6_3.out.below g)
  have B7_4 := hid (B7_3.out.below g)
  have B8_4 := hid (B8_3.out.below g)
  have D_4 := hid (D_3.out.grown g)
  have Z_4 := hid (Z_3.out.grown g)
  have G_4 := hid (G_3.out.trans (g.mono G_3.out.size))
  clear g B2_3 B3_3 B4_3 B6_3 B7_3 B8_3 D_3 Z_3 G_3
  clear D_3' Z_3'
  have K4 := And.intro B7_4.out (And.intro B6_4.out (B8_4.out))
  go_wp2_with fail
  clear hHeld
  refine hK.out _ _ K4 (fun hHeld => ?_)
  clear hK Kk K4
  try simp only [Act.put, List.setIfInBounds_toArray, List.set_cons_zero, List.set_cons_succ]
  refine h_call 4 rfl (by kernel_rfl) (by rfl) (fun Kk hK => ?_)
  go_simp
  (refine (Q8.out _).mono ?_)
  rintro e w5 ⟨rfl, g0⟩
  have g := g0
  clear g0
  have B2_5 := hid (B2_4.out.below g)
  have B3_5 := hid (B3_4.out.below g)
  have B4_5 := hid (B4_4.out.below g)
  have B6_5 := hid (B6_4.out.below g)
  have B7_5 := hid (B7_4.out.below g)
  have B8_5 := hid (B8_4.out.below g)
  have D_5 := hid (D_4.out.grown g)
  have Z_5 := hid (Z_4.out.grown g)
  have G_5 := hid (G_4.out.trans (g.mono G_4.out.size))
  clear g B2_4 B3_4 B4_4 B6_4 B7_4 B8_4 D_4 Z_4 G_4
  have K5 := And.intro B7_5.out (And.intro B6_5.out (B8_5.out))
  go_wp2_with fail
  clear hHeld
  refine hK.out _ _ K5 (fun hHeld => ?_)
  clear hK Kk K5
  try simp only [Act.put, List.setIfInBounds_toArray, List.set_cons_zero, List.set_cons_succ]
  refine h_take 5 (v := .bool false) rfl (by kernel_rfl) (by kernel_rfl) (by kernel_rfl) (fun _ _ _ h => h) (by rfl) ?hyr2_5 (by assumption) ?_
  case hyr2_5 =>
    intro w' hSw
    clear hSw
    go_simp
  try simp only [Act.put, List.setIfInBounds_toArray, List.set_cons_zero, List.set_cons_succ]
  refine wpAnyH_done (by kernel_rfl) ?_ _
  clear hHeld
  go_wp2_with (first | (refine wpList_load_mid rfl 26 _ rfl w.heap.size 0 rfl [.int .u64 xa0, .int .u64 xa1, .int .u64 xa2, .int .u64 xa3, .int .u64 xa4] _ (at_mid B2_5.out 0 _ rfl) Tryd.underlying26 rfl (by kernel_rfl) ?_) | (refine wpList_load_mid rfl 26 _ rfl (w.heap.size + 1) 0 rfl [.int .u64 ya0, .int .u64 ya1, .int .u64 ya2, .int .u64 ya3, .int .u64 ya4] _ (at_mid B3_5.out 0 _ rfl) Tryd.underlying26 rfl (by kernel_rfl) ?_) | fail)
  refine (Q9.out _).mono ?_
  rintro e w6 ⟨rfl, g0⟩
  have g := g0
  clear g0
  have B2_6 := hid (B2_5.out.below g)
  have B3_6 := hid (B3_5.out.below g)
  have B4_6 := hid (B4_5.out.below g)
  have B6_6 := hid (B6_5.out.below g)
  have B7_6 := hid (B7_5.out.below g)
  have B8_6 := hid (B8_5.out.below g)
  have D_6 := hid (D_5.out.grown g)
  have Z_6 := hid (Z_5.out.grown g)
  have G_6 := hid (G_5.out.trans (g.mono G_5.out.size))
  clear g B2_5 B3_5 B4_5 B6_5 B7_5 B8_5 D_5 Z_5 G_5
  go_wp2_with (first | (refine list_store_whole rfl 30 _ _ rfl (w.heap.size + 1 + 1) [.int .u64 cx0, .int .u64 cx1, .int .u64 cx2, .int .u64 cx3, .int .u64 cx4, .int .u64 cy0, .int .u64 cy1, .int .u64 cy2, .int .u64 cy3, .int .u64 cy4, .int .u64 cz0, .int .u64 cz1, .int .u64 cz2, .int .u64 cz3, .int .u64 cz4, .int .u64 ct0, .int .u64 ct1, .int .u64 ct2, .int .u64 ct3, .int .u64 ct4] _ rfl rfl B4_6.out rfl (by kernel_rfl) (by kernel_rfl) w.heap.size w G_6.out (by omega) (fun F hC hB => ?_)) | fail)
  exact bodyPost_ret (v := .tuple #[.agg #[.int .u64 cx0, .int .u64 cx1, .int .u64 cx2, .int .u64 cx3, .int .u64 cx4, .int .u64 cy0, .int .u64 cy1, .int .u64 cy2, .int .u64 cy3, .int .u64 cy4, .int .u64 cz0, .int .u64 cz1, .int .u64 cz2, .int .u64 cz3, .int .u64 cz4, .int .u64 ct0, .int .u64 ct1, .int .u64 ct2, .int .u64 ct3, .int .u64 ct4], .bool true]) (results_cs (Tryd.results12) _ F (w.heap.size + 1 + 1) 0 [.int .u64 cx0, .int .u64 cx1, .int .u64 cx2, .int .u64 cx3, .int .u64 cx4, .int .u64 cy0, .int .u64 cy1, .int .u64 cy2, .int .u64 cy3, .int .u64 cy4, .int .u64 cz0, .int .u64 cz1, .int .u64 cz2, .int .u64 cz3, .int .u64 cz4, .int .u64 ct0, .int .u64 ct1, .int .u64 ct2, .int .u64 ct3, .int .u64 ct4] _ _ rfl rfl hC.range Tryd.underlying30 rfl (by kernel_rfl)) rfl ⟨rfl, hB⟩
set_option maxRecDepth 100000 in
set_option maxHeartbeats 8000000 in
theorem from_no_w (xa ya sx sy ma dm rt df : L5)
    (Q1 : Hid (∀ w : World, Calls Tryd.prog 51 #[.agg #[.int .u64 xa.l0, .int .u64 xa.l1, .int .u64 xa.l2, .int .u64 xa.l3, .int .u64 xa.l4], .int .i64 1] w fun e w' => e = .returned (.agg #[.int .u64 sx.l0, .int .u64 sx.l1, .int .u64 sx.l2, .int .u64 sx.l3, .int .u64 sx.l4]) ∧ Below w.heap.size w w'))
    (Q2 : Hid (∀ w : World, Calls Tryd.prog 51 #[.agg #[.int .u64 ya.l0, .int .u64 ya.l1, .int .u64 ya.l2, .int .u64 ya.l3, .int .u64 ya.l4], .int .i64 1] w fun e w' => e = .returned (.agg #[.int .u64 sy.l0, .int .u64 sy.l1, .int .u64 sy.l2, .int .u64 sy.l3, .int .u64 sy.l4]) ∧ Below w.heap.size w w'))
    (Q3 : Hid (∀ w : World, Calls Tryd.prog 53 #[.int .u32 1] w fun e w' => e = .returned (.agg #[.int .u64 1, .int .u64 0, .int .u64 0, .int .u64 0, .int .u64 0]) ∧ Below w.heap.size w w'))
    (Q4 : Hid (∀ w : World, Calls Tryd.prog 49 #[.agg #[.int .u64 sx.l0, .int .u64 sx.l1, .int .u64 sx.l2, .int .u64 sx.l3, .int .u64 sx.l4], .agg #[.int .u64 sy.l0, .int .u64 sy.l1, .int .u64 sy.l2, .int .u64 sy.l3, .int .u64 sy.l4]] w fun e w' => e = .returned (.agg #[.int .u64 ma.l0, .int .u64 ma.l1, .int .u64 ma.l2, .int .u64 ma.l3, .int .u64 ma.l4]) ∧ Below w.heap.size w w'))
    (Q5 : Hid (∀ w : World, Calls Tryd.prog 49 #[.agg #[.int .u64 929955233495203, .int .u64 466365720129213, .int .u64 1662059464998953, .int .u64 2033849074728123, .int .u64 1442794654840575], .agg #[.int .u64 ma.l0, .int .u64 ma.l1, .int .u64 ma.l2, .int .u64 ma.l3, .int .u64 ma.l4]] w fun e w' => e = .returned (.agg #[.int .u64 dm.l0, .int .u64 dm.l1, .int .u64 dm.l2, .int .u64 dm.l3, .int .u64 dm.l4]) ∧ Below w.heap.size w w'))
    (Q6 : Hid (∀ w : World, Calls Tryd.prog 52 #[.agg #[.int .u64 1, .int .u64 0, .int .u64 0, .int .u64 0, .int .u64 0], .agg #[.int .u64 dm.l0, .int .u64 dm.l1, .int .u64 dm.l2, .int .u64 dm.l3, .int .u64 dm.l4]] w fun e w' => e = .returned (.agg #[.int .u64 rt.l0, .int .u64 rt.l1, .int .u64 rt.l2, .int .u64 rt.l3, .int .u64 rt.l4]) ∧ Below w.heap.size w w'))
    (Q7 : Hid (∀ w : World, Gf w → Calls Tryd.prog 55 #[.agg #[.int .u64 sy.l0, .int .u64 sy.l1, .int .u64 sy.l2, .int .u64 sy.l3, .int .u64 sy.l4], .agg #[.int .u64 sx.l0, .int .u64 sx.l1, .int .u64 sx.l2, .int .u64 sx.l3, .int .u64 sx.l4]] w fun e w' => e = .returned (.agg #[.int .u64 df.l0, .int .u64 df.l1, .int .u64 df.l2, .int .u64 df.l3, .int .u64 df.l4]) ∧ Below w.heap.size w w'))
    (Q8 : Hid (∀ w : World, Calls Tryd.prog 54 #[.agg #[.int .u64 df.l0, .int .u64 df.l1, .int .u64 df.l2, .int .u64 df.l3, .int .u64 df.l4], .agg #[.int .u64 rt.l0, .int .u64 rt.l1, .int .u64 rt.l2, .int .u64 rt.l3, .int .u64 rt.l4]] w fun e w' => e = .returned (.bool false) ∧ Below w.heap.size w w'))
    (w : World) (D_0 : Hid (Gd w)) (Z_0 : Hid (Gf w)) :
    Calls Tryd.prog 12 #[.agg #[.int .u64 xa.l0, .int .u64 xa.l1, .int .u64 xa.l2, .int .u64 xa.l3, .int .u64 xa.l4], .agg #[.int .u64 ya.l0, .int .u64 ya.l1, .int .u64 ya.l2, .int .u64 ya.l3, .int .u64 ya.l4]] w fun e w' => e = .returned (.tuple #[.agg #[.int .u64 0, .int .u64 0, .int .u64 0, .int .u64 0, .int .u64 0, .int .u64 0, .int .u64 0, .int .u64 0, .int .u64 0, .int .u64 0, .int .u64 0, .int .u64 0, .int .u64 0, .int .u64 0, .int .u64 0, .int .u64 0, .int .u64 0, .int .u64 0, .int .u64 0, .int .u64 0], .bool false]) ∧ Below w.heap.size w w' := by
  obtain ⟨xa0, xa1, xa2, xa3, xa4⟩ := xa
  obtain ⟨ya0, ya1, ya2, ya3, ya4⟩ := ya
  obtain ⟨sx0, sx1, sx2, sx3, sx4⟩ := sx
  obtain ⟨sy0, sy1, sy2, sy3, sy4⟩ := sy
  obtain ⟨ma0, ma1, ma2, ma3, ma4⟩ := ma
  obtain ⟨dm0, dm1, dm2, dm3, dm4⟩ := dm
  obtain ⟨rt0, rt1, rt2, rt3, rt4⟩ := rt
  obtain ⟨df0, df1, df2, df3, df4⟩ := df
  dsimp only at Q1 Q2 Q3 Q4 Q5 Q6 Q7 Q8 ⊢
  go_enter Tryd.func12, Tryd.ntmps12
  go_upto_region 1 with fail
  have HD := D_0.out.lt
  have HZ := Z_0.out.lt
  refine wp_cut (fun V => At 26 V w.heap.size [.int .u64 xa0, .int .u64 xa1, .int .u64 xa2, .int .u64 xa3, .int .u64 xa4] ∧ At 26 V (w.heap.size + 1) [.int .u64 ya0, .int .u64 ya1, .int .u64 ya2, .int .u64 ya3, .int .u64 ya4] ∧ At 30 V (w.heap.size + 1 + 1) [.int .u64 0, .int .u64 0, .int .u64 0, .int .u64 0, .int .u64 0, .int .u64 0, .int .u64 0, .int .u64 0, .int .u64 0, .int .u64 0, .int .u64 0, .int .u64 0, .int .u64 0, .int .u64 0, .int .u64 0, .int .u64 0, .int .u64 0, .int .u64 0, .int .u64 0, .int .u64 0] ∧ Gd V ∧ Gf V ∧ Below w.heap.size w V) ⟨?_, ?_, ?_, ?_, ?_, ?_⟩ ?_
  · (repeat (first | refine At.drew ?_ | refine At.drewN ?_ _ | (refine at_new2 _ _ _ _ ?_; simp; done) | refine at_alloc ?_ _))
  · (repeat (first | refine At.drew ?_ | refine At.drewN ?_ _ | (refine at_new2 _ _ _ _ ?_; simp; done) | refine at_alloc ?_ _))
  · (repeat (first | refine At.drew ?_ | refine At.drewN ?_ _ | (refine at_new2 _ _ _ _ ?_; simp; done) | refine at_alloc ?_ _))
  · refine D_0.out.grown ?_
    (repeat (first | exact Below.refl _ _ | refine Below.drew ?_ | refine below_drewN ?_ _ | refine Below.alloc ?_ (by simp <;> omega) _))
  · refine Z_0.out.grown ?_
    (repeat (first | exact Below.refl _ _ | refine Below.drew ?_ | refine below_drewN ?_ _ | refine Below.alloc ?_ (by simp <;> omega) _))
  · (repeat (first | exact Below.refl _ _ | refine Below.drew ?_ | refine below_drewN ?_ _ | refine Below.alloc ?_ (by simp <;> omega) _))
  rintro w1 ⟨k0, k1, k2, k3, k4, k5⟩
  have B2_1 := hid k0
  have B3_1 := hid k1
  have B4_1 := hid k2
  have D_1 := hid k3
  have Z_1 := hid k4
  have G_1 := hid k5
  clear k0 k1 k2 k3 k4 k5 D_0 Z_0
  refine wp_region_grow (ob := (fun k => if k = 4 then some (.cells #[.int .u64 0, .int .u64 0, .int .u64 0, .int .u64 0, .int .u64 0] 26) else if k = 5 then some (.cells #[.int .u64 0, .int .u64 0, .int .u64 0, .int .u64 0, .int .u64 0] 26) else none)) (st := (fun k => if k = 6 then some (4, .cells #[.int .u64 sx0, .int .u64 sx1, .int .u64 sx2, .int .u64 sx3, .int .u64 sx4] 26) else if k = 7 then some (5, .cells #[.int .u64 sy0, .int .u64 sy1, .int .u64 sy2, .int .u64 sy3, .int .u64 sy4] 26) else none)) (by kernel_rfl) ?_
  simp only [List.size_toArray, List.length_cons, List.length_nil, Nat.reduceAdd, Array.replicate_succ, Array.replicate_zero, List.push_toArray, List.nil_append, List.cons_append]
  refine g_first 0 _ (.agg #[.int .u64 xa0, .int .u64 xa1, .int .u64 xa2, .int .u64 xa3, .int .u64 xa4]) rfl rfl rfl (by kernel_rfl) (by kernel_rfl) (by kernel_rfl) ?_ ?_
  · refine Or.inl ⟨by rfl, fun w' hw' => ?_⟩
    exact quiet_load 26 _ rfl _ 0 rfl _ _ (at_mid (B2_1.out.below hw') 0 _ rfl) Tryd.underlying26 rfl (by kernel_rfl)
  try simp only [List.getElem_toArray, List.getElem_cons_zero, List.getElem_cons_succ, Act.put, List.setIfInBounds_toArray, List.set_cons_zero, List.set_cons_succ]
  refine g_first 1 _ (.agg #[.int .u64 sx0, .int .u64 sx1, .int .u64 sx2, .int .u64 sx3, .int .u64 sx4]) rfl rfl rfl (by kernel_rfl) (by kernel_rfl) (by kernel_rfl) ?_ ?_
  · refine Or.inl ⟨by rfl, fun w' hw' => ?_⟩
    refine quiet_call (by go_simp) (Q1.out _)
  try simp only [List.getElem_toArray, List.getElem_cons_zero, List.getElem_cons_succ, Act.put, List.setIfInBounds_toArray, List.set_cons_zero, List.set_cons_succ]
  refine g_first 2 _ (.agg #[.int .u64 ya0, .int .u64 ya1, .int .u64 ya2, .int .u64 ya3, .int .u64 ya4]) rfl rfl rfl (by kernel_rfl) (by kernel_rfl) (by kernel_rfl) ?_ ?_
  · refine Or.inl ⟨by rfl, fun w' hw' => ?_⟩
    exact quiet_load 26 _ rfl _ 0 rfl _ _ (at_mid (B3_1.out.below hw') 0 _ rfl) Tryd.underlying26 rfl (by kernel_rfl)
  try simp only [List.getElem_toArray, List.getElem_cons_zero, List.getElem_cons_succ, Act.put, List.setIfInBounds_toArray, List.set_cons_zero, List.set_cons_succ]
  refine g_first 3 _ (.agg #[.int .u64 sy0, .int .u64 sy1, .int .u64 sy2, .int .u64 sy3, .int .u64 sy4]) rfl rfl rfl (by kernel_rfl) (by kernel_rfl) (by kernel_rfl) ?_ ?_
  · refine Or.inl ⟨by rfl, fun w' hw' => ?_⟩
    refine quiet_call (by go_simp) (Q2.out _)
  try simp only [List.getElem_toArray, List.getElem_cons_zero, List.getElem_cons_succ, Act.put, List.setIfInBounds_toArray, List.set_cons_zero, List.set_cons_succ]
  refine g_make 4 _ (.cells #[.int .u64 0, .int .u64 0, .int .u64 0, .int .u64 0, .int .u64 0] 26) (fun k => (decide (4 ≤ k ∧ k ≤ 5)) || (decide (6 ≤ k ∧ k ≤ 7) && k != 6)) rfl rfl rfl rfl ?_ ?_ (by kernel_rfl) (by kernel_rfl) (by kernel_rfl) (by kernel_rfl) (fun g6 => ?_)
  · intro a w
    go_simp
  · intro j hj
    simp only [Bool.or_eq_true, Bool.and_eq_true, decide_eq_true_eq, bne_iff_ne] at hj
    rcases hj with hj | ⟨hj, hne⟩
    · left
      rcases (show j = 4 ∨ j = 5 by omega) with rfl | rfl <;> simp
    · right
      rcases (show j = 6 ∨ j = 7 by omega) with rfl | rfl <;> first | exact ⟨_, _, rfl, by decide⟩ | omega
  try simp only [List.getElem_toArray, List.getElem_cons_zero, List.getElem_cons_succ, Act.put, List.setIfInBounds_toArray, List.set_cons_zero, List.set_cons_succ]
  refine g_make 5 _ (.cells #[.int .u64 0, .int .u64 0, .int .u64 0, .int .u64 0, .int .u64 0] 26) (fun k => (decide (4 ≤ k ∧ k ≤ 5)) || (decide (6 ≤ k ∧ k ≤ 7) && k != 7)) rfl rfl rfl rfl ?_ ?_ (by kernel_rfl) (by kernel_rfl) (by kernel_rfl) (by kernel_rfl) (fun g7 => ?_)
  · intro a w
    go_simp
  · intro j hj
    simp only [Bool.or_eq_true, Bool.and_eq_true, decide_eq_true_eq, bne_iff_ne] at hj
    rcases hj with hj | ⟨hj, hne⟩
    · left
      rcases (show j = 4 ∨ j = 5 by omega) with rfl | rfl <;> simp
    · right
      rcases (show j = 6 ∨ j = 7 by omega) with rfl | rfl <;> first | exact ⟨_, _, rfl, by decide⟩ | omega
  try simp only [List.getElem_toArray, List.getElem_cons_zero, List.getElem_cons_succ, Act.put, List.setIfInBounds_toArray, List.set_cons_zero, List.set_cons_succ]
  refine g_store 6 4 _ (.cells #[.int .u64 sx0, .int .u64 sx1, .int .u64 sx2, .int .u64 sx3, .int .u64 sx4] 26) g6 (.cells #[.int .u64 0, .int .u64 0, .int .u64 0, .int .u64 0, .int .u64 0] 26) (fun k => decide (6 ≤ k ∧ k ≤ 7) && k != 6) rfl rfl rfl rfl ?_ (by kernel_rfl) (by kernel_rfl) (by kernel_rfl) (by kernel_rfl) (by simp [upd]) ?_ ?_
  · intro j hj
    simp only [Bool.and_eq_true, decide_eq_true_eq, bne_iff_ne] at hj
    rcases (show j = 6 ∨ j = 7 by omega) with rfl | rfl <;> first | exact ⟨_, _, rfl, by decide⟩ | omega
  · exact stores_whole 26 _ _ rfl g6 [.int .u64 sx0, .int .u64 sx1, .int .u64 sx2, .int .u64 sx3, .int .u64 sx4] [.int .u64 0, .int .u64 0, .int .u64 0, .int .u64 0, .int .u64 0] rfl rfl rfl (by kernel_rfl) (by kernel_rfl)
  try simp only [List.getElem_toArray, List.getElem_cons_zero, List.getElem_cons_succ, Act.put, List.setIfInBounds_toArray, List.set_cons_zero, List.set_cons_succ]
  refine g_store 7 5 _ (.cells #[.int .u64 sy0, .int .u64 sy1, .int .u64 sy2, .int .u64 sy3, .int .u64 sy4] 26) g7 (.cells #[.int .u64 0, .int .u64 0, .int .u64 0, .int .u64 0, .int .u64 0] 26) (fun k => decide (6 ≤ k ∧ k ≤ 7) && k != 7) rfl rfl rfl rfl ?_ (by kernel_rfl) (by kernel_rfl) (by kernel_rfl) (by kernel_rfl) (by simp [upd]) ?_ ?_
  · intro j hj
    simp only [Bool.and_eq_true, decide_eq_true_eq, bne_iff_ne] at hj
    rcases (show j = 6 ∨ j = 7 by omega) with rfl | rfl <;> first | exact ⟨_, _, rfl, by decide⟩ | omega
  · exact stores_whole 26 _ _ rfl g7 [.int .u64 sy0, .int .u64 sy1, .int .u64 sy2, .int .u64 sy3, .int .u64 sy4] [.int .u64 0, .int .u64 0, .int .u64 0, .int .u64 0, .int .u64 0] rfl rfl rfl (by kernel_rfl) (by kernel_rfl)
  try simp only [List.getElem_toArray, List.getElem_cons_zero, List.getElem_cons_succ, Act.put, List.setIfInBounds_toArray, List.set_cons_zero, List.set_cons_succ]
  refine ⟨by kernel_rfl, fun w2 hV => ?_⟩
  have own6 := hV.own 4 _ (by simp [upd]; rfl)
  have B6_2 : Hid (At 26 w2 g6 [.int .u64 sx0, .int .u64 sx1, .int .u64 sx2, .int .u64 sx3, .int .u64 sx4]) := own6.2.2
  have szB6 : w.heap.size ≤ g6 := by have h1 := own6.1; have h2 := G_1.out.size; dsimp only at h1; omega
  have nlB2B6 : w.heap.size < g6 := by have h1 := own6.1; have h2 := B2_1.out.lt; dsimp only at h1; omega
  have nlB3B6 : (w.heap.size + 1) < g6 := by have h1 := own6.1; have h2 := B3_1.out.lt; dsimp only at h1; omega
  have nlB4B6 : (w.heap.size + 1 + 1) < g6 := by have h1 := own6.1; have h2 := B4_1.out.lt; dsimp only at h1; omega
  have own7 := hV.own 5 _ (by simp [upd]; rfl)
  have B7_2 : Hid (At 26 w2 g7 [.int .u64 sy0, .int .u64 sy1, .int .u64 sy2, .int .u64 sy3, .int .u64 sy4]) := own7.2.2
  have szB7 : w.heap.size ≤ g7 := by have h1 := own7.1; have h2 := G_1.out.size; dsimp only at h1; omega
  have nlB2B7 : w.heap.size < g7 := by have h1 := own7.1; have h2 := B2_1.out.lt; dsimp only at h1; omega
  have nlB3B7 : (w.heap.size + 1) < g7 := by have h1 := own7.1; have h2 := B3_1.out.lt; dsimp only at h1; omega
  have nlB4B7 : (w.heap.size + 1 + 1) < g7 := by have h1 := own7.1; have h2 := B4_1.out.lt; dsimp only at h1; omega
  have g := hV.bel
  have B2_2 := hid (B2_1.out.below g)
  have B3_2 := hid (B3_1.out.below g)
  have B4_2 := hid (B4_1.out.below g)
  have D_2 := hid (D_1.out.grown g)
  have Z_2 := hid (Z_1.out.grown g)
  have G_2 := hid (G_1.out.trans (g.mono G_1.out.size))
  clear hV g own6 own7 B2_1 B3_1 B4_1 D_1 Z_1 G_1
  go_wp2_with fail
  refine wp_region_grow (ob := (fun k => if k = 7 then some (.cells #[.int .u64 0, .int .u64 0, .int .u64 0, .int .u64 0, .int .u64 0] 26) else none)) (st := (fun k => if k = 8 then some (7, .cells #[.int .u64 rt0, .int .u64 rt1, .int .u64 rt2, .int .u64 rt3, .int .u64 rt4] 26) else none)) (by kernel_rfl) ?_
  simp only [List.size_toArray, List.length_cons, List.length_nil, Nat.reduceAdd, Array.replicate_succ, Array.replicate_zero, List.push_toArray, List.nil_append, List.cons_append]
  refine g_first 0 _ (.agg #[.int .u64 1, .int .u64 0, .int .u64 0, .int .u64 0, .int .u64 0]) rfl rfl rfl (by kernel_rfl) (by kernel_rfl) (by kernel_rfl) ?_ ?_
  · refine Or.inl ⟨by rfl, fun w' hw' => ?_⟩
    refine quiet_call (by go_simp) (Q3.out _)
  try simp only [List.getElem_toArray, List.getElem_cons_zero, List.getElem_cons_succ, Act.put, List.setIfInBounds_toArray, List.set_cons_zero, List.set_cons_succ]
  refine g_first 1 _ (.agg #[.int .u64 929955233495203, .int .u64 466365720129213, .int .u64 1662059464998953, .int .u64 2033849074728123, .int .u64 1442794654840575]) rfl rfl rfl (by kernel_rfl) (by kernel_rfl) (by kernel_rfl) ?_ ?_
  · refine Or.inl ⟨by rfl, fun w' hw' => ?_⟩
    exact quiet_load 26 _ rfl 0 0 rfl _ _ (D_2.out.grown hw').range Tryd.underlying26 rfl (by kernel_rfl)
  try simp only [List.getElem_toArray, List.getElem_cons_zero, List.getElem_cons_succ, Act.put, List.setIfInBounds_toArray, List.set_cons_zero, List.set_cons_succ]
  refine g_first 2 _ (.agg #[.int .u64 sx0, .int .u64 sx1, .int .u64 sx2, .int .u64 sx3, .int .u64 sx4]) rfl rfl rfl (by kernel_rfl) (by kernel_rfl) (by kernel_rfl) ?_ ?_
  · refine Or.inl ⟨by rfl, fun w' hw' => ?_⟩
    exact quiet_load 26 _ rfl _ 0 rfl _ _ (at_mid (B6_2.out.below hw') 0 _ rfl) Tryd.underlying26 rfl (by kernel_rfl)
  try simp only [List.getElem_toArray, List.getElem_cons_zero, List.getElem_cons_succ, Act.put, List.setIfInBounds_toArray, List.set_cons_zero, List.set_cons_succ]
  refine g_first 3 _ (.agg #[.int .u64 sy0, .int .u64 sy1, .int .u64 sy2, .int .u64 sy3, .int .u64 sy4]) rfl rfl rfl (by kernel_rfl) (by kernel_rfl) (by kernel_rfl) ?_ ?_
  · refine Or.inl ⟨by rfl, fun w' hw' => ?_⟩
    exact quiet_load 26 _ rfl _ 0 rfl _ _ (at_mid (B7_2.out.below hw') 0 _ rfl) Tryd.underlying26 rfl (by kernel_rfl)
  try simp only [List.getElem_toArray, List.getElem_cons_zero, List.getElem_cons_succ, Act.put, List.setIfInBounds_toArray, List.set_cons_zero, List.set_cons_succ]
  refine g_first 4 _ (.agg #[.int .u64 ma0, .int .u64 ma1, .int .u64 ma2, .int .u64 ma3, .int .u64 ma4]) rfl rfl rfl (by kernel_rfl) (by kernel_rfl) (by kernel_rfl) ?_ ?_
  · refine Or.inl ⟨by rfl, fun w' hw' => ?_⟩
    refine quiet_call (by go_simp) (Q4.out _)
  try simp only [List.getElem_toArray, List.getElem_cons_zero, List.getElem_cons_succ, Act.put, List.setIfInBounds_toArray, List.set_cons_zero, List.set_cons_succ]
  refine g_first 5 _ (.agg #[.int .u64 dm0, .int .u64 dm1, .int .u64 dm2, .int .u64 dm3, .int .u64 dm4]) rfl rfl rfl (by kernel_rfl) (by kernel_rfl) (by kernel_rfl) ?_ ?_
  · refine Or.inl ⟨by rfl, fun w' hw' => ?_⟩
    refine quiet_call (by go_simp) (Q5.out _)
  try simp only [List.getElem_toArray, List.getElem_cons_zero, List.getElem_cons_succ, Act.put, List.setIfInBounds_toArray, List.set_cons_zero, List.set_cons_succ]
  refine g_first 6 _ (.agg #[.int .u64 rt0, .int .u64 rt1, .int .u64 rt2, .int .u64 rt3, .int .u64 rt4]) rfl rfl rfl (by kernel_rfl) (by kernel_rfl) (by kernel_rfl) ?_ ?_
  · refine Or.inl ⟨by rfl, fun w' hw' => ?_⟩
    refine quiet_call (by go_simp) (Q6.out _)
  try simp only [List.getElem_toArray, List.getElem_cons_zero, List.getElem_cons_succ, Act.put, List.setIfInBounds_toArray, List.set_cons_zero, List.set_cons_succ]
  refine g_make 7 _ (.cells #[.int .u64 0, .int .u64 0, .int .u64 0, .int .u64 0, .int .u64 0] 26) (fun k => (decide (7 ≤ k ∧ k ≤ 7)) || (decide (8 ≤ k ∧ k ≤ 8) && k != 8)) rfl rfl rfl rfl ?_ ?_ (by kernel_rfl) (by kernel_rfl) (by kernel_rfl) (by kernel_rfl) (fun g8 => ?_)
  · intro a w
    go_simp
  · intro j hj
    simp only [Bool.or_eq_true, Bool.and_eq_true, decide_eq_true_eq, bne_iff_ne] at hj
    rcases hj with hj | ⟨hj, hne⟩
    · left
      rcases (show j = 7 by omega) with rfl <;> simp
    · right
      rcases (show j = 8 by omega) with rfl <;> first | exact ⟨_, _, rfl, by decide⟩ | omega
  try simp only [List.getElem_toArray, List.getElem_cons_zero, List.getElem_cons_succ, Act.put, List.setIfInBounds_toArray, List.set_cons_zero, List.set_cons_succ]
  refine g_store 8 7 _ (.cells #[.int .u64 rt0, .int .u64 rt1, .int .u64 rt2, .int .u64 rt3, .int .u64 rt4] 26) g8 (.cells #[.int .u64 0, .int .u64 0, .int .u64 0, .int .u64 0, .int .u64 0] 26) (fun k => decide (8 ≤ k ∧ k ≤ 8) && k != 8) rfl rfl rfl rfl ?_ (by kernel_rfl) (by kernel_rfl) (by kernel_rfl) (by kernel_rfl) (by simp [upd]) ?_ ?_
  · intro j hj
    simp only [Bool.and_eq_true, decide_eq_true_eq, bne_iff_ne] at hj
    rcases (show j = 8 by omega) with rfl <;> first | exact ⟨_, _, rfl, by decide⟩ | omega
  · exact stores_whole 26 _ _ rfl g8 [.int .u64 rt0, .int .u64 rt1, .int .u64 rt2, .int .u64 rt3, .int .u64 rt4] [.int .u64 0, .int .u64 0, .int .u64 0, .int .u64 0, .int .u64 0] rfl rfl rfl (by kernel_rfl) (by kernel_rfl)
  try simp only [List.getElem_toArray, List.getElem_cons_zero, List.getElem_cons_succ, Act.put, List.setIfInBounds_toArray, List.set_cons_zero, List.set_cons_succ]
  refine ⟨by kernel_rfl, fun w3 hV => ?_⟩
  have own8 := hV.own 7 _ (by simp [upd]; rfl)
  have B8_3 : Hid (At 26 w3 g8 [.int .u64 rt0, .int .u64 rt1, .int .u64 rt2, .int .u64 rt3, .int .u64 rt4]) := own8.2.2
  have szB8 : w.heap.size ≤ g8 := by have h1 := own8.1; have h2 := G_2.out.size; dsimp only at h1; omega
  have nlB2B8 : w.heap.size < g8 := by have h1 := own8.1; have h2 := B2_2.out.lt; dsimp only at h1; omega
  have nlB3B8 : (w.heap.size + 1) < g8 := by have h1 := own8.1; have h2 := B3_2.out.lt; dsimp only at h1; omega
  have nlB4B8 : (w.heap.size + 1 + 1) < g8 := by have h1 := own8.1; have h2 := B4_2.out.lt; dsimp only at h1; omega
  have nlB6B8 : g6 < g8 := by have h1 := own8.1; have h2 := B6_2.out.lt; dsimp only at h1; omega
  have nlB7B8 : g7 < g8 := by have h1 := own8.1; have h2 := B7_2.out.lt; dsimp only at h1; omega
  have g := hV.bel
  have B2_3 := hid (B2_2.out.below g)
  have B3_3 := hid (B3_2.out.below g)
  have B4_3 := hid (B4_2.out.below g)
  have B6_3 := hid (B6_2.out.below g)
  have B7_3 := hid (B7_2.out.below g)
  have D_3 := hid (D_2.out.grown g)
  have Z_3 := hid (Z_2.out.grown g)
  have G_3 := hid (G_2.out.trans (g.mono G_2.out.size))
  clear hV g own8 B2_2 B3_2 B4_2 B6_2 B7_2 D_2 Z_2 G_2
  go_wp2_with fail
  have D_3' := hid (D_3.out.grown (Below.refl _ w3).drew)
  have Z_3' := hid (Z_3.out.grown (Below.refl _ w3).drew)
  have K3 : At 26 w3.drew g7 [.int .u64 sy0, .int .u64 sy1, .int .u64 sy2, .int .u64 sy3, .int .u64 sy4] ∧ At 26 w3.drew g6 [.int .u64 sx0, .int .u64 sx1, .int .u64 sx2, .int .u64 sx3, .int .u64 sx4] ∧ At 26 w3.drew g8 [.int .u64 rt0, .int .u64 rt1, .int .u64 rt2, .int .u64 rt3, .int .u64 rt4] := And.intro B7_3.out.drew (And.intro B6_3.out.drew (B8_3.out.drew))
  refine wp_region_held_drew (S := fun w' => At 26 w' g7 [.int .u64 sy0, .int .u64 sy1, .int .u64 sy2, .int .u64 sy3, .int .u64 sy4] ∧ At 26 w' g6 [.int .u64 sx0, .int .u64 sx1, .int .u64 sx2, .int .u64 sx3, .int .u64 sx4] ∧ At 26 w' g8 [.int .u64 rt0, .int .u64 rt1, .int .u64 rt2, .int .u64 rt3, .int .u64 rt4]) (by kernel_rfl) K3 (fun hHeld => ?_)
  clear K3
  refine h_take 0 (v := .agg #[.int .u64 sy0, .int .u64 sy1, .int .u64 sy2, .int .u64 sy3, .int .u64 sy4]) rfl (by kernel_rfl) (by kernel_rfl) (by kernel_rfl) (fun _ _ _ h => h) (by rfl) ?hyr2_0 (by assumption) ?_
  case hyr2_0 =>
    intro w' hSw
    exact load_run 26 _ rfl _ 0 rfl _ _ (at_mid hSw.1 0 _ rfl) Tryd.underlying26 rfl (by kernel_rfl)
  try simp only [Act.put, List.setIfInBounds_toArray, List.set_cons_zero, List.set_cons_succ]
  refine h_take 1 (v := .agg #[.int .u64 sx0, .int .u64 sx1, .int .u64 sx2, .int .u64 sx3, .int .u64 sx4]) rfl (by kernel_rfl) (by kernel_rfl) (by kernel_rfl) (fun _ _ _ h => h) (by rfl) ?hyr2_1 (by assumption) ?_
  case hyr2_1 =>
    intro w' hSw
    exact load_run 26 _ rfl _ 0 rfl _ _ (at_mid hSw.2.1 0 _ rfl) Tryd.underlying26 rfl (by kernel_rfl)
  try simp only [Act.put, List.setIfInBounds_toArray, List.set_cons_zero, List.set_cons_succ]
  refine h_take 3 (v := .agg #[.int .u64 rt0, .int .u64 rt1, .int .u64 rt2, .int .u64 rt3, .int .u64 rt4]) rfl (by kernel_rfl) (by kernel_rfl) (by kernel_rfl) (fun _ _ _ h => h) (by rfl) ?hyr2_3 (by assumption) ?_
  case hyr2_3 =>
    intro w' hSw
    exact load_run 26 _ rfl _ 0 rfl _ _ (at_mid hSw.2.2 0 _ rfl) Tryd.underlying26 rfl (by kernel_rfl)
  try simp only [Act.put, List.setIfInBounds_toArray, List.set_cons_zero, List.set_cons_succ]
  refine h_call 2 rfl (by kernel_rfl) (by rfl) (fun Kk hK => ?_)
  go_simp
  (refine (Q7.out _ Z_3'.out).mono ?_)
  rintro e w4 ⟨rfl, g0⟩
  have g : Below w3.heap.size w3 w4 := (Below.refl _ w3).drew.trans g0
  clear g0
  have B2_4 := hid (B2_3.out.below g)
  have B3_4 := hid (B3_3.out.below g)
  have B4_4 := hid (B4_3.out.below g)
  have B6_4 := hid (B6_3.out.below g)
  have B7_4 := hid (B7_3.out.below g)
  have B8_4 := hid (B8_3.out.below g)
  have D_4 := hid (D_3.out.grown g)
  have Z_4 := hid (Z_3.out.grown g)
  have G_4 := hid (G_3.out.trans (g.mono G_3.out.size))
  clear g B2_3 B3_3 B4_3 B6_3 B7_3 B8_3 D_3 Z_3 G_3
  clear D_3' Z_3'
  have K4 := And.intro B7_4.out (And.intro B6_4.out (B8_4.out))
  go_wp2_with fail
  clear hHeld
  refine hK.out _ _ K4 (fun hHeld => ?_)
  clear hK Kk K4
  try simp only [Act.put, List.setIfInBounds_toArray, List.set_cons_zero, List.set_cons_succ]
  refine h_call 4 rfl (by kernel_rfl) (by rfl) (fun Kk hK => ?_)
  go_simp
  (refine (Q8.out _).mono ?_)
  rintro e w5 ⟨rfl, g0⟩
  have g := g0
  clear g0
  have B2_5 := hid (B2_4.out.below g)
  have B3_5 := hid (B3_4.out.below g)
  have B4_5 := hid (B4_4.out.below g)
  have B6_5 := hid (B6_4.out.below g)
  have B7_5 := hid (B7_4.out.below g)
  have B8_5 := hid (B8_4.out.below g)
  have D_5 := hid (D_4.out.grown g)
  have Z_5 := hid (Z_4.out.grown g)
  have G_5 := hid (G_4.out.trans (g.mono G_4.out.size))
  clear g B2_4 B3_4 B4_4 B6_4 B7_4 B8_4 D_4 Z_4 G_4
  have K5 := And.intro B7_5.out (And.intro B6_5.out (B8_5.out))
  go_wp2_with fail
  clear hHeld
  refine hK.out _ _ K5 (fun hHeld => ?_)
  clear hK Kk K5
  try simp only [Act.put, List.setIfInBounds_toArray, List.set_cons_zero, List.set_cons_succ]
  refine h_take 5 (v := .bool true) rfl (by kernel_rfl) (by kernel_rfl) (by kernel_rfl) (fun _ _ _ h => h) (by rfl) ?hyr2_5 (by assumption) ?_
  case hyr2_5 =>
    intro w' hSw
    clear hSw
    go_simp
  try simp only [Act.put, List.setIfInBounds_toArray, List.set_cons_zero, List.set_cons_succ]
  refine wpAnyH_done (by kernel_rfl) ?_ _
  clear hHeld
  go_wp2_with (first | (refine list_store_whole rfl 30 _ _ rfl (w.heap.size + 1 + 1) [.int .u64 0, .int .u64 0, .int .u64 0, .int .u64 0, .int .u64 0, .int .u64 0, .int .u64 0, .int .u64 0, .int .u64 0, .int .u64 0, .int .u64 0, .int .u64 0, .int .u64 0, .int .u64 0, .int .u64 0, .int .u64 0, .int .u64 0, .int .u64 0, .int .u64 0, .int .u64 0] _ rfl rfl B4_5.out rfl (by kernel_rfl) (by kernel_rfl) w.heap.size w G_5.out (by omega) (fun F hC hB => ?_)) | fail)
  exact bodyPost_ret (v := .tuple #[.agg #[.int .u64 0, .int .u64 0, .int .u64 0, .int .u64 0, .int .u64 0, .int .u64 0, .int .u64 0, .int .u64 0, .int .u64 0, .int .u64 0, .int .u64 0, .int .u64 0, .int .u64 0, .int .u64 0, .int .u64 0, .int .u64 0, .int .u64 0, .int .u64 0, .int .u64 0, .int .u64 0], .bool false]) (results_cs (Tryd.results12) _ F (w.heap.size + 1 + 1) 0 [.int .u64 0, .int .u64 0, .int .u64 0, .int .u64 0, .int .u64 0, .int .u64 0, .int .u64 0, .int .u64 0, .int .u64 0, .int .u64 0, .int .u64 0, .int .u64 0, .int .u64 0, .int .u64 0, .int .u64 0, .int .u64 0, .int .u64 0, .int .u64 0, .int .u64 0, .int .u64 0] _ _ rfl rfl hC.range Tryd.underlying30 rfl (by kernel_rfl)) rfl ⟨rfl, hB⟩
end Go.Proofs.YtkbiiolkekpkiaaDoor.Ed

/-
  The contract of the program's From of layer 10. Conditions: as each theorem says.
-/
namespace Go.Proofs.YtkbiiolkekpkiaaDoor.Ed
open Go.RowKit
set_option linter.unusedVariables false
set_option linter.unusedSimpArgs false

/-- Whether a pair is a point. -/
theorem from_sum (x y : L5) (tx : x.Tm) (ty : y.Tm) : ∃ sx sy m dm rt df : L5, df.Tm ∧ rt.Tm ∧ (kx df = kx rt ↔ On dd (kx x) (kx y)) ∧ (∀ (b : Bool) (c : P4) (r : Value), True) ∧
    (∀ w : World, Calls Tryd.prog 51 #[.agg #[.int .u64 x.l0, .int .u64 x.l1, .int .u64 x.l2, .int .u64 x.l3, .int .u64 x.l4], .int .i64 1] w fun e w' => e = .returned (.agg #[.int .u64 sx.l0, .int .u64 sx.l1, .int .u64 sx.l2, .int .u64 sx.l3, .int .u64 sx.l4]) ∧ Below w.heap.size w w') ∧ (∀ w : World, Calls Tryd.prog 51 #[.agg #[.int .u64 y.l0, .int .u64 y.l1, .int .u64 y.l2, .int .u64 y.l3, .int .u64 y.l4], .int .i64 1] w fun e w' => e = .returned (.agg #[.int .u64 sy.l0, .int .u64 sy.l1, .int .u64 sy.l2, .int .u64 sy.l3, .int .u64 sy.l4]) ∧ Below w.heap.size w w') ∧ (∀ w : World, Calls Tryd.prog 49 #[.agg #[.int .u64 sx.l0, .int .u64 sx.l1, .int .u64 sx.l2, .int .u64 sx.l3, .int .u64 sx.l4], .agg #[.int .u64 sy.l0, .int .u64 sy.l1, .int .u64 sy.l2, .int .u64 sy.l3, .int .u64 sy.l4]] w fun e w' => e = .returned (.agg #[.int .u64 m.l0, .int .u64 m.l1, .int .u64 m.l2, .int .u64 m.l3, .int .u64 m.l4]) ∧ Below w.heap.size w w') ∧ (∀ w : World, Calls Tryd.prog 49 #[.agg #[.int .u64 d_.l0, .int .u64 d_.l1, .int .u64 d_.l2, .int .u64 d_.l3, .int .u64 d_.l4], .agg #[.int .u64 m.l0, .int .u64 m.l1, .int .u64 m.l2, .int .u64 m.l3, .int .u64 m.l4]] w fun e w' => e = .returned (.agg #[.int .u64 dm.l0, .int .u64 dm.l1, .int .u64 dm.l2, .int .u64 dm.l3, .int .u64 dm.l4]) ∧ Below w.heap.size w w') ∧ (∀ w : World, Calls Tryd.prog 52 #[.agg #[.int .u64 1, .int .u64 0, .int .u64 0, .int .u64 0, .int .u64 0], .agg #[.int .u64 dm.l0, .int .u64 dm.l1, .int .u64 dm.l2, .int .u64 dm.l3, .int .u64 dm.l4]] w fun e w' => e = .returned (.agg #[.int .u64 rt.l0, .int .u64 rt.l1, .int .u64 rt.l2, .int .u64 rt.l3, .int .u64 rt.l4]) ∧ Below w.heap.size w w') ∧ (∀ w : World, Gf w → Calls Tryd.prog 55 #[.agg #[.int .u64 sy.l0, .int .u64 sy.l1, .int .u64 sy.l2, .int .u64 sy.l3, .int .u64 sy.l4], .agg #[.int .u64 sx.l0, .int .u64 sx.l1, .int .u64 sx.l2, .int .u64 sx.l3, .int .u64 sx.l4]] w fun e w' => e = .returned (.agg #[.int .u64 df.l0, .int .u64 df.l1, .int .u64 df.l2, .int .u64 df.l3, .int .u64 df.l4]) ∧ Below w.heap.size w w') := by
  obtain ⟨sx, t1, k1, q1⟩ := square_one x tx
  obtain ⟨sy, t2, k2, q2⟩ := square_one y ty
  obtain ⟨m, t3, e3, q3⟩ := mul_fe sx sy t1 t2
  obtain ⟨dm, t4, e4, q4⟩ := mul_fe d_ m d_tm t3
  obtain ⟨rt, t5, e5, q5⟩ := add_fe ⟨1, 0, 0, 0, 0⟩ dm one_tm t4
  obtain ⟨df, t6, e6, q6⟩ := sub_ff sy sx t2 t1
  refine ⟨sx, sy, m, dm, rt, df, t6, t5, ?_, fun _ _ _ => trivial, q1, q2, q3, q4, q5, q6⟩
  rw [kx_sub _ _ _ e6, kx_add _ _ _ e5, kx_mul _ _ _ e4, kx_mul _ _ _ e3, k1, k2, d_k, kx_one, ← assoc_k]
  exact Iff.rfl
theorem from_yes_p (x y : L5) (tx : x.Tm) (ty : y.Tm) (hon : On dd (kx x) (kx y)) : ∃ c : P4, c.Is ⟨kx x, kx y, hon⟩ ∧ ∀ w : World, Gd w → Gf w → Calls Tryd.prog 12 #[.agg #[.int .u64 x.l0, .int .u64 x.l1, .int .u64 x.l2, .int .u64 x.l3, .int .u64 x.l4], .agg #[.int .u64 y.l0, .int .u64 y.l1, .int .u64 y.l2, .int .u64 y.l3, .int .u64 y.l4]] w fun e w' => e = .returned (.tuple #[.agg #[.int .u64 c.x.l0, .int .u64 c.x.l1, .int .u64 c.x.l2, .int .u64 c.x.l3, .int .u64 c.x.l4, .int .u64 c.y.l0, .int .u64 c.y.l1, .int .u64 c.y.l2, .int .u64 c.y.l3, .int .u64 c.y.l4, .int .u64 c.z.l0, .int .u64 c.z.l1, .int .u64 c.z.l2, .int .u64 c.z.l3, .int .u64 c.z.l4, .int .u64 c.t.l0, .int .u64 c.t.l1, .int .u64 c.t.l2, .int .u64 c.t.l3, .int .u64 c.t.l4], .bool true]) ∧ Below w.heap.size w w' := by
  obtain ⟨sx, sy, m, dm, rt, df, td, tr, hk, -, q1, q2, q4, q5, q6, q7⟩ := from_sum x y tx ty
  obtain ⟨c, hc, qc⟩ := of_is x y tx ty ⟨kx x, kx y, hon⟩ rfl rfl
  exact ⟨c, hc, fun w hD hZ => from_yes_w x y sx sy m dm rt df c.x c.y c.z c.t q1 q2 (fun w => small_fe 1 (by omega) w) q4 q5 q6 q7 (fun w => same_fe df rt td tr true (by rw [decide_eq_true ((kx_num df rt).2 (hk.2 hon))]) w) qc w hD hZ⟩
theorem from_no_p (x y : L5) (tx : x.Tm) (ty : y.Tm) (hon : ¬ On dd (kx x) (kx y)) : ∀ w : World, Gd w → Gf w → Calls Tryd.prog 12 #[.agg #[.int .u64 x.l0, .int .u64 x.l1, .int .u64 x.l2, .int .u64 x.l3, .int .u64 x.l4], .agg #[.int .u64 y.l0, .int .u64 y.l1, .int .u64 y.l2, .int .u64 y.l3, .int .u64 y.l4]] w fun e w' => e = .returned (.tuple #[.agg #[.int .u64 0, .int .u64 0, .int .u64 0, .int .u64 0, .int .u64 0, .int .u64 0, .int .u64 0, .int .u64 0, .int .u64 0, .int .u64 0, .int .u64 0, .int .u64 0, .int .u64 0, .int .u64 0, .int .u64 0, .int .u64 0, .int .u64 0, .int .u64 0, .int .u64 0, .int .u64 0], .bool false]) ∧ Below w.heap.size w w' := by
  obtain ⟨sx, sy, m, dm, rt, df, td, tr, hk, -, q1, q2, q4, q5, q6, q7⟩ := from_sum x y tx ty
  exact fun w hD hZ => from_no_w x y sx sy m dm rt df q1 q2 (fun w => small_fe 1 (by omega) w) q4 q5 q6 q7 (fun w => same_fe df rt td tr false (by rw [decide_eq_false (fun h => hon (hk.1 ((kx_num df rt).1 h)))]) w) w hD hZ
end Go.Proofs.YtkbiiolkekpkiaaDoor.Ed

/-
  Loads that a guard asks for; one number of the document as a slice just made. Conditions: as each theorem says.
-/
namespace Go.Proofs.YtkbiiolkekpkiaaDoor.Ed
open Go.RowKit
set_option linter.unusedVariables false
set_option linter.unusedSimpArgs false

theorem list_load_want {ops : Array Oper} {rest : List Oper} {op : Oper} {a : Act} {w : World} {Q : Exit → Act → World → Prop} (hw : Region.wanted op (yielded ops a.tmps) = true) (ty : TypeId) (x : Operand) (ho : op.op = .load ty x)
    (b o : Nat) (hx : a.eval x = .pointer (some ⟨b, o, none⟩)) (cs : List Value) (d : TypeDesc) (hc : w.rangeAt b o cs)
    (hu : Tryd.prog.underlying ty = some d) (hd : d.isRow = true) (hi : (Tryd.prog.info? ty).map (·.size) = some cs.length)
    (h : wpList Tryd.prog ops Q rest (a.put op.dst (.agg cs.toArray)) w) : wpList Tryd.prog ops Q (op :: rest) a w :=
  BigFrame.wpList_want hw fun _ hK => wp_load_mid ty x ho b o hx cs d hc hu hd hi (hK _ _ h)
/-- A pair of the document's numbers as a point. -/
theorem pm_pair (w : World) (u v : Value) (X Y : Nat) (P : Pt) (hu : Num w u X) (hv : Num w v Y) (hx : X = P.x.val) (hy : Y = P.y.val) :
    Pm (w.alloc (.cells #[.int .i64 1] 3)) (.agg #[u, v, .slice (some ⟨w.heap.size, 0, none⟩) 1 1, .bool true]) P := by
  have g : Below w.heap.size w (w.alloc (.cells #[.int .i64 1] 3)) := (Below.refl _ _).alloc (Nat.le_refl _) _
  exact ⟨u, v, _, X, Y, 1, rfl, hu.below g, hv.below g, num_lit w 1 (by omega) (by omega), rp_one X Y P hx hy⟩
end Go.Proofs.YtkbiiolkekpkiaaDoor.Ed
