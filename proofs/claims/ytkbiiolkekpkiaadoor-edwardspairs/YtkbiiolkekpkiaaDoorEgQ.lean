/-
  The law EdwardsPairs of layer 10: the walk, given what each call answers. Conditions: as each theorem says.
-/
import Derived.Test.YtkbiiolkekpkiaaDoorEgS
import Derived.Test.YtkbiiolkekpkiaaDoorEgK
namespace Go.Proofs.YtkbiiolkekpkiaaDoor.Ed
open Go.RowKit
set_option linter.unusedVariables false
set_option linter.unusedSimpArgs false

set_option maxRecDepth 100000 in
set_option maxHeartbeats 16000000 in
theorem pairs_wild_w (xa ya : L5) (hT : Hid (¬ (¬ 4503599627370496 ≤ xa.l0 ∧ ¬ 4503599627370496 ≤ ya.l0 ∧ ¬ 4503599627370496 ≤ xa.l1 ∧ ¬ 4503599627370496 ≤ ya.l1 ∧ ¬ 4503599627370496 ≤ xa.l2 ∧ ¬ 4503599627370496 ≤ ya.l2 ∧ ¬ 4503599627370496 ≤ xa.l3 ∧ ¬ 4503599627370496 ≤ ya.l3 ∧ ¬ 4503599627370496 ≤ xa.l4 ∧ ¬ 4503599627370496 ≤ ya.l4)))
    (Q1 : Hid (∀ w : World, GbaseX w → GbaseY w → Calls Tryd.prog 7 #[] w fun e w' => e = .returned (.bool true) ∧ Below w.heap.size w w'))
    (w : World) (D_0 : Hid (Gd w)) (U_0 : Hid (GbaseX w)) (V_0 : Hid (GbaseY w)) (Z_0 : Hid (Gf w)) :
    Calls Tryd.prog 4 #[.agg #[.int .u64 xa.l0, .int .u64 xa.l1, .int .u64 xa.l2, .int .u64 xa.l3, .int .u64 xa.l4], .agg #[.int .u64 ya.l0, .int .u64 ya.l1, .int .u64 ya.l2, .int .u64 ya.l3, .int .u64 ya.l4]] w fun e w' => e = .returned (.bool true) ∧ Below w.heap.size w w' := by
  obtain ⟨xa0, xa1, xa2, xa3, xa4⟩ := xa
  obtain ⟨ya0, ya1, ya2, ya3, ya4⟩ := ya
  dsimp only at Q1 hT ⊢
  go_enter Tryd.func4, Tryd.ntmps4
  go_upto_region 1 with fail
  have HD := D_0.out.lt
  have HU := U_0.out.lt
  have HV := V_0.out.lt
  have HZ := Z_0.out.lt
  refine wp_cut (fun V => At 26 V w.heap.size [.int .u64 xa0, .int .u64 xa1, .int .u64 xa2, .int .u64 xa3, .int .u64 xa4] ∧ At 26 V (w.heap.size + 1) [.int .u64 ya0, .int .u64 ya1, .int .u64 ya2, .int .u64 ya3, .int .u64 ya4] ∧ Gd V ∧ GbaseX V ∧ GbaseY V ∧ Gf V ∧ Below w.heap.size w V) ⟨?_, ?_, ?_, ?_, ?_, ?_, ?_⟩ ?_
  · (repeat (first | refine At.drew ?_ | refine At.drewN ?_ _ | (refine at_new2 _ _ _ _ ?_; simp; done) | refine at_alloc ?_ _))
  · (repeat (first | refine At.drew ?_ | refine At.drewN ?_ _ | (refine at_new2 _ _ _ _ ?_; simp; done) | refine at_alloc ?_ _))
  · refine D_0.out.grown ?_
    (repeat (first | exact Below.refl _ _ | refine Below.drew ?_ | refine below_drewN ?_ _ | refine Below.alloc ?_ (by simp <;> omega) _))
  · refine U_0.out.grown ?_
    (repeat (first | exact Below.refl _ _ | refine Below.drew ?_ | refine below_drewN ?_ _ | refine Below.alloc ?_ (by simp <;> omega) _))
  · refine V_0.out.grown ?_
    (repeat (first | exact Below.refl _ _ | refine Below.drew ?_ | refine below_drewN ?_ _ | refine Below.alloc ?_ (by simp <;> omega) _))
  · refine Z_0.out.grown ?_
    (repeat (first | exact Below.refl _ _ | refine Below.drew ?_ | refine below_drewN ?_ _ | refine Below.alloc ?_ (by simp <;> omega) _))
  · (repeat (first | exact Below.refl _ _ | refine Below.drew ?_ | refine below_drewN ?_ _ | refine Below.alloc ?_ (by simp <;> omega) _))
  rintro w1 ⟨k0, k1, k2, k3, k4, k5, k6⟩
  have B2_1 := hid k0
  have B3_1 := hid k1
  have D_1 := hid k2
  have U_1 := hid k3
  have V_1 := hid k4
  have Z_1 := hid k5
  have G_1 := hid k6
  clear k0 k1 k2 k3 k4 k5 k6 D_0 U_0 V_0 Z_0
  go_wp2_with (fail)
  refine (Q1.out _ U_1.out V_1.out).mono ?_
  rintro e w2 ⟨rfl, g0⟩
  have g := g0
  clear g0
  have B2_2 := hid (B2_1.out.below g)
  have B3_2 := hid (B3_1.out.below g)
  have D_2 := hid (D_1.out.grown g)
  have U_2 := hid (U_1.out.grown g)
  have V_2 := hid (V_1.out.grown g)
  have Z_2 := hid (Z_1.out.grown g)
  have G_2 := hid (G_1.out.trans (g.mono G_1.out.size))
  clear g B2_1 B3_1 D_1 U_1 V_1 Z_1 G_1
  have cB20 := B2_2.out.cell 0
  have cB21 := B2_2.out.cell 1
  have cB22 := B2_2.out.cell 2
  have cB23 := B2_2.out.cell 3
  have cB24 := B2_2.out.cell 4
  simp only [List.getElem?_cons_zero, List.getElem?_cons_succ] at cB20 cB21 cB22 cB23 cB24
  have cB30 := B3_2.out.cell 0
  have cB31 := B3_2.out.cell 1
  have cB32 := B3_2.out.cell 2
  have cB33 := B3_2.out.cell 3
  have cB34 := B3_2.out.cell 4
  simp only [List.getElem?_cons_zero, List.getElem?_cons_succ] at cB30 cB31 cB32 cB33 cB34
  go_wp2_with fail
  refine wp_unr 6 ?_
  refine unr_succ ?_
  by_cases kx0 : 4503599627370496 ≤ xa0
  case pos =>
    go_wp2_with fail
    go_ret
    exact ⟨rfl, G_2.out⟩
  by_cases ky0 : 4503599627370496 ≤ ya0
  case pos =>
    go_wp2_with fail
    go_ret
    exact ⟨rfl, G_2.out⟩
  go_wp2_with fail
  refine unr_succ ?_
  by_cases kx1 : 4503599627370496 ≤ xa1
  case pos =>
    go_wp2_with fail
    go_ret
    exact ⟨rfl, G_2.out⟩
  by_cases ky1 : 4503599627370496 ≤ ya1
  case pos =>
    go_wp2_with fail
    go_ret
    exact ⟨rfl, G_2.out⟩
  go_wp2_with fail
  refine unr_succ ?_
  by_cases kx2 : 4503599627370496 ≤ xa2
  case pos =>
    go_wp2_with fail
    go_ret
    exact ⟨rfl, G_2.out⟩
  by_cases ky2 : 4503599627370496 ≤ ya2
  case pos =>
    go_wp2_with fail
    go_ret
    exact ⟨rfl, G_2.out⟩
  go_wp2_with fail
  refine unr_succ ?_
  by_cases kx3 : 4503599627370496 ≤ xa3
  case pos =>
    go_wp2_with fail
    go_ret
    exact ⟨rfl, G_2.out⟩
  by_cases ky3 : 4503599627370496 ≤ ya3
  case pos =>
    go_wp2_with fail
    go_ret
    exact ⟨rfl, G_2.out⟩
  go_wp2_with fail
  refine unr_succ ?_
  by_cases kx4 : 4503599627370496 ≤ xa4
  case pos =>
    go_wp2_with fail
    go_ret
    exact ⟨rfl, G_2.out⟩
  by_cases ky4 : 4503599627370496 ≤ ya4
  case pos =>
    go_wp2_with fail
    go_ret
    exact ⟨rfl, G_2.out⟩
  go_wp2_with fail
  exfalso
  have ht := hT.out
  omega
set_option maxRecDepth 100000 in
set_option maxHeartbeats 16000000 in
theorem pairs_true_w (pc : List Value) (pc_h : Pl pc) (xa ya : L5) (X Y : Nat) (hT : Hid (¬ 4503599627370496 ≤ xa.l0 ∧ ¬ 4503599627370496 ≤ ya.l0 ∧ ¬ 4503599627370496 ≤ xa.l1 ∧ ¬ 4503599627370496 ≤ ya.l1 ∧ ¬ 4503599627370496 ≤ xa.l2 ∧ ¬ 4503599627370496 ≤ ya.l2 ∧ ¬ 4503599627370496 ≤ xa.l3 ∧ ¬ 4503599627370496 ≤ ya.l3 ∧ ¬ 4503599627370496 ≤ xa.l4 ∧ ¬ 4503599627370496 ≤ ya.l4)) (P : Pt) (hX : Hid (X = P.x.val)) (hY : Hid (Y = P.y.val)) (QI : Hid (∀ (u : Value) (w : World), Pm w u P → Calls Tryd.prog 19 #[.agg pc.toArray, u] w fun e w' => e = .returned (.bool true) ∧ Below w.heap.size w w'))
    (Q1 : Hid (∀ w : World, GbaseX w → GbaseY w → Calls Tryd.prog 7 #[] w fun e w' => e = .returned (.bool true) ∧ Below w.heap.size w w'))
    (Q2 : Hid (∀ w : World, Gd w → Gf w → Calls Tryd.prog 12 #[.agg #[.int .u64 xa.l0, .int .u64 xa.l1, .int .u64 xa.l2, .int .u64 xa.l3, .int .u64 xa.l4], .agg #[.int .u64 ya.l0, .int .u64 ya.l1, .int .u64 ya.l2, .int .u64 ya.l3, .int .u64 ya.l4]] w fun e w' => e = .returned (.tuple #[.agg pc.toArray, .bool true]) ∧ Below w.heap.size w w'))
    (Q3 : Hid (∀ w : World, Calls Tryd.prog 16 #[.agg #[.int .u64 xa.l0, .int .u64 xa.l1, .int .u64 xa.l2, .int .u64 xa.l3, .int .u64 xa.l4]] w fun e w' => ∃ v, e = .returned v ∧ Num w' v X ∧ Below w.heap.size w w'))
    (Q4 : Hid (∀ w : World, Calls Tryd.prog 16 #[.agg #[.int .u64 ya.l0, .int .u64 ya.l1, .int .u64 ya.l2, .int .u64 ya.l3, .int .u64 ya.l4]] w fun e w' => ∃ v, e = .returned v ∧ Num w' v Y ∧ Below w.heap.size w w'))
    (Q5 : Hid (∀ (v v' : Value) (w : World), Num w v X → Num w v' Y → Calls Tryd.prog 18 #[v, v'] w fun e w' => e = .returned (.bool true) ∧ Below w.heap.size w w'))
    (w : World) (D_0 : Hid (Gd w)) (U_0 : Hid (GbaseX w)) (V_0 : Hid (GbaseY w)) (Z_0 : Hid (Gf w)) :
    Calls Tryd.prog 4 #[.agg #[.int .u64 xa.l0, .int .u64 xa.l1, .int .u64 xa.l2, .int .u64 xa.l3, .int .u64 xa.l4], .agg #[.int .u64 ya.l0, .int .u64 ya.l1, .int .u64 ya.l2, .int .u64 ya.l3, .int .u64 ya.l4]] w fun e w' => e = .returned (.bool true) ∧ Below w.heap.size w w' := by
  obtain ⟨xa0, xa1, xa2, xa3, xa4⟩ := xa
  obtain ⟨ya0, ya1, ya2, ya3, ya4⟩ := ya
  dsimp only at Q1 Q2 Q3 Q4 Q5 hT ⊢
  go_enter Tryd.func4, Tryd.ntmps4
  go_upto_region 1 with fail
  have HD := D_0.out.lt
  have HU := U_0.out.lt
  have HV := V_0.out.lt
  have HZ := Z_0.out.lt
  refine wp_cut (fun V => At 26 V w.heap.size [.int .u64 xa0, .int .u64 xa1, .int .u64 xa2, .int .u64 xa3, .int .u64 xa4] ∧ At 26 V (w.heap.size + 1) [.int .u64 ya0, .int .u64 ya1, .int .u64 ya2, .int .u64 ya3, .int .u64 ya4] ∧ Gd V ∧ GbaseX V ∧ GbaseY V ∧ Gf V ∧ Below w.heap.size w V) ⟨?_, ?_, ?_, ?_, ?_, ?_, ?_⟩ ?_
  · (repeat (first | refine At.drew ?_ | refine At.drewN ?_ _ | (refine at_new2 _ _ _ _ ?_; simp; done) | refine at_alloc ?_ _))
  · (repeat (first | refine At.drew ?_ | refine At.drewN ?_ _ | (refine at_new2 _ _ _ _ ?_; simp; done) | refine at_alloc ?_ _))
  · refine D_0.out.grown ?_
    (repeat (first | exact Below.refl _ _ | refine Below.drew ?_ | refine below_drewN ?_ _ | refine Below.alloc ?_ (by simp <;> omega) _))
  · refine U_0.out.grown ?_
    (repeat (first | exact Below.refl _ _ | refine Below.drew ?_ | refine below_drewN ?_ _ | refine Below.alloc ?_ (by simp <;> omega) _))
  · refine V_0.out.grown ?_
    (repeat (first | exact Below.refl _ _ | refine Below.drew ?_ | refine below_drewN ?_ _ | refine Below.alloc ?_ (by simp <;> omega) _))
  · refine Z_0.out.grown ?_
    (repeat (first | exact Below.refl _ _ | refine Below.drew ?_ | refine below_drewN ?_ _ | refine Below.alloc ?_ (by simp <;> omega) _))
  · (repeat (first | exact Below.refl _ _ | refine Below.drew ?_ | refine below_drewN ?_ _ | refine Below.alloc ?_ (by simp <;> omega) _))
  rintro w1 ⟨k0, k1, k2, k3, k4, k5, k6⟩
  have B2_1 := hid k0
  have B3_1 := hid k1
  have D_1 := hid k2
  have U_1 := hid k3
  have V_1 := hid k4
  have Z_1 := hid k5
  have G_1 := hid k6
  clear k0 k1 k2 k3 k4 k5 k6 D_0 U_0 V_0 Z_0
  go_wp2_with (fail)
  refine (Q1.out _ U_1.out V_1.out).mono ?_
  rintro e w2 ⟨rfl, g0⟩
  have g := g0
  clear g0
  have B2_2 := hid (B2_1.out.below g)
  have B3_2 := hid (B3_1.out.below g)
  have D_2 := hid (D_1.out.grown g)
  have U_2 := hid (U_1.out.grown g)
  have V_2 := hid (V_1.out.grown g)
  have Z_2 := hid (Z_1.out.grown g)
  have G_2 := hid (G_1.out.trans (g.mono G_1.out.size))
  clear g B2_1 B3_1 D_1 U_1 V_1 Z_1 G_1
  have cB20 := B2_2.out.cell 0
  have cB21 := B2_2.out.cell 1
  have cB22 := B2_2.out.cell 2
  have cB23 := B2_2.out.cell 3
  have cB24 := B2_2.out.cell 4
  simp only [List.getElem?_cons_zero, List.getElem?_cons_succ] at cB20 cB21 cB22 cB23 cB24
  have cB30 := B3_2.out.cell 0
  have cB31 := B3_2.out.cell 1
  have cB32 := B3_2.out.cell 2
  have cB33 := B3_2.out.cell 3
  have cB34 := B3_2.out.cell 4
  simp only [List.getElem?_cons_zero, List.getElem?_cons_succ] at cB30 cB31 cB32 cB33 cB34
  have t0 := hT.out
  obtain ⟨kx0, ky0, kx1, ky1, kx2, ky2, kx3, ky3, kx4, ky4⟩ := t0
  go_wp2_with fail
  refine wp_unr 6 ?_
  refine unr_succ ?_
  go_wp2_with fail
  refine unr_succ ?_
  go_wp2_with fail
  refine unr_succ ?_
  go_wp2_with fail
  refine unr_succ ?_
  go_wp2_with fail
  refine unr_succ ?_
  go_wp2_with fail
  refine unr_succ ?_
  go_wp2_with fail
  clear cB20 cB21 cB22 cB23 cB24 cB30 cB31 cB32 cB33 cB34 kx0 ky0 kx1 ky1 kx2 ky2 kx3 ky3 kx4 ky4
  refine (Q2.out _ D_2.out Z_2.out).mono ?_
  rintro e w3 ⟨rfl, g0⟩
  have g := g0
  clear g0
  have B2_3 := hid (B2_2.out.below g)
  have B3_3 := hid (B3_2.out.below g)
  have D_3 := hid (D_2.out.grown g)
  have U_3 := hid (U_2.out.grown g)
  have V_3 := hid (V_2.out.grown g)
  have Z_3 := hid (Z_2.out.grown g)
  have G_3 := hid (G_2.out.trans (g.mono G_2.out.size))
  clear g B2_2 B3_2 D_2 U_2 V_2 Z_2 G_2
  have szB6 : w.heap.size ≤ w3.heap.size := G_3.out.size
  have nlB2B6 : w.heap.size < w3.heap.size := B2_3.out.lt
  have nlB3B6 : (w.heap.size + 1) < w3.heap.size := B3_3.out.lt
  go_wp2_with (first | (refine list_store_new rfl 30 _ _ rfl w3 pc [.int .u64 0, .int .u64 0, .int .u64 0, .int .u64 0, .int .u64 0, .int .u64 0, .int .u64 0, .int .u64 0, .int .u64 0, .int .u64 0, .int .u64 0, .int .u64 0, .int .u64 0, .int .u64 0, .int .u64 0, .int .u64 0, .int .u64 0, .int .u64 0, .int .u64 0, .int .u64 0] rfl rfl pc_h.len pc_h.is pc_h.one (fun w4 hC g => ?_)) | fail)
  have B6_4 := hid hC
  have B2_4 := hid (B2_3.out.below g)
  have B3_4 := hid (B3_3.out.below g)
  have D_4 := hid (D_3.out.grown g)
  have U_4 := hid (U_3.out.grown g)
  have V_4 := hid (V_3.out.grown g)
  have Z_4 := hid (Z_3.out.grown g)
  have G_4 := hid (G_3.out.trans (g.mono G_3.out.size))
  clear hC g B2_3 B3_3 D_3 U_3 V_3 Z_3 G_3
  go_wp2_with fail
  have D_4' := hid (D_4.out.grown (Below.refl _ w4).drew)
  have U_4' := hid (U_4.out.grown (Below.refl _ w4).drew)
  have V_4' := hid (V_4.out.grown (Below.refl _ w4).drew)
  have Z_4' := hid (Z_4.out.grown (Below.refl _ w4).drew)
  have K4 : At 26 w4.drew w.heap.size [.int .u64 xa0, .int .u64 xa1, .int .u64 xa2, .int .u64 xa3, .int .u64 xa4] ∧ At 26 w4.drew (w.heap.size + 1) [.int .u64 ya0, .int .u64 ya1, .int .u64 ya2, .int .u64 ya3, .int .u64 ya4] := And.intro B2_4.out.drew (B3_4.out.drew)
  refine wp_region_held_drew (S := fun w' => At 26 w' w.heap.size [.int .u64 xa0, .int .u64 xa1, .int .u64 xa2, .int .u64 xa3, .int .u64 xa4] ∧ At 26 w' (w.heap.size + 1) [.int .u64 ya0, .int .u64 ya1, .int .u64 ya2, .int .u64 ya3, .int .u64 ya4]) (by kernel_rfl) K4 (fun hHeld => ?_)
  clear K4
  refine h_take 0 (v := .agg #[.int .u64 xa0, .int .u64 xa1, .int .u64 xa2, .int .u64 xa3, .int .u64 xa4]) rfl (by kernel_rfl) (by kernel_rfl) (by kernel_rfl) (fun _ _ _ h => h) (by rfl) ?hyr10_0 (by assumption) ?_
  case hyr10_0 =>
    intro w' hSw
    exact load_run 26 _ rfl _ 0 rfl _ _ (at_mid hSw.1 0 _ rfl) Tryd.underlying26 rfl (by kernel_rfl)
  try simp only [Act.put, List.setIfInBounds_toArray, List.set_cons_zero, List.set_cons_succ]
  refine h_take 2 (v := .agg #[.int .u64 ya0, .int .u64 ya1, .int .u64 ya2, .int .u64 ya3, .int .u64 ya4]) rfl (by kernel_rfl) (by kernel_rfl) (by kernel_rfl) (fun _ _ _ h => h) (by rfl) ?hyr10_2 (by assumption) ?_
  case hyr10_2 =>
    intro w' hSw
    exact load_run 26 _ rfl _ 0 rfl _ _ (at_mid hSw.2 0 _ rfl) Tryd.underlying26 rfl (by kernel_rfl)
  try simp only [Act.put, List.setIfInBounds_toArray, List.set_cons_zero, List.set_cons_succ]
  refine h_call 1 rfl (by kernel_rfl) (by rfl) (fun Kk hK => ?_)
  go_simp
  (refine (Q3.out _).mono ?_)
  rintro e w5 ⟨va, rfl, hna, g0⟩
  have g : Below w4.heap.size w4 w5 := (Below.refl _ w4).drew.trans g0
  clear g0
  have B2_5 := hid (B2_4.out.below g)
  have B3_5 := hid (B3_4.out.below g)
  have B6_5 := hid (B6_4.out.below g)
  have D_5 := hid (D_4.out.grown g)
  have U_5 := hid (U_4.out.grown g)
  have V_5 := hid (V_4.out.grown g)
  have Z_5 := hid (Z_4.out.grown g)
  have G_5 := hid (G_4.out.trans (g.mono G_4.out.size))
  clear g B2_4 B3_4 B6_4 D_4 U_4 V_4 Z_4 G_4
  clear D_4' U_4' V_4' Z_4'
  obtain ⟨ua, la, ca, rfl⟩ := hna.shape
  have Na_5 : Hid (Num w5 (.slice ua la ca) X) := hna
  clear hna
  have K5 := And.intro B2_5.out (B3_5.out)
  go_wp2_with fail
  clear hHeld
  refine hK.out _ _ K5 (fun hHeld => ?_)
  clear hK Kk K5
  try simp only [Act.put, List.setIfInBounds_toArray, List.set_cons_zero, List.set_cons_succ]
  refine h_call 3 rfl (by kernel_rfl) (by rfl) (fun Kk hK => ?_)
  go_simp
  (refine (Q4.out _).mono ?_)
  rintro e w6 ⟨vb, rfl, hnb, g0⟩
  have g := g0
  clear g0
  have B2_6 := hid (B2_5.out.below g)
  have B3_6 := hid (B3_5.out.below g)
  have B6_6 := hid (B6_5.out.below g)
  have Na_6 := hid (Na_5.out.below g)
  have D_6 := hid (D_5.out.grown g)
  have U_6 := hid (U_5.out.grown g)
  have V_6 := hid (V_5.out.grown g)
  have Z_6 := hid (Z_5.out.grown g)
  have G_6 := hid (G_5.out.trans (g.mono G_5.out.size))
  clear g B2_5 B3_5 B6_5 Na_5 D_5 U_5 V_5 Z_5 G_5
  obtain ⟨ub, lb, cb, rfl⟩ := hnb.shape
  have Nb_6 : Hid (Num w6 (.slice ub lb cb) Y) := hnb
  clear hnb
  have K6 := And.intro B2_6.out (B3_6.out)
  go_wp2_with fail
  clear hHeld
  refine hK.out _ _ K6 (fun hHeld => ?_)
  clear hK Kk K6
  try simp only [Act.put, List.setIfInBounds_toArray, List.set_cons_zero, List.set_cons_succ]
  refine h_take 4 (v := .slice ua la ca) rfl (by kernel_rfl) (by kernel_rfl) (by kernel_rfl) (fun _ _ _ h => h) (by rfl) ?hyr10_4 (by assumption) ?_
  case hyr10_4 =>
    intro w' hSw
    clear hSw
    go_simp
  try simp only [Act.put, List.setIfInBounds_toArray, List.set_cons_zero, List.set_cons_succ]
  refine h_take 5 (v := .slice ub lb cb) rfl (by kernel_rfl) (by kernel_rfl) (by kernel_rfl) (fun _ _ _ h => h) (by rfl) ?hyr10_5 (by assumption) ?_
  case hyr10_5 =>
    intro w' hSw
    clear hSw
    go_simp
  try simp only [Act.put, List.setIfInBounds_toArray, List.set_cons_zero, List.set_cons_succ]
  refine wpAnyH_done (by kernel_rfl) ?_ _
  clear hHeld
  go_wp2_with (fail)
  refine (Q5.out _ _ _ Na_6.out Nb_6.out).mono ?_
  rintro e w7 ⟨rfl, g0⟩
  have g := g0
  clear g0
  have B2_7 := hid (B2_6.out.below g)
  have B3_7 := hid (B3_6.out.below g)
  have B6_7 := hid (B6_6.out.below g)
  have Na_7 := hid (Na_6.out.below g)
  have Nb_7 := hid (Nb_6.out.below g)
  have D_7 := hid (D_6.out.grown g)
  have U_7 := hid (U_6.out.grown g)
  have V_7 := hid (V_6.out.grown g)
  have Z_7 := hid (Z_6.out.grown g)
  have G_7 := hid (G_6.out.trans (g.mono G_6.out.size))
  clear g B2_6 B3_6 B6_6 Na_6 Nb_6 D_6 U_6 V_6 Z_6 G_6
  have hPm := pm_pair w7 (.slice ua la ca) (.slice ub lb cb) X Y P Na_7.out Nb_7.out hX.out hY.out
  have gA : Below w7.heap.size w7 (w7.alloc (.cells #[.int .i64 1] 3)) := (Below.refl _ _).alloc (Nat.le_refl _) _
  go_wp2_with (first | (refine list_load_want (by rfl) 30 _ rfl w3.heap.size 0 rfl pc _ (at_mid B6_7.out 0 _ (by simp)) Tryd.underlying30 rfl pc_h.il ?_) | fail)
  refine (QI.out _ _ hPm).mono ?_
  rintro e wz ⟨rfl, gz⟩
  have hG := (G_7.out.trans (gA.mono G_7.out.size)).trans (gz.mono (Nat.le_trans G_7.out.size gA.size))
  clear gA gz hPm
  go_wp2_with fail
  go_ret
  exact ⟨rfl, hG⟩
set_option maxRecDepth 100000 in
set_option maxHeartbeats 16000000 in
theorem pairs_false_w (pc : List Value) (pc_h : Pl pc) (xa ya : L5) (X Y : Nat) (hT : Hid (¬ 4503599627370496 ≤ xa.l0 ∧ ¬ 4503599627370496 ≤ ya.l0 ∧ ¬ 4503599627370496 ≤ xa.l1 ∧ ¬ 4503599627370496 ≤ ya.l1 ∧ ¬ 4503599627370496 ≤ xa.l2 ∧ ¬ 4503599627370496 ≤ ya.l2 ∧ ¬ 4503599627370496 ≤ xa.l3 ∧ ¬ 4503599627370496 ≤ ya.l3 ∧ ¬ 4503599627370496 ≤ xa.l4 ∧ ¬ 4503599627370496 ≤ ya.l4))
    (Q1 : Hid (∀ w : World, GbaseX w → GbaseY w → Calls Tryd.prog 7 #[] w fun e w' => e = .returned (.bool true) ∧ Below w.heap.size w w'))
    (Q2 : Hid (∀ w : World, Gd w → Gf w → Calls Tryd.prog 12 #[.agg #[.int .u64 xa.l0, .int .u64 xa.l1, .int .u64 xa.l2, .int .u64 xa.l3, .int .u64 xa.l4], .agg #[.int .u64 ya.l0, .int .u64 ya.l1, .int .u64 ya.l2, .int .u64 ya.l3, .int .u64 ya.l4]] w fun e w' => e = .returned (.tuple #[.agg pc.toArray, .bool false]) ∧ Below w.heap.size w w'))
    (Q3 : Hid (∀ w : World, Calls Tryd.prog 16 #[.agg #[.int .u64 xa.l0, .int .u64 xa.l1, .int .u64 xa.l2, .int .u64 xa.l3, .int .u64 xa.l4]] w fun e w' => ∃ v, e = .returned v ∧ Num w' v X ∧ Below w.heap.size w w'))
    (Q4 : Hid (∀ w : World, Calls Tryd.prog 16 #[.agg #[.int .u64 ya.l0, .int .u64 ya.l1, .int .u64 ya.l2, .int .u64 ya.l3, .int .u64 ya.l4]] w fun e w' => ∃ v, e = .returned v ∧ Num w' v Y ∧ Below w.heap.size w w'))
    (Q5 : Hid (∀ (v v' : Value) (w : World), Num w v X → Num w v' Y → Calls Tryd.prog 18 #[v, v'] w fun e w' => e = .returned (.bool false) ∧ Below w.heap.size w w'))
    (w : World) (D_0 : Hid (Gd w)) (U_0 : Hid (GbaseX w)) (V_0 : Hid (GbaseY w)) (Z_0 : Hid (Gf w)) :
    Calls Tryd.prog 4 #[.agg #[.int .u64 xa.l0, .int .u64 xa.l1, .int .u64 xa.l2, .int .u64 xa.l3, .int .u64 xa.l4], .agg #[.int .u64 ya.l0, .int .u64 ya.l1, .int .u64 ya.l2, .int .u64 ya.l3, .int .u64 ya.l4]] w fun e w' => e = .returned (.bool true) ∧ Below w.heap.size w w' := by
  obtain ⟨xa0, xa1, xa2, xa3, xa4⟩ := xa
  obtain ⟨ya0, ya1, ya2, ya3, ya4⟩ := ya
  dsimp only at Q1 Q2 Q3 Q4 Q5 hT ⊢
  go_enter Tryd.func4, Tryd.ntmps4
  go_upto_region 1 with fail
  have HD := D_0.out.lt
  have HU := U_0.out.lt
  have HV := V_0.out.lt
  have HZ := Z_0.out.lt
  refine wp_cut (fun V => At 26 V w.heap.size [.int .u64 xa0, .int .u64 xa1, .int .u64 xa2, .int .u64 xa3, .int .u64 xa4] ∧ At 26 V (w.heap.size + 1) [.int .u64 ya0, .int .u64 ya1, .int .u64 ya2, .int .u64 ya3, .int .u64 ya4] ∧ Gd V ∧ GbaseX V ∧ GbaseY V ∧ Gf V ∧ Below w.heap.size w V) ⟨?_, ?_, ?_, ?_, ?_, ?_, ?_⟩ ?_
  · (repeat (first | refine At.drew ?_ | refine At.drewN ?_ _ | (refine at_new2 _ _ _ _ ?_; simp; done) | refine at_alloc ?_ _))
  · (repeat (first | refine At.drew ?_ | refine At.drewN ?_ _ | (refine at_new2 _ _ _ _ ?_; simp; done) | refine at_alloc ?_ _))
  · refine D_0.out.grown ?_
    (repeat (first | exact Below.refl _ _ | refine Below.drew ?_ | refine below_drewN ?_ _ | refine Below.alloc ?_ (by simp <;> omega) _))
  · refine U_0.out.grown ?_
    (repeat (first | exact Below.refl _ _ | refine Below.drew ?_ | refine below_drewN ?_ _ | refine Below.alloc ?_ (by simp <;> omega) _))
  · refine V_0.out.grown ?_
    (repeat (first | exact Below.refl _ _ | refine Below.drew ?_ | refine below_drewN ?_ _ | refine Below.alloc ?_ (by simp <;> omega) _))
  · refine Z_0.out.grown ?_
    (repeat (first | exact Below.refl _ _ | refine Below.drew ?_ | refine below_drewN ?_ _ | refine Below.alloc ?_ (by simp <;> omega) _))
  · (repeat (first | exact Below.refl _ _ | refine Below.drew ?_ | refine below_drewN ?_ _ | refine Below.alloc ?_ (by simp <;> omega) _))
  rintro w1 ⟨k0, k1, k2, k3, k4, k5, k6⟩
  have B2_1 := hid k0
  have B3_1 := hid k1
  have D_1 := hid k2
  have U_1 := hid k3
  have V_1 := hid k4
  have Z_1 := hid k5
  have G_1 := hid k6
  clear k0 k1 k2 k3 k4 k5 k6 D_0 U_0 V_0 Z_0
  go_wp2_with (fail)
  refine (Q1.out _ U_1.out V_1.out).mono ?_
  rintro e w2 ⟨rfl, g0⟩
  have g := g0
  clear g0
  have B2_2 := hid (B2_1.out.below g)
  have B3_2 := hid (B3_1.out.below g)
  have D_2 := hid (D_1.out.grown g)
  have U_2 := hid (U_1.out.grown g)
  have V_2 := hid (V_1.out.grown g)
  have Z_2 := hid (Z_1.out.grown g)
  have G_2 := hid (G_1.out.trans (g.mono G_1.out.size))
  clear g B2_1 B3_1 D_1 U_1 V_1 Z_1 G_1
  have cB20 := B2_2.out.cell 0
  have cB21 := B2_2.out.cell 1
  have cB22 := B2_2.out.cell 2
  have cB23 := B2_2.out.cell 3
  have cB24 := B2_2.out.cell 4
  simp only [List.getElem?_cons_zero, List.getElem?_cons_succ] at cB20 cB21 cB22 cB23 cB24
  have cB30 := B3_2.out.cell 0
  have cB31 := B3_2.out.cell 1
  have cB32 := B3_2.out.cell 2
  have cB33 := B3_2.out.cell 3
  have cB34 := B3_2.out.cell 4
  simp only [List.getElem?_cons_zero, List.getElem?_cons_succ] at cB30 cB31 cB32 cB33 cB34
  have t0 := hT.out
  obtain ⟨kx0, ky0, kx1, ky1, kx2, ky2, kx3, ky3, kx4, ky4⟩ := t0
  go_wp2_with fail
  refine wp_unr 6 ?_
  refine unr_succ ?_
  go_wp2_with fail
  refine unr_succ ?_
  go_wp2_with fail
  refine unr_succ ?_
  go_wp2_with fail
  refine unr_succ ?_
  go_wp2_with fail
  refine unr_succ ?_
  go_wp2_with fail
  refine unr_succ ?_
  go_wp2_with fail
  clear cB20 cB21 cB22 cB23 cB24 cB30 cB31 cB32 cB33 cB34 kx0 ky0 kx1 ky1 kx2 ky2 kx3 ky3 kx4 ky4
  refine (Q2.out _ D_2.out Z_2.out).mono ?_
  rintro e w3 ⟨rfl, g0⟩
  have g := g0
  clear g0
  have B2_3 := hid (B2_2.out.below g)
  have B3_3 := hid (B3_2.out.below g)
  have D_3 := hid (D_2.out.grown g)
  have U_3 := hid (U_2.out.grown g)
  have V_3 := hid (V_2.out.grown g)
  have Z_3 := hid (Z_2.out.grown g)
  have G_3 := hid (G_2.out.trans (g.mono G_2.out.size))
  clear g B2_2 B3_2 D_2 U_2 V_2 Z_2 G_2
  have szB6 : w.heap.size ≤ w3.heap.size := G_3.out.size
  have nlB2B6 : w.heap.size < w3.heap.size := B2_3.out.lt
  have nlB3B6 : (w.heap.size + 1) < w3.heap.size := B3_3.out.lt
  go_wp2_with (first | (refine list_store_new rfl 30 _ _ rfl w3 pc [.int .u64 0, .int .u64 0, .int .u64 0, .int .u64 0, .int .u64 0, .int .u64 0, .int .u64 0, .int .u64 0, .int .u64 0, .int .u64 0, .int .u64 0, .int .u64 0, .int .u64 0, .int .u64 0, .int .u64 0, .int .u64 0, .int .u64 0, .int .u64 0, .int .u64 0, .int .u64 0] rfl rfl pc_h.len pc_h.is pc_h.one (fun w4 hC g => ?_)) | fail)
  have B6_4 := hid hC
  have B2_4 := hid (B2_3.out.below g)
  have B3_4 := hid (B3_3.out.below g)
  have D_4 := hid (D_3.out.grown g)
  have U_4 := hid (U_3.out.grown g)
  have V_4 := hid (V_3.out.grown g)
  have Z_4 := hid (Z_3.out.grown g)
  have G_4 := hid (G_3.out.trans (g.mono G_3.out.size))
  clear hC g B2_3 B3_3 D_3 U_3 V_3 Z_3 G_3
  go_wp2_with fail
  have D_4' := hid (D_4.out.grown (Below.refl _ w4).drew)
  have U_4' := hid (U_4.out.grown (Below.refl _ w4).drew)
  have V_4' := hid (V_4.out.grown (Below.refl _ w4).drew)
  have Z_4' := hid (Z_4.out.grown (Below.refl _ w4).drew)
  have K4 : At 26 w4.drew w.heap.size [.int .u64 xa0, .int .u64 xa1, .int .u64 xa2, .int .u64 xa3, .int .u64 xa4] ∧ At 26 w4.drew (w.heap.size + 1) [.int .u64 ya0, .int .u64 ya1, .int .u64 ya2, .int .u64 ya3, .int .u64 ya4] := And.intro B2_4.out.drew (B3_4.out.drew)
  refine wp_region_held_drew (S := fun w' => At 26 w' w.heap.size [.int .u64 xa0, .int .u64 xa1, .int .u64 xa2, .int .u64 xa3, .int .u64 xa4] ∧ At 26 w' (w.heap.size + 1) [.int .u64 ya0, .int .u64 ya1, .int .u64 ya2, .int .u64 ya3, .int .u64 ya4]) (by kernel_rfl) K4 (fun hHeld => ?_)
  clear K4
  refine h_take 0 (v := .agg #[.int .u64 xa0, .int .u64 xa1, .int .u64 xa2, .int .u64 xa3, .int .u64 xa4]) rfl (by kernel_rfl) (by kernel_rfl) (by kernel_rfl) (fun _ _ _ h => h) (by rfl) ?hyr10_0 (by assumption) ?_
  case hyr10_0 =>
    intro w' hSw
    exact load_run 26 _ rfl _ 0 rfl _ _ (at_mid hSw.1 0 _ rfl) Tryd.underlying26 rfl (by kernel_rfl)
  try simp only [Act.put, List.setIfInBounds_toArray, List.set_cons_zero, List.set_cons_succ]
  refine h_take 2 (v := .agg #[.int .u64 ya0, .int .u64 ya1, .int .u64 ya2, .int .u64 ya3, .int .u64 ya4]) rfl (by kernel_rfl) (by kernel_rfl) (by kernel_rfl) (fun _ _ _ h => h) (by rfl) ?hyr10_2 (by assumption) ?_
  case hyr10_2 =>
    intro w' hSw
    exact load_run 26 _ rfl _ 0 rfl _ _ (at_mid hSw.2 0 _ rfl) Tryd.underlying26 rfl (by kernel_rfl)
  try simp only [Act.put, List.setIfInBounds_toArray, List.set_cons_zero, List.set_cons_succ]
  refine h_call 1 rfl (by kernel_rfl) (by rfl) (fun Kk hK => ?_)
  go_simp
  (refine (Q3.out _).mono ?_)
  rintro e w5 ⟨va, rfl, hna, g0⟩
  have g : Below w4.heap.size w4 w5 := (Below.refl _ w4).drew.trans g0
  clear g0
  have B2_5 := hid (B2_4.out.below g)
  have B3_5 := hid (B3_4.out.below g)
  have B6_5 := hid (B6_4.out.below g)
  have D_5 := hid (D_4.out.grown g)
  have U_5 := hid (U_4.out.grown g)
  have V_5 := hid (V_4.out.grown g)
  have Z_5 := hid (Z_4.out.grown g)
  have G_5 := hid (G_4.out.trans (g.mono G_4.out.size))
  clear g B2_4 B3_4 B6_4 D_4 U_4 V_4 Z_4 G_4
  clear D_4' U_4' V_4' Z_4'
  obtain ⟨ua, la, ca, rfl⟩ := hna.shape
  have Na_5 : Hid (Num w5 (.slice ua la ca) X) := hna
  clear hna
  have K5 := And.intro B2_5.out (B3_5.out)
  go_wp2_with fail
  clear hHeld
  refine hK.out _ _ K5 (fun hHeld => ?_)
  clear hK Kk K5
  try simp only [Act.put, List.setIfInBounds_toArray, List.set_cons_zero, List.set_cons_succ]
  refine h_call 3 rfl (by kernel_rfl) (by rfl) (fun Kk hK => ?_)
  go_simp
  (refine (Q4.out _).mono ?_)
  rintro e w6 ⟨vb, rfl, hnb, g0⟩
  have g := g0
  clear g0
  have B2_6 := hid (B2_5.out.below g)
  have B3_6 := hid (B3_5.out.below g)
  have B6_6 := hid (B6_5.out.below g)
  have Na_6 := hid (Na_5.out.below g)
  have D_6 := hid (D_5.out.grown g)
  have U_6 := hid (U_5.out.grown g)
  have V_6 := hid (V_5.out.grown g)
  have Z_6 := hid (Z_5.out.grown g)
  have G_6 := hid (G_5.out.trans (g.mono G_5.out.size))
  clear g B2_5 B3_5 B6_5 Na_5 D_5 U_5 V_5 Z_5 G_5
  obtain ⟨ub, lb, cb, rfl⟩ := hnb.shape
  have Nb_6 : Hid (Num w6 (.slice ub lb cb) Y) := hnb
  clear hnb
  have K6 := And.intro B2_6.out (B3_6.out)
  go_wp2_with fail
  clear hHeld
  refine hK.out _ _ K6 (fun hHeld => ?_)
  clear hK Kk K6
  try simp only [Act.put, List.setIfInBounds_toArray, List.set_cons_zero, List.set_cons_succ]
  refine h_take 4 (v := .slice ua la ca) rfl (by kernel_rfl) (by kernel_rfl) (by kernel_rfl) (fun _ _ _ h => h) (by rfl) ?hyr10_4 (by assumption) ?_
  case hyr10_4 =>
    intro w' hSw
    clear hSw
    go_simp
  try simp only [Act.put, List.setIfInBounds_toArray, List.set_cons_zero, List.set_cons_succ]
  refine h_take 5 (v := .slice ub lb cb) rfl (by kernel_rfl) (by kernel_rfl) (by kernel_rfl) (fun _ _ _ h => h) (by rfl) ?hyr10_5 (by assumption) ?_
  case hyr10_5 =>
    intro w' hSw
    clear hSw
    go_simp
  try simp only [Act.put, List.setIfInBounds_toArray, List.set_cons_zero, List.set_cons_succ]
  refine wpAnyH_done (by kernel_rfl) ?_ _
  clear hHeld
  go_wp2_with (fail)
  refine (Q5.out _ _ _ Na_6.out Nb_6.out).mono ?_
  rintro e w7 ⟨rfl, g0⟩
  have g := g0
  clear g0
  have B2_7 := hid (B2_6.out.below g)
  have B3_7 := hid (B3_6.out.below g)
  have B6_7 := hid (B6_6.out.below g)
  have Na_7 := hid (Na_6.out.below g)
  have Nb_7 := hid (Nb_6.out.below g)
  have D_7 := hid (D_6.out.grown g)
  have U_7 := hid (U_6.out.grown g)
  have V_7 := hid (V_6.out.grown g)
  have Z_7 := hid (Z_6.out.grown g)
  have G_7 := hid (G_6.out.trans (g.mono G_6.out.size))
  clear g B2_6 B3_6 B6_6 Na_6 Nb_6 D_6 U_6 V_6 Z_6 G_6
  go_wp2_with fail
  go_ret
  exact ⟨rfl, G_7.out⟩
end Go.Proofs.YtkbiiolkekpkiaaDoor.Ed
