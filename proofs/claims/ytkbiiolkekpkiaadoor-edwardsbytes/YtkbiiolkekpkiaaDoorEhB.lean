/-
  The law EdwardsBytes of layer 10: the walk, given what each call answers. Conditions: as each theorem says.
-/
import Derived.Test.YtkbiiolkekpkiaaDoorEgK
import Derived.Test.YtkbiiolkekpkiaaDoorEgX
import Derived.Test.YtkbiiolkekpkiaaDoorEgS
namespace Go.Proofs.YtkbiiolkekpkiaaDoor.Ed
open Go.RowKit
set_option linter.unusedVariables false
set_option linter.unusedSimpArgs false

set_option maxRecDepth 100000 in
set_option maxHeartbeats 16000000 in
theorem bytes_far_w (a0 : Option Addr) (n0 c0 : Nat) (la : List Nat) (hn : Hid (100 < n0))
    (Q1 : Hid (∀ w : World, GbaseX w → GbaseY w → Calls Tryd.prog 7 #[] w fun e w' => e = .returned (.bool true) ∧ Below w.heap.size w w'))
    (w : World) (Sa_0 : Hid (SK .u8 w (.slice a0 n0 c0) la)) (D_0 : Hid (Gd w)) (U_0 : Hid (GbaseX w)) (V_0 : Hid (GbaseY w)) (Z_0 : Hid (Gl w)) :
    Calls Tryd.prog 3 #[.slice a0 n0 c0] w fun e w' => e = .returned (.bool true) ∧ Below w.heap.size w w' := by
  go_enter Tryd.func3, Tryd.ntmps3
  go_upto_region 1 with fail
  have HD := D_0.out.lt
  have HU := U_0.out.lt
  have HV := V_0.out.lt
  have HZ := Z_0.out.lt
  refine wp_cut (fun V => SK .u8 V (.slice a0 n0 c0) la ∧ Gd V ∧ GbaseX V ∧ GbaseY V ∧ Gl V ∧ Below w.heap.size w V) ⟨?_, ?_, ?_, ?_, ?_, ?_⟩ ?_
  · refine Sa_0.out.below ?_
    (repeat (first | exact Below.refl _ _ | refine Below.drew ?_ | refine below_drewN ?_ _ | refine Below.alloc ?_ (by simp <;> omega) _))
  · refine D_0.out.grown ?_
    (repeat (first | exact Below.refl _ _ | refine Below.drew ?_ | refine below_drewN ?_ _ | refine Below.alloc ?_ (by simp <;> omega) _))
  · refine U_0.out.grown ?_
    (repeat (first | exact Below.refl _ _ | refine Below.drew ?_ | refine below_drewN ?_ _ | refine Below.alloc ?_ (by simp <;> omega) _))
  · refine V_0.out.grown ?_
    (repeat (first | exact Below.refl _ _ | refine Below.drew ?_ | refine below_drewN ?_ _ | refine Below.alloc ?_ (by simp <;> omega) _))
  · refine Z_0.out.grown ?_
    (repeat (first | exact Below.refl _ _ | refine Below.drew ?_ | refine below_drewN ?_ _ | refine Below.alloc ?_ (by simp <;> omega) _))
  · (repeat (first | exact Below.refl _ _ | refine Below.drew ?_ | refine below_drewN ?_ _ | refine Below.alloc ?_ (by simp <;> omega) _))
  rintro w1 ⟨k0, k1, k2, k3, k4, k5⟩
  have Sa_1 := hid k0
  have D_1 := hid k1
  have U_1 := hid k2
  have V_1 := hid k3
  have Z_1 := hid k4
  have G_1 := hid k5
  clear k0 k1 k2 k3 k4 k5 Sa_0 D_0 U_0 V_0 Z_0
  go_wp2_with (fail)
  refine (Q1.out _ U_1.out V_1.out).mono ?_
  rintro e w2 ⟨rfl, g0⟩
  have g := g0
  clear g0
  have Sa_2 := hid (Sa_1.out.below g)
  have D_2 := hid (D_1.out.grown g)
  have U_2 := hid (U_1.out.grown g)
  have V_2 := hid (V_1.out.grown g)
  have Z_2 := hid (Z_1.out.grown g)
  have G_2 := hid (G_1.out.trans (g.mono G_1.out.size))
  clear g Sa_1 D_1 U_1 V_1 Z_1 G_1
  have hl : (100 : Int) < (n0 : Int) := by have := hn.out; omega
  have hd : decide ((100 : Int) < (n0 : Int)) = true := decide_eq_true hl
  go_wp2_with fail
  go_ret
  exact ⟨rfl, G_2.out⟩
set_option maxRecDepth 100000 in
set_option maxHeartbeats 16000000 in
theorem bytes_none_w (pc : List Value) (pc_h : Pl pc) (a0 : Option Addr) (n0 c0 : Nat) (la : List Nat) (hn : Hid (¬ 100 < n0))
    (Q1 : Hid (∀ w : World, GbaseX w → GbaseY w → Calls Tryd.prog 7 #[] w fun e w' => e = .returned (.bool true) ∧ Below w.heap.size w w'))
    (Q2 : Hid (∀ (v : Value) (w : World), SK .u8 w v la → Gd w → Gl w → Calls Tryd.prog 8 #[v] w fun e w' => e = .returned (.tuple #[.agg pc.toArray, .bool false]) ∧ Below w.heap.size w w'))
    (Q3 : Hid (∀ (v : Value) (w : World), SK .u8 w v la → Calls Tryd.prog 9 #[v] w fun e w' => e = .returned (.agg #[.slice none 0 0, .slice none 0 0, .slice none 0 0, .bool false]) ∧ Below w.heap.size w w'))
    (w : World) (Sa_0 : Hid (SK .u8 w (.slice a0 n0 c0) la)) (D_0 : Hid (Gd w)) (U_0 : Hid (GbaseX w)) (V_0 : Hid (GbaseY w)) (Z_0 : Hid (Gl w)) :
    Calls Tryd.prog 3 #[.slice a0 n0 c0] w fun e w' => e = .returned (.bool true) ∧ Below w.heap.size w w' := by
  go_enter Tryd.func3, Tryd.ntmps3
  go_upto_region 1 with fail
  have HD := D_0.out.lt
  have HU := U_0.out.lt
  have HV := V_0.out.lt
  have HZ := Z_0.out.lt
  refine wp_cut (fun V => SK .u8 V (.slice a0 n0 c0) la ∧ Gd V ∧ GbaseX V ∧ GbaseY V ∧ Gl V ∧ Below w.heap.size w V) ⟨?_, ?_, ?_, ?_, ?_, ?_⟩ ?_
  · refine Sa_0.out.below ?_
    (repeat (first | exact Below.refl _ _ | refine Below.drew ?_ | refine below_drewN ?_ _ | refine Below.alloc ?_ (by simp <;> omega) _))
  · refine D_0.out.grown ?_
    (repeat (first | exact Below.refl _ _ | refine Below.drew ?_ | refine below_drewN ?_ _ | refine Below.alloc ?_ (by simp <;> omega) _))
  · refine U_0.out.grown ?_
    (repeat (first | exact Below.refl _ _ | refine Below.drew ?_ | refine below_drewN ?_ _ | refine Below.alloc ?_ (by simp <;> omega) _))
  · refine V_0.out.grown ?_
    (repeat (first | exact Below.refl _ _ | refine Below.drew ?_ | refine below_drewN ?_ _ | refine Below.alloc ?_ (by simp <;> omega) _))
  · refine Z_0.out.grown ?_
    (repeat (first | exact Below.refl _ _ | refine Below.drew ?_ | refine below_drewN ?_ _ | refine Below.alloc ?_ (by simp <;> omega) _))
  · (repeat (first | exact Below.refl _ _ | refine Below.drew ?_ | refine below_drewN ?_ _ | refine Below.alloc ?_ (by simp <;> omega) _))
  rintro w1 ⟨k0, k1, k2, k3, k4, k5⟩
  have Sa_1 := hid k0
  have D_1 := hid k1
  have U_1 := hid k2
  have V_1 := hid k3
  have Z_1 := hid k4
  have G_1 := hid k5
  clear k0 k1 k2 k3 k4 k5 Sa_0 D_0 U_0 V_0 Z_0
  go_wp2_with (fail)
  refine (Q1.out _ U_1.out V_1.out).mono ?_
  rintro e w2 ⟨rfl, g0⟩
  have g := g0
  clear g0
  have Sa_2 := hid (Sa_1.out.below g)
  have D_2 := hid (D_1.out.grown g)
  have U_2 := hid (U_1.out.grown g)
  have V_2 := hid (V_1.out.grown g)
  have Z_2 := hid (Z_1.out.grown g)
  have G_2 := hid (G_1.out.trans (g.mono G_1.out.size))
  clear g Sa_1 D_1 U_1 V_1 Z_1 G_1
  have hl : ¬ (100 : Int) < (n0 : Int) := by have := hn.out; omega
  have hd : decide ((100 : Int) < (n0 : Int)) = false := decide_eq_false hl
  go_wp2_with (fail)
  refine (Q2.out _ _ Sa_2.out D_2.out Z_2.out).mono ?_
  rintro e w3 ⟨rfl, g0⟩
  have g := g0
  clear g0
  have Sa_3 := hid (Sa_2.out.below g)
  have D_3 := hid (D_2.out.grown g)
  have U_3 := hid (U_2.out.grown g)
  have V_3 := hid (V_2.out.grown g)
  have Z_3 := hid (Z_2.out.grown g)
  have G_3 := hid (G_2.out.trans (g.mono G_2.out.size))
  clear g Sa_2 D_2 U_2 V_2 Z_2 G_2
  have szB3 : w.heap.size ≤ w3.heap.size := G_3.out.size
  go_wp2_with (first | (refine list_store_new rfl 30 _ _ rfl w3 pc [.int .u64 0, .int .u64 0, .int .u64 0, .int .u64 0, .int .u64 0, .int .u64 0, .int .u64 0, .int .u64 0, .int .u64 0, .int .u64 0, .int .u64 0, .int .u64 0, .int .u64 0, .int .u64 0, .int .u64 0, .int .u64 0, .int .u64 0, .int .u64 0, .int .u64 0, .int .u64 0] rfl rfl pc_h.len pc_h.is pc_h.one (fun w4 hC g => ?_)) | fail)
  have B3_4 := hid hC
  have Sa_4 := hid (Sa_3.out.below g)
  have D_4 := hid (D_3.out.grown g)
  have U_4 := hid (U_3.out.grown g)
  have V_4 := hid (V_3.out.grown g)
  have Z_4 := hid (Z_3.out.grown g)
  have G_4 := hid (G_3.out.trans (g.mono G_3.out.size))
  clear hC g Sa_3 D_3 U_3 V_3 Z_3 G_3
  clear hl hd
  go_wp2_with (fail)
  refine (Q3.out _ _ Sa_4.out).mono ?_
  rintro e w5 ⟨rfl, g0⟩
  have g := g0
  clear g0
  have B3_5 := hid (B3_4.out.below g)
  have Sa_5 := hid (Sa_4.out.below g)
  have D_5 := hid (D_4.out.grown g)
  have U_5 := hid (U_4.out.grown g)
  have V_5 := hid (V_4.out.grown g)
  have Z_5 := hid (Z_4.out.grown g)
  have G_5 := hid (G_4.out.trans (g.mono G_4.out.size))
  clear g B3_4 Sa_4 D_4 U_4 V_4 Z_4 G_4
  have szB5 : w.heap.size ≤ w5.heap.size := G_5.out.size
  have nlB3B5 : w3.heap.size < w5.heap.size := B3_5.out.lt
  go_wp2_with (first | (refine list_store_new rfl 35 _ _ rfl w5 [.slice none 0 0, .slice none 0 0, .slice none 0 0, .bool false] [.slice none 0 0, .slice none 0 0, .slice none 0 0, .bool false] rfl rfl rfl (by kernel_rfl) (by kernel_rfl) (fun w6 hC g => ?_); have qc := hC.cell 3; simp only [List.getElem?_cons_succ, List.getElem?_cons_zero] at qc) | fail)
  have B5_6 := hid hC
  have B3_6 := hid (B3_5.out.below g)
  have Sa_6 := hid (Sa_5.out.below g)
  have D_6 := hid (D_5.out.grown g)
  have U_6 := hid (U_5.out.grown g)
  have V_6 := hid (V_5.out.grown g)
  have Z_6 := hid (Z_5.out.grown g)
  have G_6 := hid (G_5.out.trans (g.mono G_5.out.size))
  clear hC g B3_5 Sa_5 D_5 U_5 V_5 Z_5 G_5
  go_wp2_with fail
  go_ret
  exact ⟨rfl, G_6.out⟩
set_option maxRecDepth 100000 in
set_option maxHeartbeats 16000000 in
theorem bytes_point_w (pc pr : List Value) (pc_h : Pl pc) (pr_h : Pl pr) (xa ya : L5) (a0 : Option Addr) (c0 : Nat) (la : List Nat) (P : Pt) (X Y : Nat)
    (Q1 : Hid (∀ w : World, GbaseX w → GbaseY w → Calls Tryd.prog 7 #[] w fun e w' => e = .returned (.bool true) ∧ Below w.heap.size w w'))
    (Q2 : Hid (∀ (v : Value) (w : World), SK .u8 w v la → Gd w → Gl w → Calls Tryd.prog 8 #[v] w fun e w' => e = .returned (.tuple #[.agg pc.toArray, .bool true]) ∧ Below w.heap.size w w'))
    (Q3 : Hid (∀ (v : Value) (w : World), SK .u8 w v la → Calls Tryd.prog 9 #[v] w fun e w' => ∃ u, e = .returned u ∧ Pm w' u P ∧ Below w.heap.size w w'))
    (Q4 : Hid (∀ w : World, Calls Tryd.prog 10 #[.agg pc.toArray] w fun e w' => e = .returned (.tuple #[.agg #[.int .u64 xa.l0, .int .u64 xa.l1, .int .u64 xa.l2, .int .u64 xa.l3, .int .u64 xa.l4], .agg #[.int .u64 ya.l0, .int .u64 ya.l1, .int .u64 ya.l2, .int .u64 ya.l3, .int .u64 ya.l4]]) ∧ Below w.heap.size w w'))
    (Q5 : Hid (∀ (v : Value) (w : World), Pm w v P → Calls Tryd.prog 11 #[v] w fun e w' => ∃ v1 v2, e = .returned (.tuple #[v1, v2]) ∧ Num w' v1 X ∧ Num w' v2 Y ∧ Below w.heap.size w w'))
    (Q6 : Hid (∀ w : World, Gd w → Gl w → Calls Tryd.prog 12 #[.agg #[.int .u64 xa.l0, .int .u64 xa.l1, .int .u64 xa.l2, .int .u64 xa.l3, .int .u64 xa.l4], .agg #[.int .u64 ya.l0, .int .u64 ya.l1, .int .u64 ya.l2, .int .u64 ya.l3, .int .u64 ya.l4]] w fun e w' => e = .returned (.tuple #[.agg pr.toArray, .bool true]) ∧ Below w.heap.size w w'))
    (Q7 : Hid (∀ w : World, Calls Tryd.prog 14 #[.agg pc.toArray] w fun e w' => ∃ g, e = .returned (.slice (some ⟨g, 0, none⟩) 32 32) ∧ SK .u8 w' (.slice (some ⟨g, 0, none⟩) 32 32) la ∧ w.heap.size ≤ g ∧ Below w.heap.size w w'))
    (Q8 : Hid (∀ (v v' : Value) (w : World), SK .u8 w v la → SK .u8 w v' la → Calls Tryd.prog 13 #[v, v'] w fun e w' => e = .returned (.bool true) ∧ Below w.heap.size w w'))
    (Q9 : Hid (∀ w : World, Calls Tryd.prog 16 #[.agg #[.int .u64 xa.l0, .int .u64 xa.l1, .int .u64 xa.l2, .int .u64 xa.l3, .int .u64 xa.l4]] w fun e w' => ∃ v, e = .returned v ∧ Num w' v X ∧ Below w.heap.size w w'))
    (Q10 : Hid (∀ (v v' : Value) (w : World), Num w v X → Num w v' X → Calls Tryd.prog 15 #[v, v'] w fun e w' => e = .returned (.int .i64 0) ∧ Below w.heap.size w w'))
    (Q11 : Hid (∀ w : World, Calls Tryd.prog 16 #[.agg #[.int .u64 ya.l0, .int .u64 ya.l1, .int .u64 ya.l2, .int .u64 ya.l3, .int .u64 ya.l4]] w fun e w' => ∃ v, e = .returned v ∧ Num w' v Y ∧ Below w.heap.size w w'))
    (Q12 : Hid (∀ (v v' : Value) (w : World), Num w v Y → Num w v' Y → Calls Tryd.prog 15 #[v, v'] w fun e w' => e = .returned (.int .i64 0) ∧ Below w.heap.size w w'))
    (Q13 : Hid (∀ w : World, Calls Tryd.prog 17 #[.agg pr.toArray, .agg pc.toArray] w fun e w' => e = .returned (.bool true) ∧ Below w.heap.size w w'))
    (w : World) (Sa_0 : Hid (SK .u8 w (.slice a0 32 c0) la)) (D_0 : Hid (Gd w)) (U_0 : Hid (GbaseX w)) (V_0 : Hid (GbaseY w)) (Z_0 : Hid (Gl w)) :
    Calls Tryd.prog 3 #[.slice a0 32 c0] w fun e w' => e = .returned (.bool true) ∧ Below w.heap.size w w' := by
  obtain ⟨xa0, xa1, xa2, xa3, xa4⟩ := xa
  obtain ⟨ya0, ya1, ya2, ya3, ya4⟩ := ya
  dsimp only at Q1 Q2 Q3 Q4 Q5 Q6 Q7 Q8 Q9 Q10 Q11 Q12 Q13 ⊢
  go_enter Tryd.func3, Tryd.ntmps3
  go_upto_region 1 with fail
  have HD := D_0.out.lt
  have HU := U_0.out.lt
  have HV := V_0.out.lt
  have HZ := Z_0.out.lt
  refine wp_cut (fun V => SK .u8 V (.slice a0 32 c0) la ∧ Gd V ∧ GbaseX V ∧ GbaseY V ∧ Gl V ∧ Below w.heap.size w V) ⟨?_, ?_, ?_, ?_, ?_, ?_⟩ ?_
  · refine Sa_0.out.below ?_
    (repeat (first | exact Below.refl _ _ | refine Below.drew ?_ | refine below_drewN ?_ _ | refine Below.alloc ?_ (by simp <;> omega) _))
  · refine D_0.out.grown ?_
    (repeat (first | exact Below.refl _ _ | refine Below.drew ?_ | refine below_drewN ?_ _ | refine Below.alloc ?_ (by simp <;> omega) _))
  · refine U_0.out.grown ?_
    (repeat (first | exact Below.refl _ _ | refine Below.drew ?_ | refine below_drewN ?_ _ | refine Below.alloc ?_ (by simp <;> omega) _))
  · refine V_0.out.grown ?_
    (repeat (first | exact Below.refl _ _ | refine Below.drew ?_ | refine below_drewN ?_ _ | refine Below.alloc ?_ (by simp <;> omega) _))
  · refine Z_0.out.grown ?_
    (repeat (first | exact Below.refl _ _ | refine Below.drew ?_ | refine below_drewN ?_ _ | refine Below.alloc ?_ (by simp <;> omega) _))
  · (repeat (first | exact Below.refl _ _ | refine Below.drew ?_ | refine below_drewN ?_ _ | refine Below.alloc ?_ (by simp <;> omega) _))
  rintro w1 ⟨k0, k1, k2, k3, k4, k5⟩
  have Sa_1 := hid k0
  have D_1 := hid k1
  have U_1 := hid k2
  have V_1 := hid k3
  have Z_1 := hid k4
  have G_1 := hid k5
  clear k0 k1 k2 k3 k4 k5 Sa_0 D_0 U_0 V_0 Z_0
  go_wp2_with (fail)
  refine (Q1.out _ U_1.out V_1.out).mono ?_
  rintro e w2 ⟨rfl, g0⟩
  have g := g0
  clear g0
  have Sa_2 := hid (Sa_1.out.below g)
  have D_2 := hid (D_1.out.grown g)
  have U_2 := hid (U_1.out.grown g)
  have V_2 := hid (V_1.out.grown g)
  have Z_2 := hid (Z_1.out.grown g)
  have G_2 := hid (G_1.out.trans (g.mono G_1.out.size))
  clear g Sa_1 D_1 U_1 V_1 Z_1 G_1
  go_wp2_with (fail)
  refine (Q2.out _ _ Sa_2.out D_2.out Z_2.out).mono ?_
  rintro e w3 ⟨rfl, g0⟩
  have g := g0
  clear g0
  have Sa_3 := hid (Sa_2.out.below g)
  have D_3 := hid (D_2.out.grown g)
  have U_3 := hid (U_2.out.grown g)
  have V_3 := hid (V_2.out.grown g)
  have Z_3 := hid (Z_2.out.grown g)
  have G_3 := hid (G_2.out.trans (g.mono G_2.out.size))
  clear g Sa_2 D_2 U_2 V_2 Z_2 G_2
  have szB3 : w.heap.size ≤ w3.heap.size := G_3.out.size
  go_wp2_with (first | (refine list_store_new rfl 30 _ _ rfl w3 pc [.int .u64 0, .int .u64 0, .int .u64 0, .int .u64 0, .int .u64 0, .int .u64 0, .int .u64 0, .int .u64 0, .int .u64 0, .int .u64 0, .int .u64 0, .int .u64 0, .int .u64 0, .int .u64 0, .int .u64 0, .int .u64 0, .int .u64 0, .int .u64 0, .int .u64 0, .int .u64 0] rfl rfl pc_h.len pc_h.is pc_h.one (fun w4 hC g => ?_)) | fail)
  have B3_4 := hid hC
  have Sa_4 := hid (Sa_3.out.below g)
  have D_4 := hid (D_3.out.grown g)
  have U_4 := hid (U_3.out.grown g)
  have V_4 := hid (V_3.out.grown g)
  have Z_4 := hid (Z_3.out.grown g)
  have G_4 := hid (G_3.out.trans (g.mono G_3.out.size))
  clear hC g Sa_3 D_3 U_3 V_3 Z_3 G_3
  go_wp2_with (fail)
  refine (Q3.out _ _ Sa_4.out).mono ?_
  rintro e w5 ⟨uu, rfl, hu, g0⟩
  have g := g0
  clear g0
  have B3_5 := hid (B3_4.out.below g)
  have Sa_5 := hid (Sa_4.out.below g)
  have D_5 := hid (D_4.out.grown g)
  have U_5 := hid (U_4.out.grown g)
  have V_5 := hid (V_4.out.grown g)
  have Z_5 := hid (Z_4.out.grown g)
  have G_5 := hid (G_4.out.trans (g.mono G_4.out.size))
  clear g B3_4 Sa_4 D_4 U_4 V_4 Z_4 G_4
  obtain ⟨Mq, rfl, Mq_h, Mq_3, Mq_i⟩ := pm_list hu
  have Pq_5 : Hid (Pm w5 (.agg Mq.toArray) P) := hu
  clear hu
  have szB5 : w.heap.size ≤ w5.heap.size := G_5.out.size
  have nlB3B5 : w3.heap.size < w5.heap.size := B3_5.out.lt
  go_wp2_with (first | (refine list_store_new rfl 35 _ _ rfl w5 Mq [.slice none 0 0, .slice none 0 0, .slice none 0 0, .bool false] rfl rfl Mq_h.len Mq_h.is Mq_h.one (fun w6 hC g => ?_); have qc := hC.cell 3; rw [Mq_3] at qc) | (refine wpList_load_mid rfl 30 _ rfl w3.heap.size 0 rfl pc _ (at_mid (B3_5.out.below g) 0 _ (by simp)) Tryd.underlying30 rfl pc_h.il ?_) | fail)
  have B5_6 := hid hC
  have B3_6 := hid (B3_5.out.below g)
  have Sa_6 := hid (Sa_5.out.below g)
  have Pq_6 := hid (Pq_5.out.below g)
  have D_6 := hid (D_5.out.grown g)
  have U_6 := hid (U_5.out.grown g)
  have V_6 := hid (V_5.out.grown g)
  have Z_6 := hid (Z_5.out.grown g)
  have G_6 := hid (G_5.out.trans (g.mono G_5.out.size))
  clear hC g B3_5 Sa_5 Pq_5 D_5 U_5 V_5 Z_5 G_5
  clear qc
  refine (Q4.out _).mono ?_
  rintro e w7 ⟨rfl, g0⟩
  have g := g0
  clear g0
  have B3_7 := hid (B3_6.out.below g)
  have B5_7 := hid (B5_6.out.below g)
  have Sa_7 := hid (Sa_6.out.below g)
  have Pq_7 := hid (Pq_6.out.below g)
  have D_7 := hid (D_6.out.grown g)
  have U_7 := hid (U_6.out.grown g)
  have V_7 := hid (V_6.out.grown g)
  have Z_7 := hid (Z_6.out.grown g)
  have G_7 := hid (G_6.out.trans (g.mono G_6.out.size))
  clear g B3_6 B5_6 Sa_6 Pq_6 D_6 U_6 V_6 Z_6 G_6
  go_wp2_with (first | (refine wpList_load_mid rfl 35 _ rfl w5.heap.size 0 rfl Mq _ (at_mid (at_alloc (at_alloc B5_7.out _) _) 0 _ (by simp)) Tryd.underlying35 rfl Mq_h.il ?_) | fail)
  refine calls_at (fun V => At 30 V w3.heap.size pc ∧ At 35 V w5.heap.size Mq ∧ SK .u8 V (.slice a0 32 c0) la ∧ Pm V (.agg Mq.toArray) P ∧ Gd V ∧ GbaseX V ∧ GbaseY V ∧ Gl V ∧ At 26 V w7.heap.size [.int .u64 xa0, .int .u64 xa1, .int .u64 xa2, .int .u64 xa3, .int .u64 xa4] ∧ At 26 V (w7.heap.size + 1) [.int .u64 ya0, .int .u64 ya1, .int .u64 ya2, .int .u64 ya3, .int .u64 ya4] ∧ Below w.heap.size w V) ⟨(at_alloc (at_alloc B3_7.out _) _), (at_alloc (at_alloc B5_7.out _) _), ((Sa_7.out.below ((Below.refl _ _).alloc (Nat.le_refl _) _)).below ((Below.refl _ _).alloc (Nat.le_refl _) _)), ((Pq_7.out.below ((Below.refl _ _).alloc (Nat.le_refl _) _)).below ((Below.refl _ _).alloc (Nat.le_refl _) _)), ((D_7.out.grown ((Below.refl _ _).alloc (Nat.le_refl _) _)).grown ((Below.refl _ _).alloc (Nat.le_refl _) _)), ((U_7.out.grown ((Below.refl _ _).alloc (Nat.le_refl _) _)).grown ((Below.refl _ _).alloc (Nat.le_refl _) _)), ((V_7.out.grown ((Below.refl _ _).alloc (Nat.le_refl _) _)).grown ((Below.refl _ _).alloc (Nat.le_refl _) _)), ((Z_7.out.grown ((Below.refl _ _).alloc (Nat.le_refl _) _)).grown ((Below.refl _ _).alloc (Nat.le_refl _) _)), (at_alloc (at_new2 _ _ _ _ (by simp)) _), (at_new2 _ _ _ _ (by simp)), ((G_7.out.alloc (by have := G_7.out.size; simp <;> omega) _).alloc (by have := G_7.out.size; simp <;> omega) _)⟩ ?_
  have szB6 : w.heap.size ≤ w7.heap.size := by have := G_7.out.size; omega
  have nlB3B6 : w3.heap.size < w7.heap.size := by have := B3_7.out.lt; omega
  have nlB5B6 : w5.heap.size < w7.heap.size := by have := B5_7.out.lt; omega
  have szB7 : w.heap.size ≤ (w7.heap.size + 1) := by have := G_7.out.size; omega
  have nlB3B7 : w3.heap.size < (w7.heap.size + 1) := by have := B3_7.out.lt; omega
  have nlB5B7 : w5.heap.size < (w7.heap.size + 1) := by have := B5_7.out.lt; omega
  rintro w8 ⟨k0, k1, k2, k3, k4, k5, k6, k7, k8, k9, k10⟩
  have B3_8 := hid k0
  have B5_8 := hid k1
  have Sa_8 := hid k2
  have Pq_8 := hid k3
  have D_8 := hid k4
  have U_8 := hid k5
  have V_8 := hid k6
  have Z_8 := hid k7
  have B6_8 := hid k8
  have B7_8 := hid k9
  have G_8 := hid k10
  clear k0 k1 k2 k3 k4 k5 k6 k7 k8 k9 k10 B3_7 B5_7 Sa_7 Pq_7 D_7 U_7 V_7 Z_7 G_7
  refine (Q5.out _ _ Pq_8.out).mono ?_
  rintro e w9 ⟨vu, vv, rfl, hnu, hnv, g0⟩
  have g := g0
  clear g0
  have B3_9 := hid (B3_8.out.below g)
  have B5_9 := hid (B5_8.out.below g)
  have B6_9 := hid (B6_8.out.below g)
  have B7_9 := hid (B7_8.out.below g)
  have Sa_9 := hid (Sa_8.out.below g)
  have Pq_9 := hid (Pq_8.out.below g)
  have D_9 := hid (D_8.out.grown g)
  have U_9 := hid (U_8.out.grown g)
  have V_9 := hid (V_8.out.grown g)
  have Z_9 := hid (Z_8.out.grown g)
  have G_9 := hid (G_8.out.trans (g.mono G_8.out.size))
  clear g B3_8 B5_8 B6_8 B7_8 Sa_8 Pq_8 D_8 U_8 V_8 Z_8 G_8
  have Nu_9 : Hid (Num w9 vu X) := hnu
  have Nv_9 : Hid (Num w9 vv Y) := hnv
  clear hnu hnv
  go_wp2_with (first | (refine wpList_load_mid rfl 26 _ rfl w7.heap.size 0 rfl [.int .u64 xa0, .int .u64 xa1, .int .u64 xa2, .int .u64 xa3, .int .u64 xa4] _ (at_mid B6_9.out 0 _ rfl) Tryd.underlying26 rfl (by kernel_rfl) ?_) | (refine wpList_load_mid rfl 26 _ rfl (w7.heap.size + 1) 0 rfl [.int .u64 ya0, .int .u64 ya1, .int .u64 ya2, .int .u64 ya3, .int .u64 ya4] _ (at_mid B7_9.out 0 _ rfl) Tryd.underlying26 rfl (by kernel_rfl) ?_) | fail)
  refine (Q6.out _ D_9.out Z_9.out).mono ?_
  rintro e w10 ⟨rfl, g0⟩
  have g := g0
  clear g0
  have B3_10 := hid (B3_9.out.below g)
  have B5_10 := hid (B5_9.out.below g)
  have B6_10 := hid (B6_9.out.below g)
  have B7_10 := hid (B7_9.out.below g)
  have Sa_10 := hid (Sa_9.out.below g)
  have Pq_10 := hid (Pq_9.out.below g)
  have Nu_10 := hid (Nu_9.out.below g)
  have Nv_10 := hid (Nv_9.out.below g)
  have D_10 := hid (D_9.out.grown g)
  have U_10 := hid (U_9.out.grown g)
  have V_10 := hid (V_9.out.grown g)
  have Z_10 := hid (Z_9.out.grown g)
  have G_10 := hid (G_9.out.trans (g.mono G_9.out.size))
  clear g B3_9 B5_9 B6_9 B7_9 Sa_9 Pq_9 Nu_9 Nv_9 D_9 U_9 V_9 Z_9 G_9
  have szB10 : w.heap.size ≤ w10.heap.size := G_10.out.size
  have nlB3B10 : w3.heap.size < w10.heap.size := B3_10.out.lt
  have nlB5B10 : w5.heap.size < w10.heap.size := B5_10.out.lt
  have nlB6B10 : w7.heap.size < w10.heap.size := B6_10.out.lt
  have nlB7B10 : (w7.heap.size + 1) < w10.heap.size := B7_10.out.lt
  go_wp2_with (first | (refine list_store_new rfl 30 _ _ rfl w10 pr [.int .u64 0, .int .u64 0, .int .u64 0, .int .u64 0, .int .u64 0, .int .u64 0, .int .u64 0, .int .u64 0, .int .u64 0, .int .u64 0, .int .u64 0, .int .u64 0, .int .u64 0, .int .u64 0, .int .u64 0, .int .u64 0, .int .u64 0, .int .u64 0, .int .u64 0, .int .u64 0] rfl rfl pr_h.len pr_h.is pr_h.one (fun w11 hC g => ?_)) | (refine wpList_load_mid rfl 30 _ rfl w3.heap.size 0 rfl pc _ (at_mid (B3_10.out.below g) 0 _ (by simp)) Tryd.underlying30 rfl pc_h.il ?_) | fail)
  have B10_11 := hid hC
  have B3_11 := hid (B3_10.out.below g)
  have B5_11 := hid (B5_10.out.below g)
  have B6_11 := hid (B6_10.out.below g)
  have B7_11 := hid (B7_10.out.below g)
  have Sa_11 := hid (Sa_10.out.below g)
  have Pq_11 := hid (Pq_10.out.below g)
  have Nu_11 := hid (Nu_10.out.below g)
  have Nv_11 := hid (Nv_10.out.below g)
  have D_11 := hid (D_10.out.grown g)
  have U_11 := hid (U_10.out.grown g)
  have V_11 := hid (V_10.out.grown g)
  have Z_11 := hid (Z_10.out.grown g)
  have G_11 := hid (G_10.out.trans (g.mono G_10.out.size))
  clear hC g B3_10 B5_10 B6_10 B7_10 Sa_10 Pq_10 Nu_10 Nv_10 D_10 U_10 V_10 Z_10 G_10
  refine (Q7.out _).mono ?_
  rintro e w12 ⟨g1, rfl, hs1, -, g0⟩
  have g := g0
  clear g0
  have B3_12 := hid (B3_11.out.below g)
  have B5_12 := hid (B5_11.out.below g)
  have B6_12 := hid (B6_11.out.below g)
  have B7_12 := hid (B7_11.out.below g)
  have B10_12 := hid (B10_11.out.below g)
  have Sa_12 := hid (Sa_11.out.below g)
  have Pq_12 := hid (Pq_11.out.below g)
  have Nu_12 := hid (Nu_11.out.below g)
  have Nv_12 := hid (Nv_11.out.below g)
  have D_12 := hid (D_11.out.grown g)
  have U_12 := hid (U_11.out.grown g)
  have V_12 := hid (V_11.out.grown g)
  have Z_12 := hid (Z_11.out.grown g)
  have G_12 := hid (G_11.out.trans (g.mono G_11.out.size))
  clear g B3_11 B5_11 B6_11 B7_11 B10_11 Sa_11 Pq_11 Nu_11 Nv_11 D_11 U_11 V_11 Z_11 G_11
  have S1_12 : Hid (SK .u8 w12 (.slice (some ⟨g1, 0, none⟩) 32 32) la) := hs1
  clear hs1
  go_wp2_with (fail)
  refine (Q8.out _ _ _ S1_12.out Sa_12.out).mono ?_
  rintro e w13 ⟨rfl, g0⟩
  have g := g0
  clear g0
  have B3_13 := hid (B3_12.out.below g)
  have B5_13 := hid (B5_12.out.below g)
  have B6_13 := hid (B6_12.out.below g)
  have B7_13 := hid (B7_12.out.below g)
  have B10_13 := hid (B10_12.out.below g)
  have Sa_13 := hid (Sa_12.out.below g)
  have Pq_13 := hid (Pq_12.out.below g)
  have Nu_13 := hid (Nu_12.out.below g)
  have Nv_13 := hid (Nv_12.out.below g)
  have S1_13 := hid (S1_12.out.below g)
  have D_13 := hid (D_12.out.grown g)
  have U_13 := hid (U_12.out.grown g)
  have V_13 := hid (V_12.out.grown g)
  have Z_13 := hid (Z_12.out.grown g)
  have G_13 := hid (G_12.out.trans (g.mono G_12.out.size))
  clear g B3_12 B5_12 B6_12 B7_12 B10_12 Sa_12 Pq_12 Nu_12 Nv_12 S1_12 D_12 U_12 V_12 Z_12 G_12
  go_wp2_with (first | (refine list_load_want (by rfl) 26 _ rfl w7.heap.size 0 rfl [.int .u64 xa0, .int .u64 xa1, .int .u64 xa2, .int .u64 xa3, .int .u64 xa4] _ (at_mid B6_13.out 0 _ rfl) Tryd.underlying26 rfl (by kernel_rfl) ?_) | fail)
  refine (Q9.out _).mono ?_
  rintro e w14 ⟨vx, rfl, hnx, g0⟩
  have g := g0
  clear g0
  have B3_14 := hid (B3_13.out.below g)
  have B5_14 := hid (B5_13.out.below g)
  have B6_14 := hid (B6_13.out.below g)
  have B7_14 := hid (B7_13.out.below g)
  have B10_14 := hid (B10_13.out.below g)
  have Sa_14 := hid (Sa_13.out.below g)
  have Pq_14 := hid (Pq_13.out.below g)
  have Nu_14 := hid (Nu_13.out.below g)
  have Nv_14 := hid (Nv_13.out.below g)
  have S1_14 := hid (S1_13.out.below g)
  have D_14 := hid (D_13.out.grown g)
  have U_14 := hid (U_13.out.grown g)
  have V_14 := hid (V_13.out.grown g)
  have Z_14 := hid (Z_13.out.grown g)
  have G_14 := hid (G_13.out.trans (g.mono G_13.out.size))
  clear g B3_13 B5_13 B6_13 B7_13 B10_13 Sa_13 Pq_13 Nu_13 Nv_13 S1_13 D_13 U_13 V_13 Z_13 G_13
  obtain ⟨ux, lx, cx, rfl⟩ := hnx.shape
  have Nx_14 : Hid (Num w14 (.slice ux lx cx) X) := hnx
  clear hnx
  go_wp2_with (fail)
  refine (Q10.out _ _ _ Nx_14.out Nu_14.out).mono ?_
  rintro e w15 ⟨rfl, g0⟩
  have g := g0
  clear g0
  have B3_15 := hid (B3_14.out.below g)
  have B5_15 := hid (B5_14.out.below g)
  have B6_15 := hid (B6_14.out.below g)
  have B7_15 := hid (B7_14.out.below g)
  have B10_15 := hid (B10_14.out.below g)
  have Sa_15 := hid (Sa_14.out.below g)
  have Pq_15 := hid (Pq_14.out.below g)
  have Nu_15 := hid (Nu_14.out.below g)
  have Nv_15 := hid (Nv_14.out.below g)
  have S1_15 := hid (S1_14.out.below g)
  have Nx_15 := hid (Nx_14.out.below g)
  have D_15 := hid (D_14.out.grown g)
  have U_15 := hid (U_14.out.grown g)
  have V_15 := hid (V_14.out.grown g)
  have Z_15 := hid (Z_14.out.grown g)
  have G_15 := hid (G_14.out.trans (g.mono G_14.out.size))
  clear g B3_14 B5_14 B6_14 B7_14 B10_14 Sa_14 Pq_14 Nu_14 Nv_14 S1_14 Nx_14 D_14 U_14 V_14 Z_14 G_14
  go_wp2_with (first | (refine list_load_want (by rfl) 26 _ rfl (w7.heap.size + 1) 0 rfl [.int .u64 ya0, .int .u64 ya1, .int .u64 ya2, .int .u64 ya3, .int .u64 ya4] _ (at_mid B7_15.out 0 _ rfl) Tryd.underlying26 rfl (by kernel_rfl) ?_) | fail)
  refine (Q11.out _).mono ?_
  rintro e w16 ⟨vy, rfl, hny, g0⟩
  have g := g0
  clear g0
  have B3_16 := hid (B3_15.out.below g)
  have B5_16 := hid (B5_15.out.below g)
  have B6_16 := hid (B6_15.out.below g)
  have B7_16 := hid (B7_15.out.below g)
  have B10_16 := hid (B10_15.out.below g)
  have Sa_16 := hid (Sa_15.out.below g)
  have Pq_16 := hid (Pq_15.out.below g)
  have Nu_16 := hid (Nu_15.out.below g)
  have Nv_16 := hid (Nv_15.out.below g)
  have S1_16 := hid (S1_15.out.below g)
  have Nx_16 := hid (Nx_15.out.below g)
  have D_16 := hid (D_15.out.grown g)
  have U_16 := hid (U_15.out.grown g)
  have V_16 := hid (V_15.out.grown g)
  have Z_16 := hid (Z_15.out.grown g)
  have G_16 := hid (G_15.out.trans (g.mono G_15.out.size))
  clear g B3_15 B5_15 B6_15 B7_15 B10_15 Sa_15 Pq_15 Nu_15 Nv_15 S1_15 Nx_15 D_15 U_15 V_15 Z_15 G_15
  obtain ⟨uy, ly, cy, rfl⟩ := hny.shape
  have Ny_16 : Hid (Num w16 (.slice uy ly cy) Y) := hny
  clear hny
  go_wp2_with (fail)
  refine (Q12.out _ _ _ Ny_16.out Nv_16.out).mono ?_
  rintro e w17 ⟨rfl, g0⟩
  have g := g0
  clear g0
  have B3_17 := hid (B3_16.out.below g)
  have B5_17 := hid (B5_16.out.below g)
  have B6_17 := hid (B6_16.out.below g)
  have B7_17 := hid (B7_16.out.below g)
  have B10_17 := hid (B10_16.out.below g)
  have Sa_17 := hid (Sa_16.out.below g)
  have Pq_17 := hid (Pq_16.out.below g)
  have Nu_17 := hid (Nu_16.out.below g)
  have Nv_17 := hid (Nv_16.out.below g)
  have S1_17 := hid (S1_16.out.below g)
  have Nx_17 := hid (Nx_16.out.below g)
  have Ny_17 := hid (Ny_16.out.below g)
  have D_17 := hid (D_16.out.grown g)
  have U_17 := hid (U_16.out.grown g)
  have V_17 := hid (V_16.out.grown g)
  have Z_17 := hid (Z_16.out.grown g)
  have G_17 := hid (G_16.out.trans (g.mono G_16.out.size))
  clear g B3_16 B5_16 B6_16 B7_16 B10_16 Sa_16 Pq_16 Nu_16 Nv_16 S1_16 Nx_16 Ny_16 D_16 U_16 V_16 Z_16 G_16
  go_wp2_with (first | (refine list_load_want (by rfl) 30 _ rfl w10.heap.size 0 rfl pr _ (at_mid B10_17.out 0 _ (by simp)) Tryd.underlying30 rfl pr_h.il ?_) | (refine list_load_want (by rfl) 30 _ rfl w3.heap.size 0 rfl pc _ (at_mid B3_17.out 0 _ (by simp)) Tryd.underlying30 rfl pc_h.il ?_) | fail)
  refine (Q13.out _).mono ?_
  rintro e w18 ⟨rfl, g0⟩
  have g := g0
  clear g0
  have B3_18 := hid (B3_17.out.below g)
  have B5_18 := hid (B5_17.out.below g)
  have B6_18 := hid (B6_17.out.below g)
  have B7_18 := hid (B7_17.out.below g)
  have B10_18 := hid (B10_17.out.below g)
  have Sa_18 := hid (Sa_17.out.below g)
  have Pq_18 := hid (Pq_17.out.below g)
  have Nu_18 := hid (Nu_17.out.below g)
  have Nv_18 := hid (Nv_17.out.below g)
  have S1_18 := hid (S1_17.out.below g)
  have Nx_18 := hid (Nx_17.out.below g)
  have Ny_18 := hid (Ny_17.out.below g)
  have D_18 := hid (D_17.out.grown g)
  have U_18 := hid (U_17.out.grown g)
  have V_18 := hid (V_17.out.grown g)
  have Z_18 := hid (Z_17.out.grown g)
  have G_18 := hid (G_17.out.trans (g.mono G_17.out.size))
  clear g B3_17 B5_17 B6_17 B7_17 B10_17 Sa_17 Pq_17 Nu_17 Nv_17 S1_17 Nx_17 Ny_17 D_17 U_17 V_17 Z_17 G_17
  go_wp2_with fail
  go_ret
  exact ⟨rfl, G_18.out⟩
end Go.Proofs.YtkbiiolkekpkiaaDoor.Ed
