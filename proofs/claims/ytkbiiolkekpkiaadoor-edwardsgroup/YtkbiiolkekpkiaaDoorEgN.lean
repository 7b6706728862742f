/-
  The law EdwardsGroup of layer 10: the walk, given what each call answers. Conditions: as each theorem says.
-/
import Derived.Test.YtkbiiolkekpkiaaDoorEgK
namespace Go.Proofs.YtkbiiolkekpkiaaDoor.Ed
open Go.RowKit
set_option linter.unusedVariables false
set_option linter.unusedSimpArgs false

set_option maxRecDepth 100000 in
set_option maxHeartbeats 16000000 in
theorem group_no1_w (pa pb pc : List Value) (pa_h : Pl pa) (pb_h : Pl pb) (pc_h : Pl pc) (a0 a1 a2 : Option Addr) (n0 n1 n2 c0 c1 c2 : Nat) (la lb lc : List Nat) (eb ec : Bool)
    (Q1 : Hid (∀ w : World, GbaseX w → GbaseY w → Calls Tryd.prog 7 #[] w fun e w' => e = .returned (.bool true) ∧ Below w.heap.size w w'))
    (Q2 : Hid (∀ (v : Value) (w : World), SK .u8 w v la → Gd w → Gl w → Calls Tryd.prog 8 #[v] w fun e w' => e = .returned (.tuple #[.agg pa.toArray, .bool false]) ∧ Below w.heap.size w w'))
    (Q3 : Hid (∀ (v : Value) (w : World), SK .u8 w v lb → Gd w → Gl w → Calls Tryd.prog 8 #[v] w fun e w' => e = .returned (.tuple #[.agg pb.toArray, .bool eb]) ∧ Below w.heap.size w w'))
    (Q4 : Hid (∀ (v : Value) (w : World), SK .u8 w v lc → Gd w → Gl w → Calls Tryd.prog 8 #[v] w fun e w' => e = .returned (.tuple #[.agg pc.toArray, .bool ec]) ∧ Below w.heap.size w w'))
    (w : World) (Sa_0 : Hid (SK .u8 w (.slice a0 n0 c0) la)) (Sb_0 : Hid (SK .u8 w (.slice a1 n1 c1) lb)) (Sc_0 : Hid (SK .u8 w (.slice a2 n2 c2) lc)) (D_0 : Hid (Gd w)) (T_0 : Hid (GtwiceD w)) (U_0 : Hid (GbaseX w)) (V_0 : Hid (GbaseY w)) (Z_0 : Hid (Gl w)) :
    Calls Tryd.prog 6 #[.slice a0 n0 c0, .slice a1 n1 c1, .slice a2 n2 c2] w fun e w' => e = .returned (.bool true) ∧ Below w.heap.size w w' := by
  go_enter Tryd.func6, Tryd.ntmps6
  go_upto_region 1 with fail
  have HD := D_0.out.lt
  have HT := T_0.out.lt
  have HU := U_0.out.lt
  have HV := V_0.out.lt
  have HZ := Z_0.out.lt
  refine wp_cut (fun V => SK .u8 V (.slice a0 n0 c0) la ∧ SK .u8 V (.slice a1 n1 c1) lb ∧ SK .u8 V (.slice a2 n2 c2) lc ∧ Gd V ∧ GtwiceD V ∧ GbaseX V ∧ GbaseY V ∧ Gl V ∧ Below w.heap.size w V) ⟨?_, ?_, ?_, ?_, ?_, ?_, ?_, ?_, ?_⟩ ?_
  · refine Sa_0.out.below ?_
    (repeat (first | exact Below.refl _ _ | refine Below.drew ?_ | refine below_drewN ?_ _ | refine Below.alloc ?_ (by simp <;> omega) _))
  · refine Sb_0.out.below ?_
    (repeat (first | exact Below.refl _ _ | refine Below.drew ?_ | refine below_drewN ?_ _ | refine Below.alloc ?_ (by simp <;> omega) _))
  · refine Sc_0.out.below ?_
    (repeat (first | exact Below.refl _ _ | refine Below.drew ?_ | refine below_drewN ?_ _ | refine Below.alloc ?_ (by simp <;> omega) _))
  · refine D_0.out.grown ?_
    (repeat (first | exact Below.refl _ _ | refine Below.drew ?_ | refine below_drewN ?_ _ | refine Below.alloc ?_ (by simp <;> omega) _))
  · refine T_0.out.grown ?_
    (repeat (first | exact Below.refl _ _ | refine Below.drew ?_ | refine below_drewN ?_ _ | refine Below.alloc ?_ (by simp <;> omega) _))
  · refine U_0.out.grown ?_
    (repeat (first | exact Below.refl _ _ | refine Below.drew ?_ | refine below_drewN ?_ _ | refine Below.alloc ?_ (by simp <;> omega) _))
  · refine V_0.out.grown ?_
    (repeat (first | exact Below.refl _ _ | refine Below.drew ?_ | refine below_drewN ?_ _ | refine Below.alloc ?_ (by simp <;> omega) _))
  · refine Z_0.out.grown ?_
    (repeat (first | exact Below.refl _ _ | refine Below.drew ?_ | refine below_drewN ?_ _ | refine Below.alloc ?_ (by simp <;> omega) _))
  · (repeat (first | exact Below.refl _ _ | refine Below.drew ?_ | refine below_drewN ?_ _ | refine Below.alloc ?_ (by simp <;> omega) _))
  rintro w1 ⟨k0, k1, k2, k3, k4, k5, k6, k7, k8⟩
  have Sa_1 := hid k0
  have Sb_1 := hid k1
  have Sc_1 := hid k2
  have D_1 := hid k3
  have T_1 := hid k4
  have U_1 := hid k5
  have V_1 := hid k6
  have Z_1 := hid k7
  have G_1 := hid k8
  clear k0 k1 k2 k3 k4 k5 k6 k7 k8 Sa_0 Sb_0 Sc_0 D_0 T_0 U_0 V_0 Z_0
  go_wp2_with (fail)
  refine (Q1.out _ U_1.out V_1.out).mono ?_
  rintro e w2 ⟨rfl, g0⟩
  have g := g0
  clear g0
  have Sa_2 := hid (Sa_1.out.below g)
  have Sb_2 := hid (Sb_1.out.below g)
  have Sc_2 := hid (Sc_1.out.below g)
  have D_2 := hid (D_1.out.grown g)
  have T_2 := hid (T_1.out.grown g)
  have U_2 := hid (U_1.out.grown g)
  have V_2 := hid (V_1.out.grown g)
  have Z_2 := hid (Z_1.out.grown g)
  have G_2 := hid (G_1.out.trans (g.mono G_1.out.size))
  clear g Sa_1 Sb_1 Sc_1 D_1 T_1 U_1 V_1 Z_1 G_1
  go_wp2_with (fail)
  refine (Q2.out _ _ Sa_2.out D_2.out Z_2.out).mono ?_
  rintro e w3 ⟨rfl, g0⟩
  have g := g0
  clear g0
  have Sa_3 := hid (Sa_2.out.below g)
  have Sb_3 := hid (Sb_2.out.below g)
  have Sc_3 := hid (Sc_2.out.below g)
  have D_3 := hid (D_2.out.grown g)
  have T_3 := hid (T_2.out.grown g)
  have U_3 := hid (U_2.out.grown g)
  have V_3 := hid (V_2.out.grown g)
  have Z_3 := hid (Z_2.out.grown g)
  have G_3 := hid (G_2.out.trans (g.mono G_2.out.size))
  clear g Sa_2 Sb_2 Sc_2 D_2 T_2 U_2 V_2 Z_2 G_2
  have szB7 : w.heap.size ≤ w3.heap.size := G_3.out.size
  go_wp2_with (refine list_store_new rfl 30 _ _ rfl w3 pa [.int .u64 0, .int .u64 0, .int .u64 0, .int .u64 0, .int .u64 0, .int .u64 0, .int .u64 0, .int .u64 0, .int .u64 0, .int .u64 0, .int .u64 0, .int .u64 0, .int .u64 0, .int .u64 0, .int .u64 0, .int .u64 0, .int .u64 0, .int .u64 0, .int .u64 0, .int .u64 0] rfl rfl pa_h.len pa_h.is pa_h.one (fun w4 hC g => ?_))
  have B7_4 := hid hC
  have Sa_4 := hid (Sa_3.out.below g)
  have Sb_4 := hid (Sb_3.out.below g)
  have Sc_4 := hid (Sc_3.out.below g)
  have D_4 := hid (D_3.out.grown g)
  have T_4 := hid (T_3.out.grown g)
  have U_4 := hid (U_3.out.grown g)
  have V_4 := hid (V_3.out.grown g)
  have Z_4 := hid (Z_3.out.grown g)
  have G_4 := hid (G_3.out.trans (g.mono G_3.out.size))
  clear hC g Sa_3 Sb_3 Sc_3 D_3 T_3 U_3 V_3 Z_3 G_3
  go_wp2_with (fail)
  refine (Q3.out _ _ Sb_4.out D_4.out Z_4.out).mono ?_
  rintro e w5 ⟨rfl, g0⟩
  have g := g0
  clear g0
  have B7_5 := hid (B7_4.out.below g)
  have Sa_5 := hid (Sa_4.out.below g)
  have Sb_5 := hid (Sb_4.out.below g)
  have Sc_5 := hid (Sc_4.out.below g)
  have D_5 := hid (D_4.out.grown g)
  have T_5 := hid (T_4.out.grown g)
  have U_5 := hid (U_4.out.grown g)
  have V_5 := hid (V_4.out.grown g)
  have Z_5 := hid (Z_4.out.grown g)
  have G_5 := hid (G_4.out.trans (g.mono G_4.out.size))
  clear g B7_4 Sa_4 Sb_4 Sc_4 D_4 T_4 U_4 V_4 Z_4 G_4
  have szB9 : w.heap.size ≤ w5.heap.size := G_5.out.size
  have nlB7B9 : w3.heap.size < w5.heap.size := B7_5.out.lt
  go_wp2_with (refine list_store_new rfl 30 _ _ rfl w5 pb [.int .u64 0, .int .u64 0, .int .u64 0, .int .u64 0, .int .u64 0, .int .u64 0, .int .u64 0, .int .u64 0, .int .u64 0, .int .u64 0, .int .u64 0, .int .u64 0, .int .u64 0, .int .u64 0, .int .u64 0, .int .u64 0, .int .u64 0, .int .u64 0, .int .u64 0, .int .u64 0] rfl rfl pb_h.len pb_h.is pb_h.one (fun w6 hC g => ?_))
  have B9_6 := hid hC
  have B7_6 := hid (B7_5.out.below g)
  have Sa_6 := hid (Sa_5.out.below g)
  have Sb_6 := hid (Sb_5.out.below g)
  have Sc_6 := hid (Sc_5.out.below g)
  have D_6 := hid (D_5.out.grown g)
  have T_6 := hid (T_5.out.grown g)
  have U_6 := hid (U_5.out.grown g)
  have V_6 := hid (V_5.out.grown g)
  have Z_6 := hid (Z_5.out.grown g)
  have G_6 := hid (G_5.out.trans (g.mono G_5.out.size))
  clear hC g B7_5 Sa_5 Sb_5 Sc_5 D_5 T_5 U_5 V_5 Z_5 G_5
  go_wp2_with (fail)
  refine (Q4.out _ _ Sc_6.out D_6.out Z_6.out).mono ?_
  rintro e w7 ⟨rfl, g0⟩
  have g := g0
  clear g0
  have B7_7 := hid (B7_6.out.below g)
  have B9_7 := hid (B9_6.out.below g)
  have Sa_7 := hid (Sa_6.out.below g)
  have Sb_7 := hid (Sb_6.out.below g)
  have Sc_7 := hid (Sc_6.out.below g)
  have D_7 := hid (D_6.out.grown g)
  have T_7 := hid (T_6.out.grown g)
  have U_7 := hid (U_6.out.grown g)
  have V_7 := hid (V_6.out.grown g)
  have Z_7 := hid (Z_6.out.grown g)
  have G_7 := hid (G_6.out.trans (g.mono G_6.out.size))
  clear g B7_6 B9_6 Sa_6 Sb_6 Sc_6 D_6 T_6 U_6 V_6 Z_6 G_6
  have szB11 : w.heap.size ≤ w7.heap.size := G_7.out.size
  have nlB7B11 : w3.heap.size < w7.heap.size := B7_7.out.lt
  have nlB9B11 : w5.heap.size < w7.heap.size := B9_7.out.lt
  go_wp2_with (refine list_store_new rfl 30 _ _ rfl w7 pc [.int .u64 0, .int .u64 0, .int .u64 0, .int .u64 0, .int .u64 0, .int .u64 0, .int .u64 0, .int .u64 0, .int .u64 0, .int .u64 0, .int .u64 0, .int .u64 0, .int .u64 0, .int .u64 0, .int .u64 0, .int .u64 0, .int .u64 0, .int .u64 0, .int .u64 0, .int .u64 0] rfl rfl pc_h.len pc_h.is pc_h.one (fun w8 hC g => ?_))
  have B11_8 := hid hC
  have B7_8 := hid (B7_7.out.below g)
  have B9_8 := hid (B9_7.out.below g)
  have Sa_8 := hid (Sa_7.out.below g)
  have Sb_8 := hid (Sb_7.out.below g)
  have Sc_8 := hid (Sc_7.out.below g)
  have D_8 := hid (D_7.out.grown g)
  have T_8 := hid (T_7.out.grown g)
  have U_8 := hid (U_7.out.grown g)
  have V_8 := hid (V_7.out.grown g)
  have Z_8 := hid (Z_7.out.grown g)
  have G_8 := hid (G_7.out.trans (g.mono G_7.out.size))
  clear hC g B7_7 B9_7 Sa_7 Sb_7 Sc_7 D_7 T_7 U_7 V_7 Z_7 G_7
  go_wp2_with fail
  go_ret
  exact ⟨rfl, G_8.out⟩
set_option maxRecDepth 100000 in
set_option maxHeartbeats 16000000 in
theorem group_no2_w (pa pb pc : List Value) (pa_h : Pl pa) (pb_h : Pl pb) (pc_h : Pl pc) (a0 a1 a2 : Option Addr) (n0 n1 n2 c0 c1 c2 : Nat) (la lb lc : List Nat) (ec : Bool)
    (Q1 : Hid (∀ w : World, GbaseX w → GbaseY w → Calls Tryd.prog 7 #[] w fun e w' => e = .returned (.bool true) ∧ Below w.heap.size w w'))
    (Q2 : Hid (∀ (v : Value) (w : World), SK .u8 w v la → Gd w → Gl w → Calls Tryd.prog 8 #[v] w fun e w' => e = .returned (.tuple #[.agg pa.toArray, .bool true]) ∧ Below w.heap.size w w'))
    (Q3 : Hid (∀ (v : Value) (w : World), SK .u8 w v lb → Gd w → Gl w → Calls Tryd.prog 8 #[v] w fun e w' => e = .returned (.tuple #[.agg pb.toArray, .bool false]) ∧ Below w.heap.size w w'))
    (Q4 : Hid (∀ (v : Value) (w : World), SK .u8 w v lc → Gd w → Gl w → Calls Tryd.prog 8 #[v] w fun e w' => e = .returned (.tuple #[.agg pc.toArray, .bool ec]) ∧ Below w.heap.size w w'))
    (w : World) (Sa_0 : Hid (SK .u8 w (.slice a0 n0 c0) la)) (Sb_0 : Hid (SK .u8 w (.slice a1 n1 c1) lb)) (Sc_0 : Hid (SK .u8 w (.slice a2 n2 c2) lc)) (D_0 : Hid (Gd w)) (T_0 : Hid (GtwiceD w)) (U_0 : Hid (GbaseX w)) (V_0 : Hid (GbaseY w)) (Z_0 : Hid (Gl w)) :
    Calls Tryd.prog 6 #[.slice a0 n0 c0, .slice a1 n1 c1, .slice a2 n2 c2] w fun e w' => e = .returned (.bool true) ∧ Below w.heap.size w w' := by
  go_enter Tryd.func6, Tryd.ntmps6
  go_upto_region 1 with fail
  have HD := D_0.out.lt
  have HT := T_0.out.lt
  have HU := U_0.out.lt
  have HV := V_0.out.lt
  have HZ := Z_0.out.lt
  refine wp_cut (fun V => SK .u8 V (.slice a0 n0 c0) la ∧ SK .u8 V (.slice a1 n1 c1) lb ∧ SK .u8 V (.slice a2 n2 c2) lc ∧ Gd V ∧ GtwiceD V ∧ GbaseX V ∧ GbaseY V ∧ Gl V ∧ Below w.heap.size w V) ⟨?_, ?_, ?_, ?_, ?_, ?_, ?_, ?_, ?_⟩ ?_
  · refine Sa_0.out.below ?_
    (repeat (first | exact Below.refl _ _ | refine Below.drew ?_ | refine below_drewN ?_ _ | refine Below.alloc ?_ (by simp <;> omega) _))
  · refine Sb_0.out.below ?_
    (repeat (first | exact Below.refl _ _ | refine Below.drew ?_ | refine below_drewN ?_ _ | refine Below.alloc ?_ (by simp <;> omega) _))
  · refine Sc_0.out.below ?_
    (repeat (first | exact Below.refl _ _ | refine Below.drew ?_ | refine below_drewN ?_ _ | refine Below.alloc ?_ (by simp <;> omega) _))
  · refine D_0.out.grown ?_
    (repeat (first | exact Below.refl _ _ | refine Below.drew ?_ | refine below_drewN ?_ _ | refine Below.alloc ?_ (by simp <;> omega) _))
  · refine T_0.out.grown ?_
    (repeat (first | exact Below.refl _ _ | refine Below.drew ?_ | refine below_drewN ?_ _ | refine Below.alloc ?_ (by simp <;> omega) _))
  · refine U_0.out.grown ?_
    (repeat (first | exact Below.refl _ _ | refine Below.drew ?_ | refine below_drewN ?_ _ | refine Below.alloc ?_ (by simp <;> omega) _))
  · refine V_0.out.grown ?_
    (repeat (first | exact Below.refl _ _ | refine Below.drew ?_ | refine below_drewN ?_ _ | refine Below.alloc ?_ (by simp <;> omega) _))
  · refine Z_0.out.grown ?_
    (repeat (first | exact Below.refl _ _ | refine Below.drew ?_ | refine below_drewN ?_ _ | refine Below.alloc ?_ (by simp <;> omega) _))
  · (repeat (first | exact Below.refl _ _ | refine Below.drew ?_ | refine below_drewN ?_ _ | refine Below.alloc ?_ (by simp <;> omega) _))
  rintro w1 ⟨k0, k1, k2, k3, k4, k5, k6, k7, k8⟩
  have Sa_1 := hid k0
  have Sb_1 := hid k1
  have Sc_1 := hid k2
  have D_1 := hid k3
  have T_1 := hid k4
  have U_1 := hid k5
  have V_1 := hid k6
  have Z_1 := hid k7
  have G_1 := hid k8
  clear k0 k1 k2 k3 k4 k5 k6 k7 k8 Sa_0 Sb_0 Sc_0 D_0 T_0 U_0 V_0 Z_0
  go_wp2_with (fail)
  refine (Q1.out _ U_1.out V_1.out).mono ?_
  rintro e w2 ⟨rfl, g0⟩
  have g := g0
  clear g0
  have Sa_2 := hid (Sa_1.out.below g)
  have Sb_2 := hid (Sb_1.out.below g)
  have Sc_2 := hid (Sc_1.out.below g)
  have D_2 := hid (D_1.out.grown g)
  have T_2 := hid (T_1.out.grown g)
  have U_2 := hid (U_1.out.grown g)
  have V_2 := hid (V_1.out.grown g)
  have Z_2 := hid (Z_1.out.grown g)
  have G_2 := hid (G_1.out.trans (g.mono G_1.out.size))
  clear g Sa_1 Sb_1 Sc_1 D_1 T_1 U_1 V_1 Z_1 G_1
  go_wp2_with (fail)
  refine (Q2.out _ _ Sa_2.out D_2.out Z_2.out).mono ?_
  rintro e w3 ⟨rfl, g0⟩
  have g := g0
  clear g0
  have Sa_3 := hid (Sa_2.out.below g)
  have Sb_3 := hid (Sb_2.out.below g)
  have Sc_3 := hid (Sc_2.out.below g)
  have D_3 := hid (D_2.out.grown g)
  have T_3 := hid (T_2.out.grown g)
  have U_3 := hid (U_2.out.grown g)
  have V_3 := hid (V_2.out.grown g)
  have Z_3 := hid (Z_2.out.grown g)
  have G_3 := hid (G_2.out.trans (g.mono G_2.out.size))
  clear g Sa_2 Sb_2 Sc_2 D_2 T_2 U_2 V_2 Z_2 G_2
  have szB7 : w.heap.size ≤ w3.heap.size := G_3.out.size
  go_wp2_with (refine list_store_new rfl 30 _ _ rfl w3 pa [.int .u64 0, .int .u64 0, .int .u64 0, .int .u64 0, .int .u64 0, .int .u64 0, .int .u64 0, .int .u64 0, .int .u64 0, .int .u64 0, .int .u64 0, .int .u64 0, .int .u64 0, .int .u64 0, .int .u64 0, .int .u64 0, .int .u64 0, .int .u64 0, .int .u64 0, .int .u64 0] rfl rfl pa_h.len pa_h.is pa_h.one (fun w4 hC g => ?_))
  have B7_4 := hid hC
  have Sa_4 := hid (Sa_3.out.below g)
  have Sb_4 := hid (Sb_3.out.below g)
  have Sc_4 := hid (Sc_3.out.below g)
  have D_4 := hid (D_3.out.grown g)
  have T_4 := hid (T_3.out.grown g)
  have U_4 := hid (U_3.out.grown g)
  have V_4 := hid (V_3.out.grown g)
  have Z_4 := hid (Z_3.out.grown g)
  have G_4 := hid (G_3.out.trans (g.mono G_3.out.size))
  clear hC g Sa_3 Sb_3 Sc_3 D_3 T_3 U_3 V_3 Z_3 G_3
  go_wp2_with (fail)
  refine (Q3.out _ _ Sb_4.out D_4.out Z_4.out).mono ?_
  rintro e w5 ⟨rfl, g0⟩
  have g := g0
  clear g0
  have B7_5 := hid (B7_4.out.below g)
  have Sa_5 := hid (Sa_4.out.below g)
  have Sb_5 := hid (Sb_4.out.below g)
  have Sc_5 := hid (Sc_4.out.below g)
  have D_5 := hid (D_4.out.grown g)
  have T_5 := hid (T_4.out.grown g)
  have U_5 := hid (U_4.out.grown g)
  have V_5 := hid (V_4.out.grown g)
  have Z_5 := hid (Z_4.out.grown g)
  have G_5 := hid (G_4.out.trans (g.mono G_4.out.size))
  clear g B7_4 Sa_4 Sb_4 Sc_4 D_4 T_4 U_4 V_4 Z_4 G_4
  have szB9 : w.heap.size ≤ w5.heap.size := G_5.out.size
  have nlB7B9 : w3.heap.size < w5.heap.size := B7_5.out.lt
  go_wp2_with (refine list_store_new rfl 30 _ _ rfl w5 pb [.int .u64 0, .int .u64 0, .int .u64 0, .int .u64 0, .int .u64 0, .int .u64 0, .int .u64 0, .int .u64 0, .int .u64 0, .int .u64 0, .int .u64 0, .int .u64 0, .int .u64 0, .int .u64 0, .int .u64 0, .int .u64 0, .int .u64 0, .int .u64 0, .int .u64 0, .int .u64 0] rfl rfl pb_h.len pb_h.is pb_h.one (fun w6 hC g => ?_))
  have B9_6 := hid hC
  have B7_6 := hid (B7_5.out.below g)
  have Sa_6 := hid (Sa_5.out.below g)
  have Sb_6 := hid (Sb_5.out.below g)
  have Sc_6 := hid (Sc_5.out.below g)
  have D_6 := hid (D_5.out.grown g)
  have T_6 := hid (T_5.out.grown g)
  have U_6 := hid (U_5.out.grown g)
  have V_6 := hid (V_5.out.grown g)
  have Z_6 := hid (Z_5.out.grown g)
  have G_6 := hid (G_5.out.trans (g.mono G_5.out.size))
  clear hC g B7_5 Sa_5 Sb_5 Sc_5 D_5 T_5 U_5 V_5 Z_5 G_5
  go_wp2_with (fail)
  refine (Q4.out _ _ Sc_6.out D_6.out Z_6.out).mono ?_
  rintro e w7 ⟨rfl, g0⟩
  have g := g0
  clear g0
  have B7_7 := hid (B7_6.out.below g)
  have B9_7 := hid (B9_6.out.below g)
  have Sa_7 := hid (Sa_6.out.below g)
  have Sb_7 := hid (Sb_6.out.below g)
  have Sc_7 := hid (Sc_6.out.below g)
  have D_7 := hid (D_6.out.grown g)
  have T_7 := hid (T_6.out.grown g)
  have U_7 := hid (U_6.out.grown g)
  have V_7 := hid (V_6.out.grown g)
  have Z_7 := hid (Z_6.out.grown g)
  have G_7 := hid (G_6.out.trans (g.mono G_6.out.size))
  clear g B7_6 B9_6 Sa_6 Sb_6 Sc_6 D_6 T_6 U_6 V_6 Z_6 G_6
  have szB11 : w.heap.size ≤ w7.heap.size := G_7.out.size
  have nlB7B11 : w3.heap.size < w7.heap.size := B7_7.out.lt
  have nlB9B11 : w5.heap.size < w7.heap.size := B9_7.out.lt
  go_wp2_with (refine list_store_new rfl 30 _ _ rfl w7 pc [.int .u64 0, .int .u64 0, .int .u64 0, .int .u64 0, .int .u64 0, .int .u64 0, .int .u64 0, .int .u64 0, .int .u64 0, .int .u64 0, .int .u64 0, .int .u64 0, .int .u64 0, .int .u64 0, .int .u64 0, .int .u64 0, .int .u64 0, .int .u64 0, .int .u64 0, .int .u64 0] rfl rfl pc_h.len pc_h.is pc_h.one (fun w8 hC g => ?_))
  have B11_8 := hid hC
  have B7_8 := hid (B7_7.out.below g)
  have B9_8 := hid (B9_7.out.below g)
  have Sa_8 := hid (Sa_7.out.below g)
  have Sb_8 := hid (Sb_7.out.below g)
  have Sc_8 := hid (Sc_7.out.below g)
  have D_8 := hid (D_7.out.grown g)
  have T_8 := hid (T_7.out.grown g)
  have U_8 := hid (U_7.out.grown g)
  have V_8 := hid (V_7.out.grown g)
  have Z_8 := hid (Z_7.out.grown g)
  have G_8 := hid (G_7.out.trans (g.mono G_7.out.size))
  clear hC g B7_7 B9_7 Sa_7 Sb_7 Sc_7 D_7 T_7 U_7 V_7 Z_7 G_7
  go_wp2_with fail
  go_ret
  exact ⟨rfl, G_8.out⟩
set_option maxRecDepth 100000 in
set_option maxHeartbeats 16000000 in
theorem group_no3_w (pa pb pc : List Value) (pa_h : Pl pa) (pb_h : Pl pb) (pc_h : Pl pc) (a0 a1 a2 : Option Addr) (n0 n1 n2 c0 c1 c2 : Nat) (la lb lc : List Nat)
    (Q1 : Hid (∀ w : World, GbaseX w → GbaseY w → Calls Tryd.prog 7 #[] w fun e w' => e = .returned (.bool true) ∧ Below w.heap.size w w'))
    (Q2 : Hid (∀ (v : Value) (w : World), SK .u8 w v la → Gd w → Gl w → Calls Tryd.prog 8 #[v] w fun e w' => e = .returned (.tuple #[.agg pa.toArray, .bool true]) ∧ Below w.heap.size w w'))
    (Q3 : Hid (∀ (v : Value) (w : World), SK .u8 w v lb → Gd w → Gl w → Calls Tryd.prog 8 #[v] w fun e w' => e = .returned (.tuple #[.agg pb.toArray, .bool true]) ∧ Below w.heap.size w w'))
    (Q4 : Hid (∀ (v : Value) (w : World), SK .u8 w v lc → Gd w → Gl w → Calls Tryd.prog 8 #[v] w fun e w' => e = .returned (.tuple #[.agg pc.toArray, .bool false]) ∧ Below w.heap.size w w'))
    (w : World) (Sa_0 : Hid (SK .u8 w (.slice a0 n0 c0) la)) (Sb_0 : Hid (SK .u8 w (.slice a1 n1 c1) lb)) (Sc_0 : Hid (SK .u8 w (.slice a2 n2 c2) lc)) (D_0 : Hid (Gd w)) (T_0 : Hid (GtwiceD w)) (U_0 : Hid (GbaseX w)) (V_0 : Hid (GbaseY w)) (Z_0 : Hid (Gl w)) :
    Calls Tryd.prog 6 #[.slice a0 n0 c0, .slice a1 n1 c1, .slice a2 n2 c2] w fun e w' => e = .returned (.bool true) ∧ Below w.heap.size w w' := by
  go_enter Tryd.func6, Tryd.ntmps6
  go_upto_region 1 with fail
  have HD := D_0.out.lt
  have HT := T_0.out.lt
  have HU := U_0.out.lt
  have HV := V_0.out.lt
  have HZ := Z_0.out.lt
  refine wp_cut (fun V => SK .u8 V (.slice a0 n0 c0) la ∧ SK .u8 V (.slice a1 n1 c1) lb ∧ SK .u8 V (.slice a2 n2 c2) lc ∧ Gd V ∧ GtwiceD V ∧ GbaseX V ∧ GbaseY V ∧ Gl V ∧ Below w.heap.size w V) ⟨?_, ?_, ?_, ?_, ?_, ?_, ?_, ?_, ?_⟩ ?_
  · refine Sa_0.out.below ?_
    (repeat (first | exact Below.refl _ _ | refine Below.drew ?_ | refine below_drewN ?_ _ | refine Below.alloc ?_ (by simp <;> omega) _))
  · refine Sb_0.out.below ?_
    (repeat (first | exact Below.refl _ _ | refine Below.drew ?_ | refine below_drewN ?_ _ | refine Below.alloc ?_ (by simp <;> omega) _))
  · refine Sc_0.out.below ?_
    (repeat (first | exact Below.refl _ _ | refine Below.drew ?_ | refine below_drewN ?_ _ | refine Below.alloc ?_ (by simp <;> omega) _))
  · refine D_0.out.grown ?_
    (repeat (first | exact Below.refl _ _ | refine Below.drew ?_ | refine below_drewN ?_ _ | refine Below.alloc ?_ (by simp <;> omega) _))
  · refine T_0.out.grown ?_
    (repeat (first | exact Below.refl _ _ | refine Below.drew ?_ | refine below_drewN ?_ _ | refine Below.alloc ?_ (by simp <;> omega) _))
  · refine U_0.out.grown ?_
    (repeat (first | exact Below.refl _ _ | refine Below.drew ?_ | refine below_drewN ?_ _ | refine Below.alloc ?_ (by simp <;> omega) _))
  · refine V_0.out.grown ?_
    (repeat (first | exact Below.refl _ _ | refine Below.drew ?_ | refine below_drewN ?_ _ | refine Below.alloc ?_ (by simp <;> omega) _))
  · refine Z_0.out.grown ?_
    (repeat (first | exact Below.refl _ _ | refine Below.drew ?_ | refine below_drewN ?_ _ | refine Below.alloc ?_ (by simp <;> omega) _))
  · (repeat (first | exact Below.refl _ _ | refine Below.drew ?_ | refine below_drewN ?_ _ | refine Below.alloc ?_ (by simp <;> omega) _))
  rintro w1 ⟨k0, k1, k2, k3, k4, k5, k6, k7, k8⟩
  have Sa_1 := hid k0
  have Sb_1 := hid k1
  have Sc_1 := hid k2
  have D_1 := hid k3
  have T_1 := hid k4
  have U_1 := hid k5
  have V_1 := hid k6
  have Z_1 := hid k7
  have G_1 := hid k8
  clear k0 k1 k2 k3 k4 k5 k6 k7 k8 Sa_0 Sb_0 Sc_0 D_0 T_0 U_0 V_0 Z_0
  go_wp2_with (fail)
  refine (Q1.out _ U_1.out V_1.out).mono ?_
  rintro e w2 ⟨rfl, g0⟩
  have g := g0
  clear g0
  have Sa_2 := hid (Sa_1.out.below g)
  have Sb_2 := hid (Sb_1.out.below g)
  have Sc_2 := hid (Sc_1.out.below g)
  have D_2 := hid (D_1.out.grown g)
  have T_2 := hid (T_1.out.grown g)
  have U_2 := hid (U_1.out.grown g)
  have V_2 := hid (V_1.out.grown g)
  have Z_2 := hid (Z_1.out.grown g)
  have G_2 := hid (G_1.out.trans (g.mono G_1.out.size))
  clear g Sa_1 Sb_1 Sc_1 D_1 T_1 U_1 V_1 Z_1 G_1
  go_wp2_with (fail)
  refine (Q2.out _ _ Sa_2.out D_2.out Z_2.out).mono ?_
  rintro e w3 ⟨rfl, g0⟩
  have g := g0
  clear g0
  have Sa_3 := hid (Sa_2.out.below g)
  have Sb_3 := hid (Sb_2.out.below g)
  have Sc_3 := hid (Sc_2.out.below g)
  have D_3 := hid (D_2.out.grown g)
  have T_3 := hid (T_2.out.grown g)
  have U_3 := hid (U_2.out.grown g)
  have V_3 := hid (V_2.out.grown g)
  have Z_3 := hid (Z_2.out.grown g)
  have G_3 := hid (G_2.out.trans (g.mono G_2.out.size))
  clear g Sa_2 Sb_2 Sc_2 D_2 T_2 U_2 V_2 Z_2 G_2
  have szB7 : w.heap.size ≤ w3.heap.size := G_3.out.size
  go_wp2_with (refine list_store_new rfl 30 _ _ rfl w3 pa [.int .u64 0, .int .u64 0, .int .u64 0, .int .u64 0, .int .u64 0, .int .u64 0, .int .u64 0, .int .u64 0, .int .u64 0, .int .u64 0, .int .u64 0, .int .u64 0, .int .u64 0, .int .u64 0, .int .u64 0, .int .u64 0, .int .u64 0, .int .u64 0, .int .u64 0, .int .u64 0] rfl rfl pa_h.len pa_h.is pa_h.one (fun w4 hC g => ?_))
  have B7_4 := hid hC
  have Sa_4 := hid (Sa_3.out.below g)
  have Sb_4 := hid (Sb_3.out.below g)
  have Sc_4 := hid (Sc_3.out.below g)
  have D_4 := hid (D_3.out.grown g)
  have T_4 := hid (T_3.out.grown g)
  have U_4 := hid (U_3.out.grown g)
  have V_4 := hid (V_3.out.grown g)
  have Z_4 := hid (Z_3.out.grown g)
  have G_4 := hid (G_3.out.trans (g.mono G_3.out.size))
  clear hC g Sa_3 Sb_3 Sc_3 D_3 T_3 U_3 V_3 Z_3 G_3
  go_wp2_with (fail)
  refine (Q3.out _ _ Sb_4.out D_4.out Z_4.out).mono ?_
  rintro e w5 ⟨rfl, g0⟩
  have g := g0
  clear g0
  have B7_5 := hid (B7_4.out.below g)
  have Sa_5 := hid (Sa_4.out.below g)
  have Sb_5 := hid (Sb_4.out.below g)
  have Sc_5 := hid (Sc_4.out.below g)
  have D_5 := hid (D_4.out.grown g)
  have T_5 := hid (T_4.out.grown g)
  have U_5 := hid (U_4.out.grown g)
  have V_5 := hid (V_4.out.grown g)
  have Z_5 := hid (Z_4.out.grown g)
  have G_5 := hid (G_4.out.trans (g.mono G_4.out.size))
  clear g B7_4 Sa_4 Sb_4 Sc_4 D_4 T_4 U_4 V_4 Z_4 G_4
  have szB9 : w.heap.size ≤ w5.heap.size := G_5.out.size
  have nlB7B9 : w3.heap.size < w5.heap.size := B7_5.out.lt
  go_wp2_with (refine list_store_new rfl 30 _ _ rfl w5 pb [.int .u64 0, .int .u64 0, .int .u64 0, .int .u64 0, .int .u64 0, .int .u64 0, .int .u64 0, .int .u64 0, .int .u64 0, .int .u64 0, .int .u64 0, .int .u64 0, .int .u64 0, .int .u64 0, .int .u64 0, .int .u64 0, .int .u64 0, .int .u64 0, .int .u64 0, .int .u64 0] rfl rfl pb_h.len pb_h.is pb_h.one (fun w6 hC g => ?_))
  have B9_6 := hid hC
  have B7_6 := hid (B7_5.out.below g)
  have Sa_6 := hid (Sa_5.out.below g)
  have Sb_6 := hid (Sb_5.out.below g)
  have Sc_6 := hid (Sc_5.out.below g)
  have D_6 := hid (D_5.out.grown g)
  have T_6 := hid (T_5.out.grown g)
  have U_6 := hid (U_5.out.grown g)
  have V_6 := hid (V_5.out.grown g)
  have Z_6 := hid (Z_5.out.grown g)
  have G_6 := hid (G_5.out.trans (g.mono G_5.out.size))
  clear hC g B7_5 Sa_5 Sb_5 Sc_5 D_5 T_5 U_5 V_5 Z_5 G_5
  go_wp2_with (fail)
  refine (Q4.out _ _ Sc_6.out D_6.out Z_6.out).mono ?_
  rintro e w7 ⟨rfl, g0⟩
  have g := g0
  clear g0
  have B7_7 := hid (B7_6.out.below g)
  have B9_7 := hid (B9_6.out.below g)
  have Sa_7 := hid (Sa_6.out.below g)
  have Sb_7 := hid (Sb_6.out.below g)
  have Sc_7 := hid (Sc_6.out.below g)
  have D_7 := hid (D_6.out.grown g)
  have T_7 := hid (T_6.out.grown g)
  have U_7 := hid (U_6.out.grown g)
  have V_7 := hid (V_6.out.grown g)
  have Z_7 := hid (Z_6.out.grown g)
  have G_7 := hid (G_6.out.trans (g.mono G_6.out.size))
  clear g B7_6 B9_6 Sa_6 Sb_6 Sc_6 D_6 T_6 U_6 V_6 Z_6 G_6
  have szB11 : w.heap.size ≤ w7.heap.size := G_7.out.size
  have nlB7B11 : w3.heap.size < w7.heap.size := B7_7.out.lt
  have nlB9B11 : w5.heap.size < w7.heap.size := B9_7.out.lt
  go_wp2_with (refine list_store_new rfl 30 _ _ rfl w7 pc [.int .u64 0, .int .u64 0, .int .u64 0, .int .u64 0, .int .u64 0, .int .u64 0, .int .u64 0, .int .u64 0, .int .u64 0, .int .u64 0, .int .u64 0, .int .u64 0, .int .u64 0, .int .u64 0, .int .u64 0, .int .u64 0, .int .u64 0, .int .u64 0, .int .u64 0, .int .u64 0] rfl rfl pc_h.len pc_h.is pc_h.one (fun w8 hC g => ?_))
  have B11_8 := hid hC
  have B7_8 := hid (B7_7.out.below g)
  have B9_8 := hid (B9_7.out.below g)
  have Sa_8 := hid (Sa_7.out.below g)
  have Sb_8 := hid (Sb_7.out.below g)
  have Sc_8 := hid (Sc_7.out.below g)
  have D_8 := hid (D_7.out.grown g)
  have T_8 := hid (T_7.out.grown g)
  have U_8 := hid (U_7.out.grown g)
  have V_8 := hid (V_7.out.grown g)
  have Z_8 := hid (Z_7.out.grown g)
  have G_8 := hid (G_7.out.trans (g.mono G_7.out.size))
  clear hC g B7_7 B9_7 Sa_7 Sb_7 Sc_7 D_7 T_7 U_7 V_7 Z_7 G_7
  go_wp2_with fail
  go_ret
  exact ⟨rfl, G_8.out⟩
set_option maxRecDepth 100000 in
set_option maxHeartbeats 16000000 in
theorem group_yes_w (pa pb pc zz s1 s2 s3 s4 s5 s6 ng s7 d1 s8 tt nh s9 s10 e8 x1 x2 x3 : List Value) (pa_h : Pl pa) (pb_h : Pl pb) (pc_h : Pl pc) (zz_h : Pl zz) (s1_h : Pl s1) (s2_h : Pl s2) (s3_h : Pl s3) (s4_h : Pl s4) (s5_h : Pl s5) (s6_h : Pl s6) (ng_h : Pl ng) (s7_h : Pl s7) (d1_h : Pl d1) (s8_h : Pl s8) (tt_h : Pl tt) (nh_h : Pl nh) (s9_h : Pl s9) (s10_h : Pl s10) (e8_h : Pl e8) (x1_h : Pl x1) (x2_h : Pl x2) (x3_h : Pl x3) (a0 a1 a2 : Option Addr) (n0 n1 n2 c0 c1 c2 : Nat) (la lb lc : List Nat) (ls : List Nat)
    (Q1 : Hid (∀ w : World, GbaseX w → GbaseY w → Calls Tryd.prog 7 #[] w fun e w' => e = .returned (.bool true) ∧ Below w.heap.size w w'))
    (Q2 : Hid (∀ (v : Value) (w : World), SK .u8 w v la → Gd w → Gl w → Calls Tryd.prog 8 #[v] w fun e w' => e = .returned (.tuple #[.agg pa.toArray, .bool true]) ∧ Below w.heap.size w w'))
    (Q3 : Hid (∀ (v : Value) (w : World), SK .u8 w v lb → Gd w → Gl w → Calls Tryd.prog 8 #[v] w fun e w' => e = .returned (.tuple #[.agg pb.toArray, .bool true]) ∧ Below w.heap.size w w'))
    (Q4 : Hid (∀ (v : Value) (w : World), SK .u8 w v lc → Gd w → Gl w → Calls Tryd.prog 8 #[v] w fun e w' => e = .returned (.tuple #[.agg pc.toArray, .bool true]) ∧ Below w.heap.size w w'))
    (Q5 : Hid (∀ w : World, Calls Tryd.prog 30 #[] w fun e w' => e = .returned (.agg zz.toArray) ∧ Below w.heap.size w w'))
    (Q6 : Hid (∀ w : World, GtwiceD w → Gl w → Calls Tryd.prog 22 #[.agg pa.toArray, .agg pb.toArray] w fun e w' => e = .returned (.agg s1.toArray) ∧ Below w.heap.size w w'))
    (Q7 : Hid (∀ w : World, GtwiceD w → Gl w → Calls Tryd.prog 22 #[.agg pb.toArray, .agg pa.toArray] w fun e w' => e = .returned (.agg s2.toArray) ∧ Below w.heap.size w w'))
    (Q8 : Hid (∀ w : World, Calls Tryd.prog 17 #[.agg s1.toArray, .agg s2.toArray] w fun e w' => e = .returned (.bool true) ∧ Below w.heap.size w w'))
    (Q9 : Hid (∀ w : World, GtwiceD w → Gl w → Calls Tryd.prog 22 #[.agg pa.toArray, .agg pb.toArray] w fun e w' => e = .returned (.agg s1.toArray) ∧ Below w.heap.size w w'))
    (Q10 : Hid (∀ w : World, GtwiceD w → Gl w → Calls Tryd.prog 22 #[.agg s1.toArray, .agg pc.toArray] w fun e w' => e = .returned (.agg s3.toArray) ∧ Below w.heap.size w w'))
    (Q11 : Hid (∀ w : World, GtwiceD w → Gl w → Calls Tryd.prog 22 #[.agg pb.toArray, .agg pc.toArray] w fun e w' => e = .returned (.agg s4.toArray) ∧ Below w.heap.size w w'))
    (Q12 : Hid (∀ w : World, GtwiceD w → Gl w → Calls Tryd.prog 22 #[.agg pa.toArray, .agg s4.toArray] w fun e w' => e = .returned (.agg s5.toArray) ∧ Below w.heap.size w w'))
    (Q13 : Hid (∀ w : World, Calls Tryd.prog 17 #[.agg s3.toArray, .agg s5.toArray] w fun e w' => e = .returned (.bool true) ∧ Below w.heap.size w w'))
    (Q14 : Hid (∀ w : World, GtwiceD w → Gl w → Calls Tryd.prog 22 #[.agg pa.toArray, .agg zz.toArray] w fun e w' => e = .returned (.agg s6.toArray) ∧ Below w.heap.size w w'))
    (Q15 : Hid (∀ w : World, Calls Tryd.prog 17 #[.agg s6.toArray, .agg pa.toArray] w fun e w' => e = .returned (.bool true) ∧ Below w.heap.size w w'))
    (Q16 : Hid (∀ w : World, Gl w → Calls Tryd.prog 24 #[.agg pa.toArray] w fun e w' => e = .returned (.agg ng.toArray) ∧ Below w.heap.size w w'))
    (Q17 : Hid (∀ w : World, GtwiceD w → Gl w → Calls Tryd.prog 22 #[.agg pa.toArray, .agg ng.toArray] w fun e w' => e = .returned (.agg s7.toArray) ∧ Below w.heap.size w w'))
    (Q18 : Hid (∀ w : World, Calls Tryd.prog 17 #[.agg s7.toArray, .agg zz.toArray] w fun e w' => e = .returned (.bool true) ∧ Below w.heap.size w w'))
    (Q19 : Hid (∀ w : World, Gl w → Calls Tryd.prog 23 #[.agg pa.toArray] w fun e w' => e = .returned (.agg d1.toArray) ∧ Below w.heap.size w w'))
    (Q20 : Hid (∀ w : World, GtwiceD w → Gl w → Calls Tryd.prog 22 #[.agg pa.toArray, .agg pa.toArray] w fun e w' => e = .returned (.agg s8.toArray) ∧ Below w.heap.size w w'))
    (Q21 : Hid (∀ w : World, Calls Tryd.prog 17 #[.agg d1.toArray, .agg s8.toArray] w fun e w' => e = .returned (.bool true) ∧ Below w.heap.size w w'))
    (Q22 : Hid (∀ w : World, GtwiceD w → Gl w → Calls Tryd.prog 22 #[.agg pa.toArray, .agg pb.toArray] w fun e w' => e = .returned (.agg s1.toArray) ∧ Below w.heap.size w w'))
    (Q23 : Hid (∀ w : World, GtwiceD w → Gl w → Calls Tryd.prog 22 #[.agg s1.toArray, .agg pc.toArray] w fun e w' => e = .returned (.agg s3.toArray) ∧ Below w.heap.size w w'))
    (Q24 : Hid (∀ w : World, Calls Tryd.prog 14 #[.agg s3.toArray] w fun e w' => ∃ g, e = .returned (.slice (some ⟨g, 0, none⟩) 32 32) ∧ SK .u8 w' (.slice (some ⟨g, 0, none⟩) 32 32) ls ∧ w.heap.size ≤ g ∧ Below w.heap.size w w'))
    (Q25 : Hid (∀ (v : Value) (w : World), SK .u8 w v ls → Gd w → Gl w → Calls Tryd.prog 8 #[v] w fun e w' => e = .returned (.tuple #[.agg tt.toArray, .bool true]) ∧ Below w.heap.size w w'))
    (Q26 : Hid (∀ w : World, Calls Tryd.prog 17 #[.agg tt.toArray, .agg s3.toArray] w fun e w' => e = .returned (.bool true) ∧ Below w.heap.size w w'))
    (Q27 : Hid (∀ w : World, Calls Tryd.prog 17 #[.agg s3.toArray, .agg s3.toArray] w fun e w' => e = .returned (.bool true) ∧ Below w.heap.size w w'))
    (Q28 : Hid (∀ w : World, Calls Tryd.prog 14 #[.agg tt.toArray] w fun e w' => ∃ g, e = .returned (.slice (some ⟨g, 0, none⟩) 32 32) ∧ SK .u8 w' (.slice (some ⟨g, 0, none⟩) 32 32) ls ∧ w.heap.size ≤ g ∧ Below w.heap.size w w'))
    (Q29 : Hid (∀ w : World, Calls Tryd.prog 14 #[.agg s3.toArray] w fun e w' => ∃ g, e = .returned (.slice (some ⟨g, 0, none⟩) 32 32) ∧ SK .u8 w' (.slice (some ⟨g, 0, none⟩) 32 32) ls ∧ w.heap.size ≤ g ∧ Below w.heap.size w w'))
    (Q30 : Hid (∀ (v v' : Value) (w : World), SK .u8 w v ls → SK .u8 w v' ls → Calls Tryd.prog 13 #[v, v'] w fun e w' => e = .returned (.bool true) ∧ Below w.heap.size w w'))
    (Q31 : Hid (∀ w : World, Gl w → Calls Tryd.prog 24 #[.agg pb.toArray] w fun e w' => e = .returned (.agg nh.toArray) ∧ Below w.heap.size w w'))
    (Q32 : Hid (∀ w : World, GtwiceD w → Gl w → Calls Tryd.prog 22 #[.agg s3.toArray, .agg nh.toArray] w fun e w' => e = .returned (.agg s9.toArray) ∧ Below w.heap.size w w'))
    (Q33 : Hid (∀ w : World, GtwiceD w → Gl w → Calls Tryd.prog 22 #[.agg pa.toArray, .agg pc.toArray] w fun e w' => e = .returned (.agg s10.toArray) ∧ Below w.heap.size w w'))
    (Q34 : Hid (∀ w : World, Calls Tryd.prog 17 #[.agg s9.toArray, .agg s10.toArray] w fun e w' => e = .returned (.bool true) ∧ Below w.heap.size w w'))
    (Q35 : Hid (∀ w : World, Gl w → Calls Tryd.prog 27 #[.agg zz.toArray] w fun e w' => e = .returned (.bool true) ∧ Below w.heap.size w w'))
    (Q36 : Hid (∀ w : World, Gl w → Calls Tryd.prog 26 #[.agg s3.toArray] w fun e w' => e = .returned (.agg e8.toArray) ∧ Below w.heap.size w w'))
    (Q37 : Hid (∀ w : World, Gl w → Calls Tryd.prog 23 #[.agg s3.toArray] w fun e w' => e = .returned (.agg x1.toArray) ∧ Below w.heap.size w w'))
    (Q38 : Hid (∀ w : World, Gl w → Calls Tryd.prog 23 #[.agg x1.toArray] w fun e w' => e = .returned (.agg x2.toArray) ∧ Below w.heap.size w w'))
    (Q39 : Hid (∀ w : World, Gl w → Calls Tryd.prog 23 #[.agg x2.toArray] w fun e w' => e = .returned (.agg x3.toArray) ∧ Below w.heap.size w w'))
    (Q40 : Hid (∀ w : World, Calls Tryd.prog 17 #[.agg e8.toArray, .agg x3.toArray] w fun e w' => e = .returned (.bool true) ∧ Below w.heap.size w w'))
    (w : World) (Sa_0 : Hid (SK .u8 w (.slice a0 n0 c0) la)) (Sb_0 : Hid (SK .u8 w (.slice a1 n1 c1) lb)) (Sc_0 : Hid (SK .u8 w (.slice a2 n2 c2) lc)) (D_0 : Hid (Gd w)) (T_0 : Hid (GtwiceD w)) (U_0 : Hid (GbaseX w)) (V_0 : Hid (GbaseY w)) (Z_0 : Hid (Gl w)) :
    Calls Tryd.prog 6 #[.slice a0 n0 c0, .slice a1 n1 c1, .slice a2 n2 c2] w fun e w' => e = .returned (.bool true) ∧ Below w.heap.size w w' := by
  go_enter Tryd.func6, Tryd.ntmps6
  go_upto_region 1 with fail
  have HD := D_0.out.lt
  have HT := T_0.out.lt
  have HU := U_0.out.lt
  have HV := V_0.out.lt
  have HZ := Z_0.out.lt
  refine wp_cut (fun V => SK .u8 V (.slice a0 n0 c0) la ∧ SK .u8 V (.slice a1 n1 c1) lb ∧ SK .u8 V (.slice a2 n2 c2) lc ∧ Gd V ∧ GtwiceD V ∧ GbaseX V ∧ GbaseY V ∧ Gl V ∧ Below w.heap.size w V) ⟨?_, ?_, ?_, ?_, ?_, ?_, ?_, ?_, ?_⟩ ?_
  · refine Sa_0.out.below ?_
    (repeat (first | exact Below.refl _ _ | refine Below.drew ?_ | refine below_drewN ?_ _ | refine Below.alloc ?_ (by simp <;> omega) _))
  · refine Sb_0.out.below ?_
    (repeat (first | exact Below.refl _ _ | refine Below.drew ?_ | refine below_drewN ?_ _ | refine Below.alloc ?_ (by simp <;> omega) _))
  · refine Sc_0.out.below ?_
    (repeat (first | exact Below.refl _ _ | refine Below.drew ?_ | refine below_drewN ?_ _ | refine Below.alloc ?_ (by simp <;> omega) _))
  · refine D_0.out.grown ?_
    (repeat (first | exact Below.refl _ _ | refine Below.drew ?_ | refine below_drewN ?_ _ | refine Below.alloc ?_ (by simp <;> omega) _))
  · refine T_0.out.grown ?_
    (repeat (first | exact Below.refl _ _ | refine Below.drew ?_ | refine below_drewN ?_ _ | refine Below.alloc ?_ (by simp <;> omega) _))
  · refine U_0.out.grown ?_
    (repeat (first | exact Below.refl _ _ | refine Below.drew ?_ | refine below_drewN ?_ _ | refine Below.alloc ?_ (by simp <;> omega) _))
  · refine V_0.out.grown ?_
    (repeat (first | exact Below.refl _ _ | refine Below.drew ?_ | refine below_drewN ?_ _ | refine Below.alloc ?_ (by simp <;> omega) _))
  · refine Z_0.out.grown ?_
    (repeat (first | exact Below.refl _ _ | refine Below.drew ?_ | refine below_drewN ?_ _ | refine Below.alloc ?_ (by simp <;> omega) _))
  · (repeat (first | exact Below.refl _ _ | refine Below.drew ?_ | refine below_drewN ?_ _ | refine Below.alloc ?_ (by simp <;> omega) _))
  rintro w1 ⟨k0, k1, k2, k3, k4, k5, k6, k7, k8⟩
  have Sa_1 := hid k0
  have Sb_1 := hid k1
  have Sc_1 := hid k2
  have D_1 := hid k3
  have T_1 := hid k4
  have U_1 := hid k5
  have V_1 := hid k6
  have Z_1 := hid k7
  have G_1 := hid k8
  clear k0 k1 k2 k3 k4 k5 k6 k7 k8 Sa_0 Sb_0 Sc_0 D_0 T_0 U_0 V_0 Z_0
  go_wp2_with (fail)
  refine (Q1.out _ U_1.out V_1.out).mono ?_
  rintro e w2 ⟨rfl, g0⟩
  have g := g0
  clear g0
  have Sa_2 := hid (Sa_1.out.below g)
  have Sb_2 := hid (Sb_1.out.below g)
  have Sc_2 := hid (Sc_1.out.below g)
  have D_2 := hid (D_1.out.grown g)
  have T_2 := hid (T_1.out.grown g)
  have U_2 := hid (U_1.out.grown g)
  have V_2 := hid (V_1.out.grown g)
  have Z_2 := hid (Z_1.out.grown g)
  have G_2 := hid (G_1.out.trans (g.mono G_1.out.size))
  clear g Sa_1 Sb_1 Sc_1 D_1 T_1 U_1 V_1 Z_1 G_1
  go_wp2_with (fail)
  refine (Q2.out _ _ Sa_2.out D_2.out Z_2.out).mono ?_
  rintro e w3 ⟨rfl, g0⟩
  have g := g0
  clear g0
  have Sa_3 := hid (Sa_2.out.below g)
  have Sb_3 := hid (Sb_2.out.below g)
  have Sc_3 := hid (Sc_2.out.below g)
  have D_3 := hid (D_2.out.grown g)
  have T_3 := hid (T_2.out.grown g)
  have U_3 := hid (U_2.out.grown g)
  have V_3 := hid (V_2.out.grown g)
  have Z_3 := hid (Z_2.out.grown g)
  have G_3 := hid (G_2.out.trans (g.mono G_2.out.size))
  clear g Sa_2 Sb_2 Sc_2 D_2 T_2 U_2 V_2 Z_2 G_2
  have szB7 : w.heap.size ≤ w3.heap.size := G_3.out.size
  go_wp2_with (refine list_store_new rfl 30 _ _ rfl w3 pa [.int .u64 0, .int .u64 0, .int .u64 0, .int .u64 0, .int .u64 0, .int .u64 0, .int .u64 0, .int .u64 0, .int .u64 0, .int .u64 0, .int .u64 0, .int .u64 0, .int .u64 0, .int .u64 0, .int .u64 0, .int .u64 0, .int .u64 0, .int .u64 0, .int .u64 0, .int .u64 0] rfl rfl pa_h.len pa_h.is pa_h.one (fun w4 hC g => ?_))
  have B7_4 := hid hC
  have Sa_4 := hid (Sa_3.out.below g)
  have Sb_4 := hid (Sb_3.out.below g)
  have Sc_4 := hid (Sc_3.out.below g)
  have D_4 := hid (D_3.out.grown g)
  have T_4 := hid (T_3.out.grown g)
  have U_4 := hid (U_3.out.grown g)
  have V_4 := hid (V_3.out.grown g)
  have Z_4 := hid (Z_3.out.grown g)
  have G_4 := hid (G_3.out.trans (g.mono G_3.out.size))
  clear hC g Sa_3 Sb_3 Sc_3 D_3 T_3 U_3 V_3 Z_3 G_3
  go_wp2_with (fail)
  refine (Q3.out _ _ Sb_4.out D_4.out Z_4.out).mono ?_
  rintro e w5 ⟨rfl, g0⟩
  have g := g0
  clear g0
  have B7_5 := hid (B7_4.out.below g)
  have Sa_5 := hid (Sa_4.out.below g)
  have Sb_5 := hid (Sb_4.out.below g)
  have Sc_5 := hid (Sc_4.out.below g)
  have D_5 := hid (D_4.out.grown g)
  have T_5 := hid (T_4.out.grown g)
  have U_5 := hid (U_4.out.grown g)
  have V_5 := hid (V_4.out.grown g)
  have Z_5 := hid (Z_4.out.grown g)
  have G_5 := hid (G_4.out.trans (g.mono G_4.out.size))
  clear g B7_4 Sa_4 Sb_4 Sc_4 D_4 T_4 U_4 V_4 Z_4 G_4
  have szB9 : w.heap.size ≤ w5.heap.size := G_5.out.size
  have nlB7B9 : w3.heap.size < w5.heap.size := B7_5.out.lt
  go_wp2_with (refine list_store_new rfl 30 _ _ rfl w5 pb [.int .u64 0, .int .u64 0, .int .u64 0, .int .u64 0, .int .u64 0, .int .u64 0, .int .u64 0, .int .u64 0, .int .u64 0, .int .u64 0, .int .u64 0, .int .u64 0, .int .u64 0, .int .u64 0, .int .u64 0, .int .u64 0, .int .u64 0, .int .u64 0, .int .u64 0, .int .u64 0] rfl rfl pb_h.len pb_h.is pb_h.one (fun w6 hC g => ?_))
  have B9_6 := hid hC
  have B7_6 := hid (B7_5.out.below g)
  have Sa_6 := hid (Sa_5.out.below g)
  have Sb_6 := hid (Sb_5.out.below g)
  have Sc_6 := hid (Sc_5.out.below g)
  have D_6 := hid (D_5.out.grown g)
  have T_6 := hid (T_5.out.grown g)
  have U_6 := hid (U_5.out.grown g)
  have V_6 := hid (V_5.out.grown g)
  have Z_6 := hid (Z_5.out.grown g)
  have G_6 := hid (G_5.out.trans (g.mono G_5.out.size))
  clear hC g B7_5 Sa_5 Sb_5 Sc_5 D_5 T_5 U_5 V_5 Z_5 G_5
  go_wp2_with (fail)
  refine (Q4.out _ _ Sc_6.out D_6.out Z_6.out).mono ?_
  rintro e w7 ⟨rfl, g0⟩
  have g := g0
  clear g0
  have B7_7 := hid (B7_6.out.below g)
  have B9_7 := hid (B9_6.out.below g)
  have Sa_7 := hid (Sa_6.out.below g)
  have Sb_7 := hid (Sb_6.out.below g)
  have Sc_7 := hid (Sc_6.out.below g)
  have D_7 := hid (D_6.out.grown g)
  have T_7 := hid (T_6.out.grown g)
  have U_7 := hid (U_6.out.grown g)
  have V_7 := hid (V_6.out.grown g)
  have Z_7 := hid (Z_6.out.grown g)
  have G_7 := hid (G_6.out.trans (g.mono G_6.out.size))
  clear g B7_6 B9_6 Sa_6 Sb_6 Sc_6 D_6 T_6 U_6 V_6 Z_6 G_6
  have szB11 : w.heap.size ≤ w7.heap.size := G_7.out.size
  have nlB7B11 : w3.heap.size < w7.heap.size := B7_7.out.lt
  have nlB9B11 : w5.heap.size < w7.heap.size := B9_7.out.lt
  go_wp2_with (refine list_store_new rfl 30 _ _ rfl w7 pc [.int .u64 0, .int .u64 0, .int .u64 0, .int .u64 0, .int .u64 0, .int .u64 0, .int .u64 0, .int .u64 0, .int .u64 0, .int .u64 0, .int .u64 0, .int .u64 0, .int .u64 0, .int .u64 0, .int .u64 0, .int .u64 0, .int .u64 0, .int .u64 0, .int .u64 0, .int .u64 0] rfl rfl pc_h.len pc_h.is pc_h.one (fun w8 hC g => ?_))
  have B11_8 := hid hC
  have B7_8 := hid (B7_7.out.below g)
  have B9_8 := hid (B9_7.out.below g)
  have Sa_8 := hid (Sa_7.out.below g)
  have Sb_8 := hid (Sb_7.out.below g)
  have Sc_8 := hid (Sc_7.out.below g)
  have D_8 := hid (D_7.out.grown g)
  have T_8 := hid (T_7.out.grown g)
  have U_8 := hid (U_7.out.grown g)
  have V_8 := hid (V_7.out.grown g)
  have Z_8 := hid (Z_7.out.grown g)
  have G_8 := hid (G_7.out.trans (g.mono G_7.out.size))
  clear hC g B7_7 B9_7 Sa_7 Sb_7 Sc_7 D_7 T_7 U_7 V_7 Z_7 G_7
  go_wp2_with (fail)
  refine (Q5.out _).mono ?_
  rintro e w9 ⟨rfl, g0⟩
  have g := g0
  clear g0
  have B7_9 := hid (B7_8.out.below g)
  have B9_9 := hid (B9_8.out.below g)
  have B11_9 := hid (B11_8.out.below g)
  have Sa_9 := hid (Sa_8.out.below g)
  have Sb_9 := hid (Sb_8.out.below g)
  have Sc_9 := hid (Sc_8.out.below g)
  have D_9 := hid (D_8.out.grown g)
  have T_9 := hid (T_8.out.grown g)
  have U_9 := hid (U_8.out.grown g)
  have V_9 := hid (V_8.out.grown g)
  have Z_9 := hid (Z_8.out.grown g)
  have G_9 := hid (G_8.out.trans (g.mono G_8.out.size))
  clear g B7_8 B9_8 B11_8 Sa_8 Sb_8 Sc_8 D_8 T_8 U_8 V_8 Z_8 G_8
  have szB13 : w.heap.size ≤ w9.heap.size := G_9.out.size
  have nlB7B13 : w3.heap.size < w9.heap.size := B7_9.out.lt
  have nlB9B13 : w5.heap.size < w9.heap.size := B9_9.out.lt
  have nlB11B13 : w7.heap.size < w9.heap.size := B11_9.out.lt
  go_wp2_with (refine list_store_new rfl 30 _ _ rfl w9 zz [.int .u64 0, .int .u64 0, .int .u64 0, .int .u64 0, .int .u64 0, .int .u64 0, .int .u64 0, .int .u64 0, .int .u64 0, .int .u64 0, .int .u64 0, .int .u64 0, .int .u64 0, .int .u64 0, .int .u64 0, .int .u64 0, .int .u64 0, .int .u64 0, .int .u64 0, .int .u64 0] rfl rfl zz_h.len zz_h.is zz_h.one (fun w10 hC g => ?_))
  have B13_10 := hid hC
  have B7_10 := hid (B7_9.out.below g)
  have B9_10 := hid (B9_9.out.below g)
  have B11_10 := hid (B11_9.out.below g)
  have Sa_10 := hid (Sa_9.out.below g)
  have Sb_10 := hid (Sb_9.out.below g)
  have Sc_10 := hid (Sc_9.out.below g)
  have D_10 := hid (D_9.out.grown g)
  have T_10 := hid (T_9.out.grown g)
  have U_10 := hid (U_9.out.grown g)
  have V_10 := hid (V_9.out.grown g)
  have Z_10 := hid (Z_9.out.grown g)
  have G_10 := hid (G_9.out.trans (g.mono G_9.out.size))
  clear hC g B7_9 B9_9 B11_9 Sa_9 Sb_9 Sc_9 D_9 T_9 U_9 V_9 Z_9 G_9
  go_wp2_with fail
  have D_10' := hid (D_10.out.grown (Below.refl _ w10).drew)
  have T_10' := hid (T_10.out.grown (Below.refl _ w10).drew)
  have U_10' := hid (U_10.out.grown (Below.refl _ w10).drew)
  have V_10' := hid (V_10.out.grown (Below.refl _ w10).drew)
  have Z_10' := hid (Z_10.out.grown (Below.refl _ w10).drew)
  have Sa_10' := hid (Sa_10.out.below (Below.refl _ w10).drew)
  have Sb_10' := hid (Sb_10.out.below (Below.refl _ w10).drew)
  have Sc_10' := hid (Sc_10.out.below (Below.refl _ w10).drew)
  have K10 : At 30 w10.drew w3.heap.size pa ∧ At 30 w10.drew w5.heap.size pb ∧ At 30 w10.drew w7.heap.size pc ∧ At 30 w10.drew w9.heap.size zz := And.intro B7_10.out.drew (And.intro B9_10.out.drew (And.intro B11_10.out.drew (B13_10.out.drew)))
  refine wp_region_held_drew (S := fun w' => At 30 w' w3.heap.size pa ∧ At 30 w' w5.heap.size pb ∧ At 30 w' w7.heap.size pc ∧ At 30 w' w9.heap.size zz) (by kernel_rfl) K10 (fun hHeld => ?_)
  clear K10
  refine h_take 0 (v := .agg pa.toArray) rfl (by kernel_rfl) (by kernel_rfl) (by kernel_rfl) (fun _ _ _ h => h) (by rfl) ?hyr9_0 (by assumption) ?_
  case hyr9_0 =>
    intro w' hSw
    exact load_run 30 _ rfl _ 0 rfl pa _ (at_mid hSw.1 0 _ (by simp)) Tryd.underlying30 rfl pa_h.il
  try simp only [Act.put, List.setIfInBounds_toArray, List.set_cons_zero, List.set_cons_succ]
  refine h_take 1 (v := .agg pb.toArray) rfl (by kernel_rfl) (by kernel_rfl) (by kernel_rfl) (fun _ _ _ h => h) (by rfl) ?hyr9_1 (by assumption) ?_
  case hyr9_1 =>
    intro w' hSw
    exact load_run 30 _ rfl _ 0 rfl pb _ (at_mid hSw.2.1 0 _ (by simp)) Tryd.underlying30 rfl pb_h.il
  try simp only [Act.put, List.setIfInBounds_toArray, List.set_cons_zero, List.set_cons_succ]
  refine h_take 3 (v := .agg pb.toArray) rfl (by kernel_rfl) (by kernel_rfl) (by kernel_rfl) (fun _ _ _ h => h) (by rfl) ?hyr9_3 (by assumption) ?_
  case hyr9_3 =>
    intro w' hSw
    exact load_run 30 _ rfl _ 0 rfl pb _ (at_mid hSw.2.1 0 _ (by simp)) Tryd.underlying30 rfl pb_h.il
  try simp only [Act.put, List.setIfInBounds_toArray, List.set_cons_zero, List.set_cons_succ]
  refine h_take 4 (v := .agg pa.toArray) rfl (by kernel_rfl) (by kernel_rfl) (by kernel_rfl) (fun _ _ _ h => h) (by rfl) ?hyr9_4 (by assumption) ?_
  case hyr9_4 =>
    intro w' hSw
    exact load_run 30 _ rfl _ 0 rfl pa _ (at_mid hSw.1 0 _ (by simp)) Tryd.underlying30 rfl pa_h.il
  try simp only [Act.put, List.setIfInBounds_toArray, List.set_cons_zero, List.set_cons_succ]
  refine h_call 2 rfl (by kernel_rfl) (by rfl) (fun Kk hK => ?_)
  go_simp
  (refine (Q6.out _ T_10'.out Z_10'.out).mono ?_)
  rintro e w11 ⟨rfl, g0⟩
  have g : Below w10.heap.size w10 w11 := (Below.refl _ w10).drew.trans g0
  clear g0
  have B7_11 := hid (B7_10.out.below g)
  have B9_11 := hid (B9_10.out.below g)
  have B11_11 := hid (B11_10.out.below g)
  have B13_11 := hid (B13_10.out.below g)
  have Sa_11 := hid (Sa_10.out.below g)
  have Sb_11 := hid (Sb_10.out.below g)
  have Sc_11 := hid (Sc_10.out.below g)
  have D_11 := hid (D_10.out.grown g)
  have T_11 := hid (T_10.out.grown g)
  have U_11 := hid (U_10.out.grown g)
  have V_11 := hid (V_10.out.grown g)
  have Z_11 := hid (Z_10.out.grown g)
  have G_11 := hid (G_10.out.trans (g.mono G_10.out.size))
  clear g B7_10 B9_10 B11_10 B13_10 Sa_10 Sb_10 Sc_10 D_10 T_10 U_10 V_10 Z_10 G_10
  clear Sa_10' Sb_10' Sc_10' D_10' T_10' U_10' V_10' Z_10'
  have K11 := And.intro B7_11.out (And.intro B9_11.out (And.intro B11_11.out (B13_11.out)))
  go_wp2_with fail
  clear hHeld
  refine hK.out _ _ K11 (fun hHeld => ?_)
  clear hK Kk K11
  try simp only [Act.put, List.setIfInBounds_toArray, List.set_cons_zero, List.set_cons_succ]
  refine h_call 5 rfl (by kernel_rfl) (by rfl) (fun Kk hK => ?_)
  go_simp
  (refine (Q7.out _ T_11.out Z_11.out).mono ?_)
  rintro e w12 ⟨rfl, g0⟩
  have g := g0
  clear g0
  have B7_12 := hid (B7_11.out.below g)
  have B9_12 := hid (B9_11.out.below g)
  have B11_12 := hid (B11_11.out.below g)
  have B13_12 := hid (B13_11.out.below g)
  have Sa_12 := hid (Sa_11.out.below g)
  have Sb_12 := hid (Sb_11.out.below g)
  have Sc_12 := hid (Sc_11.out.below g)
  have D_12 := hid (D_11.out.grown g)
  have T_12 := hid (T_11.out.grown g)
  have U_12 := hid (U_11.out.grown g)
  have V_12 := hid (V_11.out.grown g)
  have Z_12 := hid (Z_11.out.grown g)
  have G_12 := hid (G_11.out.trans (g.mono G_11.out.size))
  clear g B7_11 B9_11 B11_11 B13_11 Sa_11 Sb_11 Sc_11 D_11 T_11 U_11 V_11 Z_11 G_11
  have K12 := And.intro B7_12.out (And.intro B9_12.out (And.intro B11_12.out (B13_12.out)))
  go_wp2_with fail
  clear hHeld
  refine hK.out _ _ K12 (fun hHeld => ?_)
  clear hK Kk K12
  try simp only [Act.put, List.setIfInBounds_toArray, List.set_cons_zero, List.set_cons_succ]
  refine h_call 6 rfl (by kernel_rfl) (by rfl) (fun Kk hK => ?_)
  go_simp
  (refine (Q8.out _).mono ?_)
  rintro e w13 ⟨rfl, g0⟩
  have g := g0
  clear g0
  have B7_13 := hid (B7_12.out.below g)
  have B9_13 := hid (B9_12.out.below g)
  have B11_13 := hid (B11_12.out.below g)
  have B13_13 := hid (B13_12.out.below g)
  have Sa_13 := hid (Sa_12.out.below g)
  have Sb_13 := hid (Sb_12.out.below g)
  have Sc_13 := hid (Sc_12.out.below g)
  have D_13 := hid (D_12.out.grown g)
  have T_13 := hid (T_12.out.grown g)
  have U_13 := hid (U_12.out.grown g)
  have V_13 := hid (V_12.out.grown g)
  have Z_13 := hid (Z_12.out.grown g)
  have G_13 := hid (G_12.out.trans (g.mono G_12.out.size))
  clear g B7_12 B9_12 B11_12 B13_12 Sa_12 Sb_12 Sc_12 D_12 T_12 U_12 V_12 Z_12 G_12
  have K13 := And.intro B7_13.out (And.intro B9_13.out (And.intro B11_13.out (B13_13.out)))
  go_wp2_with fail
  clear hHeld
  refine hK.out _ _ K13 (fun hHeld => ?_)
  clear hK Kk K13
  try simp only [Act.put, List.setIfInBounds_toArray, List.set_cons_zero, List.set_cons_succ]
  refine h_take 7 (v := .bool false) rfl (by kernel_rfl) (by kernel_rfl) (by kernel_rfl) (fun _ _ _ h => h) (by rfl) ?hyr9_7 (by assumption) ?_
  case hyr9_7 =>
    intro w' hSw
    clear hSw
    go_simp
  try simp only [Act.put, List.setIfInBounds_toArray, List.set_cons_zero, List.set_cons_succ]
  refine h_take 8 (v := .bool false) rfl (by kernel_rfl) (by kernel_rfl) (by kernel_rfl) (fun _ _ _ h => h) (by rfl) ?hyr9_8 (by assumption) ?_
  case hyr9_8 =>
    intro w' hSw
    clear hSw
    go_simp
  try simp only [Act.put, List.setIfInBounds_toArray, List.set_cons_zero, List.set_cons_succ]
  refine h_take 9 (v := .agg pa.toArray) rfl (by kernel_rfl) (by kernel_rfl) (by kernel_rfl) (fun _ _ _ h => h) (by rfl) ?hyr9_9 (by assumption) ?_
  case hyr9_9 =>
    intro w' hSw
    exact load_run 30 _ rfl _ 0 rfl pa _ (at_mid hSw.1 0 _ (by simp)) Tryd.underlying30 rfl pa_h.il
  try simp only [Act.put, List.setIfInBounds_toArray, List.set_cons_zero, List.set_cons_succ]
  refine h_take 10 (v := .agg pb.toArray) rfl (by kernel_rfl) (by kernel_rfl) (by kernel_rfl) (fun _ _ _ h => h) (by rfl) ?hyr9_10 (by assumption) ?_
  case hyr9_10 =>
    intro w' hSw
    exact load_run 30 _ rfl _ 0 rfl pb _ (at_mid hSw.2.1 0 _ (by simp)) Tryd.underlying30 rfl pb_h.il
  try simp only [Act.put, List.setIfInBounds_toArray, List.set_cons_zero, List.set_cons_succ]
  refine h_take 12 (v := .agg pc.toArray) rfl (by kernel_rfl) (by kernel_rfl) (by kernel_rfl) (fun _ _ _ h => h) (by rfl) ?hyr9_12 (by assumption) ?_
  case hyr9_12 =>
    intro w' hSw
    exact load_run 30 _ rfl _ 0 rfl pc _ (at_mid hSw.2.2.1 0 _ (by simp)) Tryd.underlying30 rfl pc_h.il
  try simp only [Act.put, List.setIfInBounds_toArray, List.set_cons_zero, List.set_cons_succ]
  refine h_take 14 (v := .agg pa.toArray) rfl (by kernel_rfl) (by kernel_rfl) (by kernel_rfl) (fun _ _ _ h => h) (by rfl) ?hyr9_14 (by assumption) ?_
  case hyr9_14 =>
    intro w' hSw
    exact load_run 30 _ rfl _ 0 rfl pa _ (at_mid hSw.1 0 _ (by simp)) Tryd.underlying30 rfl pa_h.il
  try simp only [Act.put, List.setIfInBounds_toArray, List.set_cons_zero, List.set_cons_succ]
  refine h_take 15 (v := .agg pb.toArray) rfl (by kernel_rfl) (by kernel_rfl) (by kernel_rfl) (fun _ _ _ h => h) (by rfl) ?hyr9_15 (by assumption) ?_
  case hyr9_15 =>
    intro w' hSw
    exact load_run 30 _ rfl _ 0 rfl pb _ (at_mid hSw.2.1 0 _ (by simp)) Tryd.underlying30 rfl pb_h.il
  try simp only [Act.put, List.setIfInBounds_toArray, List.set_cons_zero, List.set_cons_succ]
  refine h_take 16 (v := .agg pc.toArray) rfl (by kernel_rfl) (by kernel_rfl) (by kernel_rfl) (fun _ _ _ h => h) (by rfl) ?hyr9_16 (by assumption) ?_
  case hyr9_16 =>
    intro w' hSw
    exact load_run 30 _ rfl _ 0 rfl pc _ (at_mid hSw.2.2.1 0 _ (by simp)) Tryd.underlying30 rfl pc_h.il
  try simp only [Act.put, List.setIfInBounds_toArray, List.set_cons_zero, List.set_cons_succ]
  refine h_call 11 rfl (by kernel_rfl) (by rfl) (fun Kk hK => ?_)
  go_simp
  (refine (Q9.out _ T_13.out Z_13.out).mono ?_)
  rintro e w14 ⟨rfl, g0⟩
  have g := g0
  clear g0
  have B7_14 := hid (B7_13.out.below g)
  have B9_14 := hid (B9_13.out.below g)
  have B11_14 := hid (B11_13.out.below g)
  have B13_14 := hid (B13_13.out.below g)
  have Sa_14 := hid (Sa_13.out.below g)
  have Sb_14 := hid (Sb_13.out.below g)
  have Sc_14 := hid (Sc_13.out.below g)
  have D_14 := hid (D_13.out.grown g)
  have T_14 := hid (T_13.out.grown g)
  have U_14 := hid (U_13.out.grown g)
  have V_14 := hid (V_13.out.grown g)
  have Z_14 := hid (Z_13.out.grown g)
  have G_14 := hid (G_13.out.trans (g.mono G_13.out.size))
  clear g B7_13 B9_13 B11_13 B13_13 Sa_13 Sb_13 Sc_13 D_13 T_13 U_13 V_13 Z_13 G_13
  have K14 := And.intro B7_14.out (And.intro B9_14.out (And.intro B11_14.out (B13_14.out)))
  go_wp2_with fail
  clear hHeld
  refine hK.out _ _ K14 (fun hHeld => ?_)
  clear hK Kk K14
  try simp only [Act.put, List.setIfInBounds_toArray, List.set_cons_zero, List.set_cons_succ]
  refine h_call 13 rfl (by kernel_rfl) (by rfl) (fun Kk hK => ?_)
  go_simp
  (refine (Q10.out _ T_14.out Z_14.out).mono ?_)
  rintro e w15 ⟨rfl, g0⟩
  have g := g0
  clear g0
  have B7_15 := hid (B7_14.out.below g)
  have B9_15 := hid (B9_14.out.below g)
  have B11_15 := hid (B11_14.out.below g)
  have B13_15 := hid (B13_14.out.below g)
  have Sa_15 := hid (Sa_14.out.below g)
  have Sb_15 := hid (Sb_14.out.below g)
  have Sc_15 := hid (Sc_14.out.below g)
  have D_15 := hid (D_14.out.grown g)
  have T_15 := hid (T_14.out.grown g)
  have U_15 := hid (U_14.out.grown g)
  have V_15 := hid (V_14.out.grown g)
  have Z_15 := hid (Z_14.out.grown g)
  have G_15 := hid (G_14.out.trans (g.mono G_14.out.size))
  clear g B7_14 B9_14 B11_14 B13_14 Sa_14 Sb_14 Sc_14 D_14 T_14 U_14 V_14 Z_14 G_14
  have K15 := And.intro B7_15.out (And.intro B9_15.out (And.intro B11_15.out (B13_15.out)))
  go_wp2_with fail
  clear hHeld
  refine hK.out _ _ K15 (fun hHeld => ?_)
  clear hK Kk K15
  try simp only [Act.put, List.setIfInBounds_toArray, List.set_cons_zero, List.set_cons_succ]
  refine h_call 17 rfl (by kernel_rfl) (by rfl) (fun Kk hK => ?_)
  go_simp
  (refine (Q11.out _ T_15.out Z_15.out).mono ?_)
  rintro e w16 ⟨rfl, g0⟩
  have g := g0
  clear g0
  have B7_16 := hid (B7_15.out.below g)
  have B9_16 := hid (B9_15.out.below g)
  have B11_16 := hid (B11_15.out.below g)
  have B13_16 := hid (B13_15.out.below g)
  have Sa_16 := hid (Sa_15.out.below g)
  have Sb_16 := hid (Sb_15.out.below g)
  have Sc_16 := hid (Sc_15.out.below g)
  have D_16 := hid (D_15.out.grown g)
  have T_16 := hid (T_15.out.grown g)
  have U_16 := hid (U_15.out.grown g)
  have V_16 := hid (V_15.out.grown g)
  have Z_16 := hid (Z_15.out.grown g)
  have G_16 := hid (G_15.out.trans (g.mono G_15.out.size))
  clear g B7_15 B9_15 B11_15 B13_15 Sa_15 Sb_15 Sc_15 D_15 T_15 U_15 V_15 Z_15 G_15
  have K16 := And.intro B7_16.out (And.intro B9_16.out (And.intro B11_16.out (B13_16.out)))
  go_wp2_with fail
  clear hHeld
  refine hK.out _ _ K16 (fun hHeld => ?_)
  clear hK Kk K16
  try simp only [Act.put, List.setIfInBounds_toArray, List.set_cons_zero, List.set_cons_succ]
  refine h_call 18 rfl (by kernel_rfl) (by rfl) (fun Kk hK => ?_)
  go_simp
  (refine (Q12.out _ T_16.out Z_16.out).mono ?_)
  rintro e w17 ⟨rfl, g0⟩
  have g := g0
  clear g0
  have B7_17 := hid (B7_16.out.below g)
  have B9_17 := hid (B9_16.out.below g)
  have B11_17 := hid (B11_16.out.below g)
  have B13_17 := hid (B13_16.out.below g)
  have Sa_17 := hid (Sa_16.out.below g)
  have Sb_17 := hid (Sb_16.out.below g)
  have Sc_17 := hid (Sc_16.out.below g)
  have D_17 := hid (D_16.out.grown g)
  have T_17 := hid (T_16.out.grown g)
  have U_17 := hid (U_16.out.grown g)
  have V_17 := hid (V_16.out.grown g)
  have Z_17 := hid (Z_16.out.grown g)
  have G_17 := hid (G_16.out.trans (g.mono G_16.out.size))
  clear g B7_16 B9_16 B11_16 B13_16 Sa_16 Sb_16 Sc_16 D_16 T_16 U_16 V_16 Z_16 G_16
  have K17 := And.intro B7_17.out (And.intro B9_17.out (And.intro B11_17.out (B13_17.out)))
  go_wp2_with fail
  clear hHeld
  refine hK.out _ _ K17 (fun hHeld => ?_)
  clear hK Kk K17
  try simp only [Act.put, List.setIfInBounds_toArray, List.set_cons_zero, List.set_cons_succ]
  refine h_call 19 rfl (by kernel_rfl) (by rfl) (fun Kk hK => ?_)
  go_simp
  (refine (Q13.out _).mono ?_)
  rintro e w18 ⟨rfl, g0⟩
  have g := g0
  clear g0
  have B7_18 := hid (B7_17.out.below g)
  have B9_18 := hid (B9_17.out.below g)
  have B11_18 := hid (B11_17.out.below g)
  have B13_18 := hid (B13_17.out.below g)
  have Sa_18 := hid (Sa_17.out.below g)
  have Sb_18 := hid (Sb_17.out.below g)
  have Sc_18 := hid (Sc_17.out.below g)
  have D_18 := hid (D_17.out.grown g)
  have T_18 := hid (T_17.out.grown g)
  have U_18 := hid (U_17.out.grown g)
  have V_18 := hid (V_17.out.grown g)
  have Z_18 := hid (Z_17.out.grown g)
  have G_18 := hid (G_17.out.trans (g.mono G_17.out.size))
  clear g B7_17 B9_17 B11_17 B13_17 Sa_17 Sb_17 Sc_17 D_17 T_17 U_17 V_17 Z_17 G_17
  have K18 := And.intro B7_18.out (And.intro B9_18.out (And.intro B11_18.out (B13_18.out)))
  go_wp2_with fail
  clear hHeld
  refine hK.out _ _ K18 (fun hHeld => ?_)
  clear hK Kk K18
  try simp only [Act.put, List.setIfInBounds_toArray, List.set_cons_zero, List.set_cons_succ]
  refine h_take 20 (v := .bool false) rfl (by kernel_rfl) (by kernel_rfl) (by kernel_rfl) (fun _ _ _ h => h) (by rfl) ?hyr9_20 (by assumption) ?_
  case hyr9_20 =>
    intro w' hSw
    clear hSw
    go_simp
  try simp only [Act.put, List.setIfInBounds_toArray, List.set_cons_zero, List.set_cons_succ]
  refine h_take 21 (v := .bool false) rfl (by kernel_rfl) (by kernel_rfl) (by kernel_rfl) (fun _ _ _ h => h) (by rfl) ?hyr9_21 (by assumption) ?_
  case hyr9_21 =>
    intro w' hSw
    clear hSw
    go_simp
  try simp only [Act.put, List.setIfInBounds_toArray, List.set_cons_zero, List.set_cons_succ]
  refine h_take 22 (v := .bool false) rfl (by kernel_rfl) (by kernel_rfl) (by kernel_rfl) (fun _ _ _ h => h) (by rfl) ?hyr9_22 (by assumption) ?_
  case hyr9_22 =>
    intro w' hSw
    clear hSw
    go_simp
  try simp only [Act.put, List.setIfInBounds_toArray, List.set_cons_zero, List.set_cons_succ]
  refine h_take 23 (v := .agg pa.toArray) rfl (by kernel_rfl) (by kernel_rfl) (by kernel_rfl) (fun _ _ _ h => h) (by rfl) ?hyr9_23 (by assumption) ?_
  case hyr9_23 =>
    intro w' hSw
    exact load_run 30 _ rfl _ 0 rfl pa _ (at_mid hSw.1 0 _ (by simp)) Tryd.underlying30 rfl pa_h.il
  try simp only [Act.put, List.setIfInBounds_toArray, List.set_cons_zero, List.set_cons_succ]
  refine h_take 24 (v := .agg zz.toArray) rfl (by kernel_rfl) (by kernel_rfl) (by kernel_rfl) (fun _ _ _ h => h) (by rfl) ?hyr9_24 (by assumption) ?_
  case hyr9_24 =>
    intro w' hSw
    exact load_run 30 _ rfl _ 0 rfl zz _ (at_mid hSw.2.2.2 0 _ (by simp)) Tryd.underlying30 rfl zz_h.il
  try simp only [Act.put, List.setIfInBounds_toArray, List.set_cons_zero, List.set_cons_succ]
  refine h_take 26 (v := .agg pa.toArray) rfl (by kernel_rfl) (by kernel_rfl) (by kernel_rfl) (fun _ _ _ h => h) (by rfl) ?hyr9_26 (by assumption) ?_
  case hyr9_26 =>
    intro w' hSw
    exact load_run 30 _ rfl _ 0 rfl pa _ (at_mid hSw.1 0 _ (by simp)) Tryd.underlying30 rfl pa_h.il
  try simp only [Act.put, List.setIfInBounds_toArray, List.set_cons_zero, List.set_cons_succ]
  refine h_call 25 rfl (by kernel_rfl) (by rfl) (fun Kk hK => ?_)
  go_simp
  (refine (Q14.out _ T_18.out Z_18.out).mono ?_)
  rintro e w19 ⟨rfl, g0⟩
  have g := g0
  clear g0
  have B7_19 := hid (B7_18.out.below g)
  have B9_19 := hid (B9_18.out.below g)
  have B11_19 := hid (B11_18.out.below g)
  have B13_19 := hid (B13_18.out.below g)
  have Sa_19 := hid (Sa_18.out.below g)
  have Sb_19 := hid (Sb_18.out.below g)
  have Sc_19 := hid (Sc_18.out.below g)
  have D_19 := hid (D_18.out.grown g)
  have T_19 := hid (T_18.out.grown g)
  have U_19 := hid (U_18.out.grown g)
  have V_19 := hid (V_18.out.grown g)
  have Z_19 := hid (Z_18.out.grown g)
  have G_19 := hid (G_18.out.trans (g.mono G_18.out.size))
  clear g B7_18 B9_18 B11_18 B13_18 Sa_18 Sb_18 Sc_18 D_18 T_18 U_18 V_18 Z_18 G_18
  have K19 := And.intro B7_19.out (And.intro B9_19.out (And.intro B11_19.out (B13_19.out)))
  go_wp2_with fail
  clear hHeld
  refine hK.out _ _ K19 (fun hHeld => ?_)
  clear hK Kk K19
  try simp only [Act.put, List.setIfInBounds_toArray, List.set_cons_zero, List.set_cons_succ]
  refine h_call 27 rfl (by kernel_rfl) (by rfl) (fun Kk hK => ?_)
  go_simp
  (refine (Q15.out _).mono ?_)
  rintro e w20 ⟨rfl, g0⟩
  have g := g0
  clear g0
  have B7_20 := hid (B7_19.out.below g)
  have B9_20 := hid (B9_19.out.below g)
  have B11_20 := hid (B11_19.out.below g)
  have B13_20 := hid (B13_19.out.below g)
  have Sa_20 := hid (Sa_19.out.below g)
  have Sb_20 := hid (Sb_19.out.below g)
  have Sc_20 := hid (Sc_19.out.below g)
  have D_20 := hid (D_19.out.grown g)
  have T_20 := hid (T_19.out.grown g)
  have U_20 := hid (U_19.out.grown g)
  have V_20 := hid (V_19.out.grown g)
  have Z_20 := hid (Z_19.out.grown g)
  have G_20 := hid (G_19.out.trans (g.mono G_19.out.size))
  clear g B7_19 B9_19 B11_19 B13_19 Sa_19 Sb_19 Sc_19 D_19 T_19 U_19 V_19 Z_19 G_19
  have K20 := And.intro B7_20.out (And.intro B9_20.out (And.intro B11_20.out (B13_20.out)))
  go_wp2_with fail
  clear hHeld
  refine hK.out _ _ K20 (fun hHeld => ?_)
  clear hK Kk K20
  try simp only [Act.put, List.setIfInBounds_toArray, List.set_cons_zero, List.set_cons_succ]
  refine h_take 28 (v := .bool false) rfl (by kernel_rfl) (by kernel_rfl) (by kernel_rfl) (fun _ _ _ h => h) (by rfl) ?hyr9_28 (by assumption) ?_
  case hyr9_28 =>
    intro w' hSw
    clear hSw
    go_simp
  try simp only [Act.put, List.setIfInBounds_toArray, List.set_cons_zero, List.set_cons_succ]
  refine h_take 29 (v := .bool false) rfl (by kernel_rfl) (by kernel_rfl) (by kernel_rfl) (fun _ _ _ h => h) (by rfl) ?hyr9_29 (by assumption) ?_
  case hyr9_29 =>
    intro w' hSw
    clear hSw
    go_simp
  try simp only [Act.put, List.setIfInBounds_toArray, List.set_cons_zero, List.set_cons_succ]
  refine h_take 30 (v := .bool false) rfl (by kernel_rfl) (by kernel_rfl) (by kernel_rfl) (fun _ _ _ h => h) (by rfl) ?hyr9_30 (by assumption) ?_
  case hyr9_30 =>
    intro w' hSw
    clear hSw
    go_simp
  try simp only [Act.put, List.setIfInBounds_toArray, List.set_cons_zero, List.set_cons_succ]
  refine h_take 31 (v := .agg pa.toArray) rfl (by kernel_rfl) (by kernel_rfl) (by kernel_rfl) (fun _ _ _ h => h) (by rfl) ?hyr9_31 (by assumption) ?_
  case hyr9_31 =>
    intro w' hSw
    exact load_run 30 _ rfl _ 0 rfl pa _ (at_mid hSw.1 0 _ (by simp)) Tryd.underlying30 rfl pa_h.il
  try simp only [Act.put, List.setIfInBounds_toArray, List.set_cons_zero, List.set_cons_succ]
  refine h_take 32 (v := .agg pa.toArray) rfl (by kernel_rfl) (by kernel_rfl) (by kernel_rfl) (fun _ _ _ h => h) (by rfl) ?hyr9_32 (by assumption) ?_
  case hyr9_32 =>
    intro w' hSw
    exact load_run 30 _ rfl _ 0 rfl pa _ (at_mid hSw.1 0 _ (by simp)) Tryd.underlying30 rfl pa_h.il
  try simp only [Act.put, List.setIfInBounds_toArray, List.set_cons_zero, List.set_cons_succ]
  refine h_take 35 (v := .agg zz.toArray) rfl (by kernel_rfl) (by kernel_rfl) (by kernel_rfl) (fun _ _ _ h => h) (by rfl) ?hyr9_35 (by assumption) ?_
  case hyr9_35 =>
    intro w' hSw
    exact load_run 30 _ rfl _ 0 rfl zz _ (at_mid hSw.2.2.2 0 _ (by simp)) Tryd.underlying30 rfl zz_h.il
  try simp only [Act.put, List.setIfInBounds_toArray, List.set_cons_zero, List.set_cons_succ]
  refine h_call 33 rfl (by kernel_rfl) (by rfl) (fun Kk hK => ?_)
  go_simp
  (refine (Q16.out _ Z_20.out).mono ?_)
  rintro e w21 ⟨rfl, g0⟩
  have g := g0
  clear g0
  have B7_21 := hid (B7_20.out.below g)
  have B9_21 := hid (B9_20.out.below g)
  have B11_21 := hid (B11_20.out.below g)
  have B13_21 := hid (B13_20.out.below g)
  have Sa_21 := hid (Sa_20.out.below g)
  have Sb_21 := hid (Sb_20.out.below g)
  have Sc_21 := hid (Sc_20.out.below g)
  have D_21 := hid (D_20.out.grown g)
  have T_21 := hid (T_20.out.grown g)
  have U_21 := hid (U_20.out.grown g)
  have V_21 := hid (V_20.out.grown g)
  have Z_21 := hid (Z_20.out.grown g)
  have G_21 := hid (G_20.out.trans (g.mono G_20.out.size))
  clear g B7_20 B9_20 B11_20 B13_20 Sa_20 Sb_20 Sc_20 D_20 T_20 U_20 V_20 Z_20 G_20
  have K21 := And.intro B7_21.out (And.intro B9_21.out (And.intro B11_21.out (B13_21.out)))
  go_wp2_with fail
  clear hHeld
  refine hK.out _ _ K21 (fun hHeld => ?_)
  clear hK Kk K21
  try simp only [Act.put, List.setIfInBounds_toArray, List.set_cons_zero, List.set_cons_succ]
  refine h_call 34 rfl (by kernel_rfl) (by rfl) (fun Kk hK => ?_)
  go_simp
  (refine (Q17.out _ T_21.out Z_21.out).mono ?_)
  rintro e w22 ⟨rfl, g0⟩
  have g := g0
  clear g0
  have B7_22 := hid (B7_21.out.below g)
  have B9_22 := hid (B9_21.out.below g)
  have B11_22 := hid (B11_21.out.below g)
  have B13_22 := hid (B13_21.out.below g)
  have Sa_22 := hid (Sa_21.out.below g)
  have Sb_22 := hid (Sb_21.out.below g)
  have Sc_22 := hid (Sc_21.out.below g)
  have D_22 := hid (D_21.out.grown g)
  have T_22 := hid (T_21.out.grown g)
  have U_22 := hid (U_21.out.grown g)
  have V_22 := hid (V_21.out.grown g)
  have Z_22 := hid (Z_21.out.grown g)
  have G_22 := hid (G_21.out.trans (g.mono G_21.out.size))
  clear g B7_21 B9_21 B11_21 B13_21 Sa_21 Sb_21 Sc_21 D_21 T_21 U_21 V_21 Z_21 G_21
  have K22 := And.intro B7_22.out (And.intro B9_22.out (And.intro B11_22.out (B13_22.out)))
  go_wp2_with fail
  clear hHeld
  refine hK.out _ _ K22 (fun hHeld => ?_)
  clear hK Kk K22
  try simp only [Act.put, List.setIfInBounds_toArray, List.set_cons_zero, List.set_cons_succ]
  refine h_call 36 rfl (by kernel_rfl) (by rfl) (fun Kk hK => ?_)
  go_simp
  (refine (Q18.out _).mono ?_)
  rintro e w23 ⟨rfl, g0⟩
  have g := g0
  clear g0
  have B7_23 := hid (B7_22.out.below g)
  have B9_23 := hid (B9_22.out.below g)
  have B11_23 := hid (B11_22.out.below g)
  have B13_23 := hid (B13_22.out.below g)
  have Sa_23 := hid (Sa_22.out.below g)
  have Sb_23 := hid (Sb_22.out.below g)
  have Sc_23 := hid (Sc_22.out.below g)
  have D_23 := hid (D_22.out.grown g)
  have T_23 := hid (T_22.out.grown g)
  have U_23 := hid (U_22.out.grown g)
  have V_23 := hid (V_22.out.grown g)
  have Z_23 := hid (Z_22.out.grown g)
  have G_23 := hid (G_22.out.trans (g.mono G_22.out.size))
  clear g B7_22 B9_22 B11_22 B13_22 Sa_22 Sb_22 Sc_22 D_22 T_22 U_22 V_22 Z_22 G_22
  have K23 := And.intro B7_23.out (And.intro B9_23.out (And.intro B11_23.out (B13_23.out)))
  go_wp2_with fail
  clear hHeld
  refine hK.out _ _ K23 (fun hHeld => ?_)
  clear hK Kk K23
  try simp only [Act.put, List.setIfInBounds_toArray, List.set_cons_zero, List.set_cons_succ]
  refine h_take 37 (v := .bool false) rfl (by kernel_rfl) (by kernel_rfl) (by kernel_rfl) (fun _ _ _ h => h) (by rfl) ?hyr9_37 (by assumption) ?_
  case hyr9_37 =>
    intro w' hSw
    clear hSw
    go_simp
  try simp only [Act.put, List.setIfInBounds_toArray, List.set_cons_zero, List.set_cons_succ]
  refine h_take 38 (v := .bool false) rfl (by kernel_rfl) (by kernel_rfl) (by kernel_rfl) (fun _ _ _ h => h) (by rfl) ?hyr9_38 (by assumption) ?_
  case hyr9_38 =>
    intro w' hSw
    clear hSw
    go_simp
  try simp only [Act.put, List.setIfInBounds_toArray, List.set_cons_zero, List.set_cons_succ]
  refine h_take 39 (v := .bool false) rfl (by kernel_rfl) (by kernel_rfl) (by kernel_rfl) (fun _ _ _ h => h) (by rfl) ?hyr9_39 (by assumption) ?_
  case hyr9_39 =>
    intro w' hSw
    clear hSw
    go_simp
  try simp only [Act.put, List.setIfInBounds_toArray, List.set_cons_zero, List.set_cons_succ]
  refine h_take 40 (v := .agg pa.toArray) rfl (by kernel_rfl) (by kernel_rfl) (by kernel_rfl) (fun _ _ _ h => h) (by rfl) ?hyr9_40 (by assumption) ?_
  case hyr9_40 =>
    intro w' hSw
    exact load_run 30 _ rfl _ 0 rfl pa _ (at_mid hSw.1 0 _ (by simp)) Tryd.underlying30 rfl pa_h.il
  try simp only [Act.put, List.setIfInBounds_toArray, List.set_cons_zero, List.set_cons_succ]
  refine h_take 42 (v := .agg pa.toArray) rfl (by kernel_rfl) (by kernel_rfl) (by kernel_rfl) (fun _ _ _ h => h) (by rfl) ?hyr9_42 (by assumption) ?_
  case hyr9_42 =>
    intro w' hSw
    exact load_run 30 _ rfl _ 0 rfl pa _ (at_mid hSw.1 0 _ (by simp)) Tryd.underlying30 rfl pa_h.il
  try simp only [Act.put, List.setIfInBounds_toArray, List.set_cons_zero, List.set_cons_succ]
  refine h_take 43 (v := .agg pa.toArray) rfl (by kernel_rfl) (by kernel_rfl) (by kernel_rfl) (fun _ _ _ h => h) (by rfl) ?hyr9_43 (by assumption) ?_
  case hyr9_43 =>
    intro w' hSw
    exact load_run 30 _ rfl _ 0 rfl pa _ (at_mid hSw.1 0 _ (by simp)) Tryd.underlying30 rfl pa_h.il
  try simp only [Act.put, List.setIfInBounds_toArray, List.set_cons_zero, List.set_cons_succ]
  refine h_call 41 rfl (by kernel_rfl) (by rfl) (fun Kk hK => ?_)
  go_simp
  (refine (Q19.out _ Z_23.out).mono ?_)
  rintro e w24 ⟨rfl, g0⟩
  have g := g0
  clear g0
  have B7_24 := hid (B7_23.out.below g)
  have B9_24 := hid (B9_23.out.below g)
  have B11_24 := hid (B11_23.out.below g)
  have B13_24 := hid (B13_23.out.below g)
  have Sa_24 := hid (Sa_23.out.below g)
  have Sb_24 := hid (Sb_23.out.below g)
  have Sc_24 := hid (Sc_23.out.below g)
  have D_24 := hid (D_23.out.grown g)
  have T_24 := hid (T_23.out.grown g)
  have U_24 := hid (U_23.out.grown g)
  have V_24 := hid (V_23.out.grown g)
  have Z_24 := hid (Z_23.out.grown g)
  have G_24 := hid (G_23.out.trans (g.mono G_23.out.size))
  clear g B7_23 B9_23 B11_23 B13_23 Sa_23 Sb_23 Sc_23 D_23 T_23 U_23 V_23 Z_23 G_23
  have K24 := And.intro B7_24.out (And.intro B9_24.out (And.intro B11_24.out (B13_24.out)))
  go_wp2_with fail
  clear hHeld
  refine hK.out _ _ K24 (fun hHeld => ?_)
  clear hK Kk K24
  try simp only [Act.put, List.setIfInBounds_toArray, List.set_cons_zero, List.set_cons_succ]
  refine h_call 44 rfl (by kernel_rfl) (by rfl) (fun Kk hK => ?_)
  go_simp
  (refine (Q20.out _ T_24.out Z_24.out).mono ?_)
  rintro e w25 ⟨rfl, g0⟩
  have g := g0
  clear g0
  have B7_25 := hid (B7_24.out.below g)
  have B9_25 := hid (B9_24.out.below g)
  have B11_25 := hid (B11_24.out.below g)
  have B13_25 := hid (B13_24.out.below g)
  have Sa_25 := hid (Sa_24.out.below g)
  have Sb_25 := hid (Sb_24.out.below g)
  have Sc_25 := hid (Sc_24.out.below g)
  have D_25 := hid (D_24.out.grown g)
  have T_25 := hid (T_24.out.grown g)
  have U_25 := hid (U_24.out.grown g)
  have V_25 := hid (V_24.out.grown g)
  have Z_25 := hid (Z_24.out.grown g)
  have G_25 := hid (G_24.out.trans (g.mono G_24.out.size))
  clear g B7_24 B9_24 B11_24 B13_24 Sa_24 Sb_24 Sc_24 D_24 T_24 U_24 V_24 Z_24 G_24
  have K25 := And.intro B7_25.out (And.intro B9_25.out (And.intro B11_25.out (B13_25.out)))
  go_wp2_with fail
  clear hHeld
  refine hK.out _ _ K25 (fun hHeld => ?_)
  clear hK Kk K25
  try simp only [Act.put, List.setIfInBounds_toArray, List.set_cons_zero, List.set_cons_succ]
  refine h_call 45 rfl (by kernel_rfl) (by rfl) (fun Kk hK => ?_)
  go_simp
  (refine (Q21.out _).mono ?_)
  rintro e w26 ⟨rfl, g0⟩
  have g := g0
  clear g0
  have B7_26 := hid (B7_25.out.below g)
  have B9_26 := hid (B9_25.out.below g)
  have B11_26 := hid (B11_25.out.below g)
  have B13_26 := hid (B13_25.out.below g)
  have Sa_26 := hid (Sa_25.out.below g)
  have Sb_26 := hid (Sb_25.out.below g)
  have Sc_26 := hid (Sc_25.out.below g)
  have D_26 := hid (D_25.out.grown g)
  have T_26 := hid (T_25.out.grown g)
  have U_26 := hid (U_25.out.grown g)
  have V_26 := hid (V_25.out.grown g)
  have Z_26 := hid (Z_25.out.grown g)
  have G_26 := hid (G_25.out.trans (g.mono G_25.out.size))
  clear g B7_25 B9_25 B11_25 B13_25 Sa_25 Sb_25 Sc_25 D_25 T_25 U_25 V_25 Z_25 G_25
  have K26 := And.intro B7_26.out (And.intro B9_26.out (And.intro B11_26.out (B13_26.out)))
  go_wp2_with fail
  clear hHeld
  refine hK.out _ _ K26 (fun hHeld => ?_)
  clear hK Kk K26
  try simp only [Act.put, List.setIfInBounds_toArray, List.set_cons_zero, List.set_cons_succ]
  refine h_take 46 (v := .bool false) rfl (by kernel_rfl) (by kernel_rfl) (by kernel_rfl) (fun _ _ _ h => h) (by rfl) ?hyr9_46 (by assumption) ?_
  case hyr9_46 =>
    intro w' hSw
    clear hSw
    go_simp
  try simp only [Act.put, List.setIfInBounds_toArray, List.set_cons_zero, List.set_cons_succ]
  refine h_take 47 (v := .bool false) rfl (by kernel_rfl) (by kernel_rfl) (by kernel_rfl) (fun _ _ _ h => h) (by rfl) ?hyr9_47 (by assumption) ?_
  case hyr9_47 =>
    intro w' hSw
    clear hSw
    go_simp
  try simp only [Act.put, List.setIfInBounds_toArray, List.set_cons_zero, List.set_cons_succ]
  refine wpAnyH_done (by kernel_rfl) ?_ _
  clear hHeld
  clear Sa_26
  clear Sb_26
  clear Sc_26
  go_wp2_with fail
  refine wp_region_grow (ob := (fun k => if k = 5 then some (.cells #[.int .u64 0, .int .u64 0, .int .u64 0, .int .u64 0, .int .u64 0, .int .u64 0, .int .u64 0, .int .u64 0, .int .u64 0, .int .u64 0, .int .u64 0, .int .u64 0, .int .u64 0, .int .u64 0, .int .u64 0, .int .u64 0, .int .u64 0, .int .u64 0, .int .u64 0, .int .u64 0] 30) else none)) (st := (fun k => if k = 6 then some (5, .cells s3.toArray 30) else none)) (by kernel_rfl) ?_
  simp only [List.size_toArray, List.length_cons, List.length_nil, Nat.reduceAdd, Array.replicate_succ, Array.replicate_zero, List.push_toArray, List.nil_append, List.cons_append]
  refine g_first 0 _ (.agg pa.toArray) rfl rfl rfl (by kernel_rfl) (by kernel_rfl) (by kernel_rfl) ?_ ?_
  · refine Or.inl ⟨by rfl, fun w' hw' => ?_⟩
    exact quiet_load 30 _ rfl _ 0 rfl pa _ (at_mid (B7_26.out.below hw') 0 _ (by simp)) Tryd.underlying30 rfl pa_h.il
  try simp only [List.getElem_toArray, List.getElem_cons_zero, List.getElem_cons_succ, Act.put, List.setIfInBounds_toArray, List.set_cons_zero, List.set_cons_succ]
  refine g_first 1 _ (.agg pb.toArray) rfl rfl rfl (by kernel_rfl) (by kernel_rfl) (by kernel_rfl) ?_ ?_
  · refine Or.inl ⟨by rfl, fun w' hw' => ?_⟩
    exact quiet_load 30 _ rfl _ 0 rfl pb _ (at_mid (B9_26.out.below hw') 0 _ (by simp)) Tryd.underlying30 rfl pb_h.il
  try simp only [List.getElem_toArray, List.getElem_cons_zero, List.getElem_cons_succ, Act.put, List.setIfInBounds_toArray, List.set_cons_zero, List.set_cons_succ]
  refine g_first 2 _ (.agg s1.toArray) rfl rfl rfl (by kernel_rfl) (by kernel_rfl) (by kernel_rfl) ?_ ?_
  · refine Or.inl ⟨by rfl, fun w' hw' => ?_⟩
    refine quiet_call (by go_simp) (Q22.out _ (T_26.out.grown hw') (Z_26.out.grown hw'))
  try simp only [List.getElem_toArray, List.getElem_cons_zero, List.getElem_cons_succ, Act.put, List.setIfInBounds_toArray, List.set_cons_zero, List.set_cons_succ]
  refine g_first 3 _ (.agg pc.toArray) rfl rfl rfl (by kernel_rfl) (by kernel_rfl) (by kernel_rfl) ?_ ?_
  · refine Or.inl ⟨by rfl, fun w' hw' => ?_⟩
    exact quiet_load 30 _ rfl _ 0 rfl pc _ (at_mid (B11_26.out.below hw') 0 _ (by simp)) Tryd.underlying30 rfl pc_h.il
  try simp only [List.getElem_toArray, List.getElem_cons_zero, List.getElem_cons_succ, Act.put, List.setIfInBounds_toArray, List.set_cons_zero, List.set_cons_succ]
  refine g_first 4 _ (.agg s3.toArray) rfl rfl rfl (by kernel_rfl) (by kernel_rfl) (by kernel_rfl) ?_ ?_
  · refine Or.inl ⟨by rfl, fun w' hw' => ?_⟩
    refine quiet_call (by go_simp) (Q23.out _ (T_26.out.grown hw') (Z_26.out.grown hw'))
  try simp only [List.getElem_toArray, List.getElem_cons_zero, List.getElem_cons_succ, Act.put, List.setIfInBounds_toArray, List.set_cons_zero, List.set_cons_succ]
  refine g_make 5 _ (.cells #[.int .u64 0, .int .u64 0, .int .u64 0, .int .u64 0, .int .u64 0, .int .u64 0, .int .u64 0, .int .u64 0, .int .u64 0, .int .u64 0, .int .u64 0, .int .u64 0, .int .u64 0, .int .u64 0, .int .u64 0, .int .u64 0, .int .u64 0, .int .u64 0, .int .u64 0, .int .u64 0] 30) (fun k => (decide (5 ≤ k ∧ k ≤ 5)) || (decide (6 ≤ k ∧ k ≤ 6) && k != 6)) rfl rfl rfl rfl ?_ ?_ (by kernel_rfl) (by kernel_rfl) (by kernel_rfl) (by kernel_rfl) (fun g14 => ?_)
  · intro a w
    go_simp
  · intro j hj
    simp only [Bool.or_eq_true, Bool.and_eq_true, decide_eq_true_eq, bne_iff_ne] at hj
    rcases hj with hj | ⟨hj, hne⟩
    · left
      rcases (show j = 5 by omega) with rfl <;> simp
    · right
      rcases (show j = 6 by omega) with rfl <;> first | exact ⟨_, _, rfl, by decide⟩ | omega
  try simp only [List.getElem_toArray, List.getElem_cons_zero, List.getElem_cons_succ, Act.put, List.setIfInBounds_toArray, List.set_cons_zero, List.set_cons_succ]
  refine g_store 6 5 _ (.cells s3.toArray 30) g14 (.cells #[.int .u64 0, .int .u64 0, .int .u64 0, .int .u64 0, .int .u64 0, .int .u64 0, .int .u64 0, .int .u64 0, .int .u64 0, .int .u64 0, .int .u64 0, .int .u64 0, .int .u64 0, .int .u64 0, .int .u64 0, .int .u64 0, .int .u64 0, .int .u64 0, .int .u64 0, .int .u64 0] 30) (fun k => decide (6 ≤ k ∧ k ≤ 6) && k != 6) rfl rfl rfl rfl ?_ (by kernel_rfl) (by kernel_rfl) (by kernel_rfl) (by kernel_rfl) (by simp [upd]) ?_ ?_
  · intro j hj
    simp only [Bool.and_eq_true, decide_eq_true_eq, bne_iff_ne] at hj
    rcases (show j = 6 by omega) with rfl <;> first | exact ⟨_, _, rfl, by decide⟩ | omega
  · exact stores_whole 30 _ _ rfl g14 s3 [.int .u64 0, .int .u64 0, .int .u64 0, .int .u64 0, .int .u64 0, .int .u64 0, .int .u64 0, .int .u64 0, .int .u64 0, .int .u64 0, .int .u64 0, .int .u64 0, .int .u64 0, .int .u64 0, .int .u64 0, .int .u64 0, .int .u64 0, .int .u64 0, .int .u64 0, .int .u64 0] rfl rfl s3_h.len s3_h.is s3_h.one
  try simp only [List.getElem_toArray, List.getElem_cons_zero, List.getElem_cons_succ, Act.put, List.setIfInBounds_toArray, List.set_cons_zero, List.set_cons_succ]
  refine ⟨by kernel_rfl, fun w27 hV => ?_⟩
  have own14 := hV.own 5 _ (by simp [upd]; rfl)
  have B14_27 : Hid (At 30 w27 g14 s3) := own14.2.2
  have szB14 : w.heap.size ≤ g14 := by have h1 := own14.1; have h2 := G_26.out.size; dsimp only at h1; omega
  have nlB7B14 : w3.heap.size < g14 := by have h1 := own14.1; have h2 := B7_26.out.lt; dsimp only at h1; omega
  have nlB9B14 : w5.heap.size < g14 := by have h1 := own14.1; have h2 := B9_26.out.lt; dsimp only at h1; omega
  have nlB11B14 : w7.heap.size < g14 := by have h1 := own14.1; have h2 := B11_26.out.lt; dsimp only at h1; omega
  have nlB13B14 : w9.heap.size < g14 := by have h1 := own14.1; have h2 := B13_26.out.lt; dsimp only at h1; omega
  have g := hV.bel
  have B7_27 := hid (B7_26.out.below g)
  have B9_27 := hid (B9_26.out.below g)
  have B11_27 := hid (B11_26.out.below g)
  have B13_27 := hid (B13_26.out.below g)
  have D_27 := hid (D_26.out.grown g)
  have T_27 := hid (T_26.out.grown g)
  have U_27 := hid (U_26.out.grown g)
  have V_27 := hid (V_26.out.grown g)
  have Z_27 := hid (Z_26.out.grown g)
  have G_27 := hid (G_26.out.trans (g.mono G_26.out.size))
  clear hV g own14 B7_26 B9_26 B11_26 B13_26 D_26 T_26 U_26 V_26 Z_26 G_26
  go_wp2_with (first | (refine wpList_load_mid rfl 30 _ rfl g14 0 rfl s3 _ (at_mid B14_27.out 0 _ (by simp)) Tryd.underlying30 rfl s3_h.il ?_) | fail)
  refine (Q24.out _).mono ?_
  rintro e w28 ⟨gd, rfl, hsd, -, g0⟩
  have g := g0
  clear g0
  have B7_28 := hid (B7_27.out.below g)
  have B9_28 := hid (B9_27.out.below g)
  have B11_28 := hid (B11_27.out.below g)
  have B13_28 := hid (B13_27.out.below g)
  have B14_28 := hid (B14_27.out.below g)
  have D_28 := hid (D_27.out.grown g)
  have T_28 := hid (T_27.out.grown g)
  have U_28 := hid (U_27.out.grown g)
  have V_28 := hid (V_27.out.grown g)
  have Z_28 := hid (Z_27.out.grown g)
  have G_28 := hid (G_27.out.trans (g.mono G_27.out.size))
  clear g B7_27 B9_27 B11_27 B13_27 B14_27 D_27 T_27 U_27 V_27 Z_27 G_27
  have Sd_28 : Hid (SK .u8 w28 (.slice (some ⟨gd, 0, none⟩) 32 32) ls) := hsd
  clear hsd
  go_wp2_with (fail)
  refine (Q25.out _ _ Sd_28.out D_28.out Z_28.out).mono ?_
  rintro e w29 ⟨rfl, g0⟩
  have g := g0
  clear g0
  have B7_29 := hid (B7_28.out.below g)
  have B9_29 := hid (B9_28.out.below g)
  have B11_29 := hid (B11_28.out.below g)
  have B13_29 := hid (B13_28.out.below g)
  have B14_29 := hid (B14_28.out.below g)
  have Sd_29 := hid (Sd_28.out.below g)
  have D_29 := hid (D_28.out.grown g)
  have T_29 := hid (T_28.out.grown g)
  have U_29 := hid (U_28.out.grown g)
  have V_29 := hid (V_28.out.grown g)
  have Z_29 := hid (Z_28.out.grown g)
  have G_29 := hid (G_28.out.trans (g.mono G_28.out.size))
  clear g B7_28 B9_28 B11_28 B13_28 B14_28 Sd_28 D_28 T_28 U_28 V_28 Z_28 G_28
  have szB15 : w.heap.size ≤ w29.heap.size := G_29.out.size
  have nlB7B15 : w3.heap.size < w29.heap.size := B7_29.out.lt
  have nlB9B15 : w5.heap.size < w29.heap.size := B9_29.out.lt
  have nlB11B15 : w7.heap.size < w29.heap.size := B11_29.out.lt
  have nlB13B15 : w9.heap.size < w29.heap.size := B13_29.out.lt
  have nlB14B15 : g14 < w29.heap.size := B14_29.out.lt
  go_wp2_with (refine list_store_new rfl 30 _ _ rfl w29 tt [.int .u64 0, .int .u64 0, .int .u64 0, .int .u64 0, .int .u64 0, .int .u64 0, .int .u64 0, .int .u64 0, .int .u64 0, .int .u64 0, .int .u64 0, .int .u64 0, .int .u64 0, .int .u64 0, .int .u64 0, .int .u64 0, .int .u64 0, .int .u64 0, .int .u64 0, .int .u64 0] rfl rfl tt_h.len tt_h.is tt_h.one (fun w30 hC g => ?_))
  have B15_30 := hid hC
  have B7_30 := hid (B7_29.out.below g)
  have B9_30 := hid (B9_29.out.below g)
  have B11_30 := hid (B11_29.out.below g)
  have B13_30 := hid (B13_29.out.below g)
  have B14_30 := hid (B14_29.out.below g)
  have Sd_30 := hid (Sd_29.out.below g)
  have D_30 := hid (D_29.out.grown g)
  have T_30 := hid (T_29.out.grown g)
  have U_30 := hid (U_29.out.grown g)
  have V_30 := hid (V_29.out.grown g)
  have Z_30 := hid (Z_29.out.grown g)
  have G_30 := hid (G_29.out.trans (g.mono G_29.out.size))
  clear hC g B7_29 B9_29 B11_29 B13_29 B14_29 Sd_29 D_29 T_29 U_29 V_29 Z_29 G_29
  go_wp2_with fail
  have D_30' := hid (D_30.out.grown (Below.refl _ w30).drew)
  have T_30' := hid (T_30.out.grown (Below.refl _ w30).drew)
  have U_30' := hid (U_30.out.grown (Below.refl _ w30).drew)
  have V_30' := hid (V_30.out.grown (Below.refl _ w30).drew)
  have Z_30' := hid (Z_30.out.grown (Below.refl _ w30).drew)
  have Sd_30' := hid (Sd_30.out.below (Below.refl _ w30).drew)
  have K30 : At 30 w30.drew w29.heap.size tt ∧ At 30 w30.drew g14 s3 ∧ At 30 w30.drew w5.heap.size pb ∧ At 30 w30.drew w3.heap.size pa ∧ At 30 w30.drew w7.heap.size pc ∧ At 30 w30.drew w9.heap.size zz := And.intro B15_30.out.drew (And.intro B14_30.out.drew (And.intro B9_30.out.drew (And.intro B7_30.out.drew (And.intro B11_30.out.drew (B13_30.out.drew)))))
  refine wp_region_held_drew (S := fun w' => At 30 w' w29.heap.size tt ∧ At 30 w' g14 s3 ∧ At 30 w' w5.heap.size pb ∧ At 30 w' w3.heap.size pa ∧ At 30 w' w7.heap.size pc ∧ At 30 w' w9.heap.size zz) (by kernel_rfl) K30 (fun hHeld => ?_)
  clear K30
  refine h_take 0 (v := .bool true) rfl (by kernel_rfl) (by kernel_rfl) (by kernel_rfl) (fun _ _ _ h => h) (by rfl) ?hyr13_0 (by assumption) ?_
  case hyr13_0 =>
    intro w' hSw
    clear hSw
    go_simp
  try simp only [Act.put, List.setIfInBounds_toArray, List.set_cons_zero, List.set_cons_succ]
  refine h_take 1 (v := .bool true) rfl (by kernel_rfl) (by kernel_rfl) (by kernel_rfl) (fun _ _ _ h => h) (by rfl) ?hyr13_1 (by assumption) ?_
  case hyr13_1 =>
    intro w' hSw
    clear hSw
    go_simp
  try simp only [Act.put, List.setIfInBounds_toArray, List.set_cons_zero, List.set_cons_succ]
  refine h_take 2 (v := .agg tt.toArray) rfl (by kernel_rfl) (by kernel_rfl) (by kernel_rfl) (fun _ _ _ h => h) (by rfl) ?hyr13_2 (by assumption) ?_
  case hyr13_2 =>
    intro w' hSw
    exact load_run 30 _ rfl _ 0 rfl tt _ (at_mid hSw.1 0 _ (by simp)) Tryd.underlying30 rfl tt_h.il
  try simp only [Act.put, List.setIfInBounds_toArray, List.set_cons_zero, List.set_cons_succ]
  refine h_take 3 (v := .agg s3.toArray) rfl (by kernel_rfl) (by kernel_rfl) (by kernel_rfl) (fun _ _ _ h => h) (by rfl) ?hyr13_3 (by assumption) ?_
  case hyr13_3 =>
    intro w' hSw
    exact load_run 30 _ rfl _ 0 rfl s3 _ (at_mid hSw.2.1 0 _ (by simp)) Tryd.underlying30 rfl s3_h.il
  try simp only [Act.put, List.setIfInBounds_toArray, List.set_cons_zero, List.set_cons_succ]
  refine h_call 4 rfl (by kernel_rfl) (by rfl) (fun Kk hK => ?_)
  go_simp
  (refine (Q26.out _).mono ?_)
  rintro e w31 ⟨rfl, g0⟩
  have g : Below w30.heap.size w30 w31 := (Below.refl _ w30).drew.trans g0
  clear g0
  have B7_31 := hid (B7_30.out.below g)
  have B9_31 := hid (B9_30.out.below g)
  have B11_31 := hid (B11_30.out.below g)
  have B13_31 := hid (B13_30.out.below g)
  have B14_31 := hid (B14_30.out.below g)
  have B15_31 := hid (B15_30.out.below g)
  have Sd_31 := hid (Sd_30.out.below g)
  have D_31 := hid (D_30.out.grown g)
  have T_31 := hid (T_30.out.grown g)
  have U_31 := hid (U_30.out.grown g)
  have V_31 := hid (V_30.out.grown g)
  have Z_31 := hid (Z_30.out.grown g)
  have G_31 := hid (G_30.out.trans (g.mono G_30.out.size))
  clear g B7_30 B9_30 B11_30 B13_30 B14_30 B15_30 Sd_30 D_30 T_30 U_30 V_30 Z_30 G_30
  clear Sd_30' D_30' T_30' U_30' V_30' Z_30'
  have K31 := And.intro B15_31.out (And.intro B14_31.out (And.intro B9_31.out (And.intro B7_31.out (And.intro B11_31.out (B13_31.out)))))
  go_wp2_with fail
  clear hHeld
  refine hK.out _ _ K31 (fun hHeld => ?_)
  clear hK Kk K31
  try simp only [Act.put, List.setIfInBounds_toArray, List.set_cons_zero, List.set_cons_succ]
  refine h_take 5 (v := .bool true) rfl (by kernel_rfl) (by kernel_rfl) (by kernel_rfl) (fun _ _ _ h => h) (by rfl) ?hyr13_5 (by assumption) ?_
  case hyr13_5 =>
    intro w' hSw
    clear hSw
    go_simp
  try simp only [Act.put, List.setIfInBounds_toArray, List.set_cons_zero, List.set_cons_succ]
  refine h_take 6 (v := .bool true) rfl (by kernel_rfl) (by kernel_rfl) (by kernel_rfl) (fun _ _ _ h => h) (by rfl) ?hyr13_6 (by assumption) ?_
  case hyr13_6 =>
    intro w' hSw
    clear hSw
    go_simp
  try simp only [Act.put, List.setIfInBounds_toArray, List.set_cons_zero, List.set_cons_succ]
  refine h_take 7 (v := .agg s3.toArray) rfl (by kernel_rfl) (by kernel_rfl) (by kernel_rfl) (fun _ _ _ h => h) (by rfl) ?hyr13_7 (by assumption) ?_
  case hyr13_7 =>
    intro w' hSw
    exact load_run 30 _ rfl _ 0 rfl s3 _ (at_mid hSw.2.1 0 _ (by simp)) Tryd.underlying30 rfl s3_h.il
  try simp only [Act.put, List.setIfInBounds_toArray, List.set_cons_zero, List.set_cons_succ]
  refine h_take 8 (v := .agg s3.toArray) rfl (by kernel_rfl) (by kernel_rfl) (by kernel_rfl) (fun _ _ _ h => h) (by rfl) ?hyr13_8 (by assumption) ?_
  case hyr13_8 =>
    intro w' hSw
    exact load_run 30 _ rfl _ 0 rfl s3 _ (at_mid hSw.2.1 0 _ (by simp)) Tryd.underlying30 rfl s3_h.il
  try simp only [Act.put, List.setIfInBounds_toArray, List.set_cons_zero, List.set_cons_succ]
  refine h_call 9 rfl (by kernel_rfl) (by rfl) (fun Kk hK => ?_)
  go_simp
  (refine (Q27.out _).mono ?_)
  rintro e w32 ⟨rfl, g0⟩
  have g := g0
  clear g0
  have B7_32 := hid (B7_31.out.below g)
  have B9_32 := hid (B9_31.out.below g)
  have B11_32 := hid (B11_31.out.below g)
  have B13_32 := hid (B13_31.out.below g)
  have B14_32 := hid (B14_31.out.below g)
  have B15_32 := hid (B15_31.out.below g)
  have Sd_32 := hid (Sd_31.out.below g)
  have D_32 := hid (D_31.out.grown g)
  have T_32 := hid (T_31.out.grown g)
  have U_32 := hid (U_31.out.grown g)
  have V_32 := hid (V_31.out.grown g)
  have Z_32 := hid (Z_31.out.grown g)
  have G_32 := hid (G_31.out.trans (g.mono G_31.out.size))
  clear g B7_31 B9_31 B11_31 B13_31 B14_31 B15_31 Sd_31 D_31 T_31 U_31 V_31 Z_31 G_31
  have K32 := And.intro B15_32.out (And.intro B14_32.out (And.intro B9_32.out (And.intro B7_32.out (And.intro B11_32.out (B13_32.out)))))
  go_wp2_with fail
  clear hHeld
  refine hK.out _ _ K32 (fun hHeld => ?_)
  clear hK Kk K32
  try simp only [Act.put, List.setIfInBounds_toArray, List.set_cons_zero, List.set_cons_succ]
  refine h_take 10 (v := .bool true) rfl (by kernel_rfl) (by kernel_rfl) (by kernel_rfl) (fun _ _ _ h => h) (by rfl) ?hyr13_10 (by assumption) ?_
  case hyr13_10 =>
    intro w' hSw
    clear hSw
    go_simp
  try simp only [Act.put, List.setIfInBounds_toArray, List.set_cons_zero, List.set_cons_succ]
  refine h_take 11 (v := .bool true) rfl (by kernel_rfl) (by kernel_rfl) (by kernel_rfl) (fun _ _ _ h => h) (by rfl) ?hyr13_11 (by assumption) ?_
  case hyr13_11 =>
    intro w' hSw
    clear hSw
    go_simp
  try simp only [Act.put, List.setIfInBounds_toArray, List.set_cons_zero, List.set_cons_succ]
  refine h_take 12 (v := .agg tt.toArray) rfl (by kernel_rfl) (by kernel_rfl) (by kernel_rfl) (fun _ _ _ h => h) (by rfl) ?hyr13_12 (by assumption) ?_
  case hyr13_12 =>
    intro w' hSw
    exact load_run 30 _ rfl _ 0 rfl tt _ (at_mid hSw.1 0 _ (by simp)) Tryd.underlying30 rfl tt_h.il
  try simp only [Act.put, List.setIfInBounds_toArray, List.set_cons_zero, List.set_cons_succ]
  refine h_take 14 (v := .agg s3.toArray) rfl (by kernel_rfl) (by kernel_rfl) (by kernel_rfl) (fun _ _ _ h => h) (by rfl) ?hyr13_14 (by assumption) ?_
  case hyr13_14 =>
    intro w' hSw
    exact load_run 30 _ rfl _ 0 rfl s3 _ (at_mid hSw.2.1 0 _ (by simp)) Tryd.underlying30 rfl s3_h.il
  try simp only [Act.put, List.setIfInBounds_toArray, List.set_cons_zero, List.set_cons_succ]
  refine h_call 13 rfl (by kernel_rfl) (by rfl) (fun Kk hK => ?_)
  go_simp
  (refine (Q28.out _).mono ?_)
  rintro e w33 ⟨ge, rfl, hse, -, g0⟩
  have g := g0
  clear g0
  have B7_33 := hid (B7_32.out.below g)
  have B9_33 := hid (B9_32.out.below g)
  have B11_33 := hid (B11_32.out.below g)
  have B13_33 := hid (B13_32.out.below g)
  have B14_33 := hid (B14_32.out.below g)
  have B15_33 := hid (B15_32.out.below g)
  have Sd_33 := hid (Sd_32.out.below g)
  have D_33 := hid (D_32.out.grown g)
  have T_33 := hid (T_32.out.grown g)
  have U_33 := hid (U_32.out.grown g)
  have V_33 := hid (V_32.out.grown g)
  have Z_33 := hid (Z_32.out.grown g)
  have G_33 := hid (G_32.out.trans (g.mono G_32.out.size))
  clear g B7_32 B9_32 B11_32 B13_32 B14_32 B15_32 Sd_32 D_32 T_32 U_32 V_32 Z_32 G_32
  have Se_33 : Hid (SK .u8 w33 (.slice (some ⟨ge, 0, none⟩) 32 32) ls) := hse
  clear hse
  have K33 := And.intro B15_33.out (And.intro B14_33.out (And.intro B9_33.out (And.intro B7_33.out (And.intro B11_33.out (B13_33.out)))))
  go_wp2_with fail
  clear hHeld
  refine hK.out _ _ K33 (fun hHeld => ?_)
  clear hK Kk K33
  try simp only [Act.put, List.setIfInBounds_toArray, List.set_cons_zero, List.set_cons_succ]
  refine h_call 15 rfl (by kernel_rfl) (by rfl) (fun Kk hK => ?_)
  go_simp
  (refine (Q29.out _).mono ?_)
  rintro e w34 ⟨gf, rfl, hsf, -, g0⟩
  have g := g0
  clear g0
  have B7_34 := hid (B7_33.out.below g)
  have B9_34 := hid (B9_33.out.below g)
  have B11_34 := hid (B11_33.out.below g)
  have B13_34 := hid (B13_33.out.below g)
  have B14_34 := hid (B14_33.out.below g)
  have B15_34 := hid (B15_33.out.below g)
  have Sd_34 := hid (Sd_33.out.below g)
  have Se_34 := hid (Se_33.out.below g)
  have D_34 := hid (D_33.out.grown g)
  have T_34 := hid (T_33.out.grown g)
  have U_34 := hid (U_33.out.grown g)
  have V_34 := hid (V_33.out.grown g)
  have Z_34 := hid (Z_33.out.grown g)
  have G_34 := hid (G_33.out.trans (g.mono G_33.out.size))
  clear g B7_33 B9_33 B11_33 B13_33 B14_33 B15_33 Sd_33 Se_33 D_33 T_33 U_33 V_33 Z_33 G_33
  have Sf_34 : Hid (SK .u8 w34 (.slice (some ⟨gf, 0, none⟩) 32 32) ls) := hsf
  clear hsf
  have K34 := And.intro B15_34.out (And.intro B14_34.out (And.intro B9_34.out (And.intro B7_34.out (And.intro B11_34.out (B13_34.out)))))
  go_wp2_with fail
  clear hHeld
  refine hK.out _ _ K34 (fun hHeld => ?_)
  clear hK Kk K34
  try simp only [Act.put, List.setIfInBounds_toArray, List.set_cons_zero, List.set_cons_succ]
  refine h_call 16 rfl (by kernel_rfl) (by rfl) (fun Kk hK => ?_)
  go_simp
  (refine (Q30.out _ _ _ Se_34.out Sf_34.out).mono ?_)
  rintro e w35 ⟨rfl, g0⟩
  have g := g0
  clear g0
  have B7_35 := hid (B7_34.out.below g)
  have B9_35 := hid (B9_34.out.below g)
  have B11_35 := hid (B11_34.out.below g)
  have B13_35 := hid (B13_34.out.below g)
  have B14_35 := hid (B14_34.out.below g)
  have B15_35 := hid (B15_34.out.below g)
  have Sd_35 := hid (Sd_34.out.below g)
  have Se_35 := hid (Se_34.out.below g)
  have Sf_35 := hid (Sf_34.out.below g)
  have D_35 := hid (D_34.out.grown g)
  have T_35 := hid (T_34.out.grown g)
  have U_35 := hid (U_34.out.grown g)
  have V_35 := hid (V_34.out.grown g)
  have Z_35 := hid (Z_34.out.grown g)
  have G_35 := hid (G_34.out.trans (g.mono G_34.out.size))
  clear g B7_34 B9_34 B11_34 B13_34 B14_34 B15_34 Sd_34 Se_34 Sf_34 D_34 T_34 U_34 V_34 Z_34 G_34
  have K35 := And.intro B15_35.out (And.intro B14_35.out (And.intro B9_35.out (And.intro B7_35.out (And.intro B11_35.out (B13_35.out)))))
  go_wp2_with fail
  clear hHeld
  refine hK.out _ _ K35 (fun hHeld => ?_)
  clear hK Kk K35
  try simp only [Act.put, List.setIfInBounds_toArray, List.set_cons_zero, List.set_cons_succ]
  refine h_take 17 (v := .bool true) rfl (by kernel_rfl) (by kernel_rfl) (by kernel_rfl) (fun _ _ _ h => h) (by rfl) ?hyr13_17 (by assumption) ?_
  case hyr13_17 =>
    intro w' hSw
    clear hSw
    go_simp
  try simp only [Act.put, List.setIfInBounds_toArray, List.set_cons_zero, List.set_cons_succ]
  refine h_take 18 (v := .bool true) rfl (by kernel_rfl) (by kernel_rfl) (by kernel_rfl) (fun _ _ _ h => h) (by rfl) ?hyr13_18 (by assumption) ?_
  case hyr13_18 =>
    intro w' hSw
    clear hSw
    go_simp
  try simp only [Act.put, List.setIfInBounds_toArray, List.set_cons_zero, List.set_cons_succ]
  refine h_take 19 (v := .agg s3.toArray) rfl (by kernel_rfl) (by kernel_rfl) (by kernel_rfl) (fun _ _ _ h => h) (by rfl) ?hyr13_19 (by assumption) ?_
  case hyr13_19 =>
    intro w' hSw
    exact load_run 30 _ rfl _ 0 rfl s3 _ (at_mid hSw.2.1 0 _ (by simp)) Tryd.underlying30 rfl s3_h.il
  try simp only [Act.put, List.setIfInBounds_toArray, List.set_cons_zero, List.set_cons_succ]
  refine h_take 20 (v := .agg pb.toArray) rfl (by kernel_rfl) (by kernel_rfl) (by kernel_rfl) (fun _ _ _ h => h) (by rfl) ?hyr13_20 (by assumption) ?_
  case hyr13_20 =>
    intro w' hSw
    exact load_run 30 _ rfl _ 0 rfl pb _ (at_mid hSw.2.2.1 0 _ (by simp)) Tryd.underlying30 rfl pb_h.il
  try simp only [Act.put, List.setIfInBounds_toArray, List.set_cons_zero, List.set_cons_succ]
  refine h_take 23 (v := .agg pa.toArray) rfl (by kernel_rfl) (by kernel_rfl) (by kernel_rfl) (fun _ _ _ h => h) (by rfl) ?hyr13_23 (by assumption) ?_
  case hyr13_23 =>
    intro w' hSw
    exact load_run 30 _ rfl _ 0 rfl pa _ (at_mid hSw.2.2.2.1 0 _ (by simp)) Tryd.underlying30 rfl pa_h.il
  try simp only [Act.put, List.setIfInBounds_toArray, List.set_cons_zero, List.set_cons_succ]
  refine h_take 24 (v := .agg pc.toArray) rfl (by kernel_rfl) (by kernel_rfl) (by kernel_rfl) (fun _ _ _ h => h) (by rfl) ?hyr13_24 (by assumption) ?_
  case hyr13_24 =>
    intro w' hSw
    exact load_run 30 _ rfl _ 0 rfl pc _ (at_mid hSw.2.2.2.2.1 0 _ (by simp)) Tryd.underlying30 rfl pc_h.il
  try simp only [Act.put, List.setIfInBounds_toArray, List.set_cons_zero, List.set_cons_succ]
  refine h_call 21 rfl (by kernel_rfl) (by rfl) (fun Kk hK => ?_)
  go_simp
  (refine (Q31.out _ Z_35.out).mono ?_)
  rintro e w36 ⟨rfl, g0⟩
  have g := g0
  clear g0
  have B7_36 := hid (B7_35.out.below g)
  have B9_36 := hid (B9_35.out.below g)
  have B11_36 := hid (B11_35.out.below g)
  have B13_36 := hid (B13_35.out.below g)
  have B14_36 := hid (B14_35.out.below g)
  have B15_36 := hid (B15_35.out.below g)
  have Sd_36 := hid (Sd_35.out.below g)
  have Se_36 := hid (Se_35.out.below g)
  have Sf_36 := hid (Sf_35.out.below g)
  have D_36 := hid (D_35.out.grown g)
  have T_36 := hid (T_35.out.grown g)
  have U_36 := hid (U_35.out.grown g)
  have V_36 := hid (V_35.out.grown g)
  have Z_36 := hid (Z_35.out.grown g)
  have G_36 := hid (G_35.out.trans (g.mono G_35.out.size))
  clear g B7_35 B9_35 B11_35 B13_35 B14_35 B15_35 Sd_35 Se_35 Sf_35 D_35 T_35 U_35 V_35 Z_35 G_35
  have K36 := And.intro B15_36.out (And.intro B14_36.out (And.intro B9_36.out (And.intro B7_36.out (And.intro B11_36.out (B13_36.out)))))
  go_wp2_with fail
  clear hHeld
  refine hK.out _ _ K36 (fun hHeld => ?_)
  clear hK Kk K36
  try simp only [Act.put, List.setIfInBounds_toArray, List.set_cons_zero, List.set_cons_succ]
  refine h_call 22 rfl (by kernel_rfl) (by rfl) (fun Kk hK => ?_)
  go_simp
  (refine (Q32.out _ T_36.out Z_36.out).mono ?_)
  rintro e w37 ⟨rfl, g0⟩
  have g := g0
  clear g0
  have B7_37 := hid (B7_36.out.below g)
  have B9_37 := hid (B9_36.out.below g)
  have B11_37 := hid (B11_36.out.below g)
  have B13_37 := hid (B13_36.out.below g)
  have B14_37 := hid (B14_36.out.below g)
  have B15_37 := hid (B15_36.out.below g)
  have Sd_37 := hid (Sd_36.out.below g)
  have Se_37 := hid (Se_36.out.below g)
  have Sf_37 := hid (Sf_36.out.below g)
  have D_37 := hid (D_36.out.grown g)
  have T_37 := hid (T_36.out.grown g)
  have U_37 := hid (U_36.out.grown g)
  have V_37 := hid (V_36.out.grown g)
  have Z_37 := hid (Z_36.out.grown g)
  have G_37 := hid (G_36.out.trans (g.mono G_36.out.size))
  clear g B7_36 B9_36 B11_36 B13_36 B14_36 B15_36 Sd_36 Se_36 Sf_36 D_36 T_36 U_36 V_36 Z_36 G_36
  have K37 := And.intro B15_37.out (And.intro B14_37.out (And.intro B9_37.out (And.intro B7_37.out (And.intro B11_37.out (B13_37.out)))))
  go_wp2_with fail
  clear hHeld
  refine hK.out _ _ K37 (fun hHeld => ?_)
  clear hK Kk K37
  try simp only [Act.put, List.setIfInBounds_toArray, List.set_cons_zero, List.set_cons_succ]
  refine h_call 25 rfl (by kernel_rfl) (by rfl) (fun Kk hK => ?_)
  go_simp
  (refine (Q33.out _ T_37.out Z_37.out).mono ?_)
  rintro e w38 ⟨rfl, g0⟩
  have g := g0
  clear g0
  have B7_38 := hid (B7_37.out.below g)
  have B9_38 := hid (B9_37.out.below g)
  have B11_38 := hid (B11_37.out.below g)
  have B13_38 := hid (B13_37.out.below g)
  have B14_38 := hid (B14_37.out.below g)
  have B15_38 := hid (B15_37.out.below g)
  have Sd_38 := hid (Sd_37.out.below g)
  have Se_38 := hid (Se_37.out.below g)
  have Sf_38 := hid (Sf_37.out.below g)
  have D_38 := hid (D_37.out.grown g)
  have T_38 := hid (T_37.out.grown g)
  have U_38 := hid (U_37.out.grown g)
  have V_38 := hid (V_37.out.grown g)
  have Z_38 := hid (Z_37.out.grown g)
  have G_38 := hid (G_37.out.trans (g.mono G_37.out.size))
  clear g B7_37 B9_37 B11_37 B13_37 B14_37 B15_37 Sd_37 Se_37 Sf_37 D_37 T_37 U_37 V_37 Z_37 G_37
  have K38 := And.intro B15_38.out (And.intro B14_38.out (And.intro B9_38.out (And.intro B7_38.out (And.intro B11_38.out (B13_38.out)))))
  go_wp2_with fail
  clear hHeld
  refine hK.out _ _ K38 (fun hHeld => ?_)
  clear hK Kk K38
  try simp only [Act.put, List.setIfInBounds_toArray, List.set_cons_zero, List.set_cons_succ]
  refine h_call 26 rfl (by kernel_rfl) (by rfl) (fun Kk hK => ?_)
  go_simp
  (refine (Q34.out _).mono ?_)
  rintro e w39 ⟨rfl, g0⟩
  have g := g0
  clear g0
  have B7_39 := hid (B7_38.out.below g)
  have B9_39 := hid (B9_38.out.below g)
  have B11_39 := hid (B11_38.out.below g)
  have B13_39 := hid (B13_38.out.below g)
  have B14_39 := hid (B14_38.out.below g)
  have B15_39 := hid (B15_38.out.below g)
  have Sd_39 := hid (Sd_38.out.below g)
  have Se_39 := hid (Se_38.out.below g)
  have Sf_39 := hid (Sf_38.out.below g)
  have D_39 := hid (D_38.out.grown g)
  have T_39 := hid (T_38.out.grown g)
  have U_39 := hid (U_38.out.grown g)
  have V_39 := hid (V_38.out.grown g)
  have Z_39 := hid (Z_38.out.grown g)
  have G_39 := hid (G_38.out.trans (g.mono G_38.out.size))
  clear g B7_38 B9_38 B11_38 B13_38 B14_38 B15_38 Sd_38 Se_38 Sf_38 D_38 T_38 U_38 V_38 Z_38 G_38
  have K39 := And.intro B15_39.out (And.intro B14_39.out (And.intro B9_39.out (And.intro B7_39.out (And.intro B11_39.out (B13_39.out)))))
  go_wp2_with fail
  clear hHeld
  refine hK.out _ _ K39 (fun hHeld => ?_)
  clear hK Kk K39
  try simp only [Act.put, List.setIfInBounds_toArray, List.set_cons_zero, List.set_cons_succ]
  refine h_take 27 (v := .bool true) rfl (by kernel_rfl) (by kernel_rfl) (by kernel_rfl) (fun _ _ _ h => h) (by rfl) ?hyr13_27 (by assumption) ?_
  case hyr13_27 =>
    intro w' hSw
    clear hSw
    go_simp
  try simp only [Act.put, List.setIfInBounds_toArray, List.set_cons_zero, List.set_cons_succ]
  refine h_take 28 (v := .bool true) rfl (by kernel_rfl) (by kernel_rfl) (by kernel_rfl) (fun _ _ _ h => h) (by rfl) ?hyr13_28 (by assumption) ?_
  case hyr13_28 =>
    intro w' hSw
    clear hSw
    go_simp
  try simp only [Act.put, List.setIfInBounds_toArray, List.set_cons_zero, List.set_cons_succ]
  refine h_take 29 (v := .agg zz.toArray) rfl (by kernel_rfl) (by kernel_rfl) (by kernel_rfl) (fun _ _ _ h => h) (by rfl) ?hyr13_29 (by assumption) ?_
  case hyr13_29 =>
    intro w' hSw
    exact load_run 30 _ rfl _ 0 rfl zz _ (at_mid hSw.2.2.2.2.2 0 _ (by simp)) Tryd.underlying30 rfl zz_h.il
  try simp only [Act.put, List.setIfInBounds_toArray, List.set_cons_zero, List.set_cons_succ]
  refine h_call 30 rfl (by kernel_rfl) (by rfl) (fun Kk hK => ?_)
  go_simp
  (refine (Q35.out _ Z_39.out).mono ?_)
  rintro e w40 ⟨rfl, g0⟩
  have g := g0
  clear g0
  have B7_40 := hid (B7_39.out.below g)
  have B9_40 := hid (B9_39.out.below g)
  have B11_40 := hid (B11_39.out.below g)
  have B13_40 := hid (B13_39.out.below g)
  have B14_40 := hid (B14_39.out.below g)
  have B15_40 := hid (B15_39.out.below g)
  have Sd_40 := hid (Sd_39.out.below g)
  have Se_40 := hid (Se_39.out.below g)
  have Sf_40 := hid (Sf_39.out.below g)
  have D_40 := hid (D_39.out.grown g)
  have T_40 := hid (T_39.out.grown g)
  have U_40 := hid (U_39.out.grown g)
  have V_40 := hid (V_39.out.grown g)
  have Z_40 := hid (Z_39.out.grown g)
  have G_40 := hid (G_39.out.trans (g.mono G_39.out.size))
  clear g B7_39 B9_39 B11_39 B13_39 B14_39 B15_39 Sd_39 Se_39 Sf_39 D_39 T_39 U_39 V_39 Z_39 G_39
  have K40 := And.intro B15_40.out (And.intro B14_40.out (And.intro B9_40.out (And.intro B7_40.out (And.intro B11_40.out (B13_40.out)))))
  go_wp2_with fail
  clear hHeld
  refine hK.out _ _ K40 (fun hHeld => ?_)
  clear hK Kk K40
  try simp only [Act.put, List.setIfInBounds_toArray, List.set_cons_zero, List.set_cons_succ]
  refine h_take 31 (v := .bool true) rfl (by kernel_rfl) (by kernel_rfl) (by kernel_rfl) (fun _ _ _ h => h) (by rfl) ?hyr13_31 (by assumption) ?_
  case hyr13_31 =>
    intro w' hSw
    clear hSw
    go_simp
  try simp only [Act.put, List.setIfInBounds_toArray, List.set_cons_zero, List.set_cons_succ]
  refine h_take 32 (v := .bool true) rfl (by kernel_rfl) (by kernel_rfl) (by kernel_rfl) (fun _ _ _ h => h) (by rfl) ?hyr13_32 (by assumption) ?_
  case hyr13_32 =>
    intro w' hSw
    clear hSw
    go_simp
  try simp only [Act.put, List.setIfInBounds_toArray, List.set_cons_zero, List.set_cons_succ]
  refine h_take 33 (v := .agg s3.toArray) rfl (by kernel_rfl) (by kernel_rfl) (by kernel_rfl) (fun _ _ _ h => h) (by rfl) ?hyr13_33 (by assumption) ?_
  case hyr13_33 =>
    intro w' hSw
    exact load_run 30 _ rfl _ 0 rfl s3 _ (at_mid hSw.2.1 0 _ (by simp)) Tryd.underlying30 rfl s3_h.il
  try simp only [Act.put, List.setIfInBounds_toArray, List.set_cons_zero, List.set_cons_succ]
  refine h_take 35 (v := .agg s3.toArray) rfl (by kernel_rfl) (by kernel_rfl) (by kernel_rfl) (fun _ _ _ h => h) (by rfl) ?hyr13_35 (by assumption) ?_
  case hyr13_35 =>
    intro w' hSw
    exact load_run 30 _ rfl _ 0 rfl s3 _ (at_mid hSw.2.1 0 _ (by simp)) Tryd.underlying30 rfl s3_h.il
  try simp only [Act.put, List.setIfInBounds_toArray, List.set_cons_zero, List.set_cons_succ]
  refine h_call 34 rfl (by kernel_rfl) (by rfl) (fun Kk hK => ?_)
  go_simp
  (refine (Q36.out _ Z_40.out).mono ?_)
  rintro e w41 ⟨rfl, g0⟩
  have g := g0
  clear g0
  have B7_41 := hid (B7_40.out.below g)
  have B9_41 := hid (B9_40.out.below g)
  have B11_41 := hid (B11_40.out.below g)
  have B13_41 := hid (B13_40.out.below g)
  have B14_41 := hid (B14_40.out.below g)
  have B15_41 := hid (B15_40.out.below g)
  have Sd_41 := hid (Sd_40.out.below g)
  have Se_41 := hid (Se_40.out.below g)
  have Sf_41 := hid (Sf_40.out.below g)
  have D_41 := hid (D_40.out.grown g)
  have T_41 := hid (T_40.out.grown g)
  have U_41 := hid (U_40.out.grown g)
  have V_41 := hid (V_40.out.grown g)
  have Z_41 := hid (Z_40.out.grown g)
  have G_41 := hid (G_40.out.trans (g.mono G_40.out.size))
  clear g B7_40 B9_40 B11_40 B13_40 B14_40 B15_40 Sd_40 Se_40 Sf_40 D_40 T_40 U_40 V_40 Z_40 G_40
  have K41 := And.intro B15_41.out (And.intro B14_41.out (And.intro B9_41.out (And.intro B7_41.out (And.intro B11_41.out (B13_41.out)))))
  go_wp2_with fail
  clear hHeld
  refine hK.out _ _ K41 (fun hHeld => ?_)
  clear hK Kk K41
  try simp only [Act.put, List.setIfInBounds_toArray, List.set_cons_zero, List.set_cons_succ]
  refine h_call 36 rfl (by kernel_rfl) (by rfl) (fun Kk hK => ?_)
  go_simp
  (refine (Q37.out _ Z_41.out).mono ?_)
  rintro e w42 ⟨rfl, g0⟩
  have g := g0
  clear g0
  have B7_42 := hid (B7_41.out.below g)
  have B9_42 := hid (B9_41.out.below g)
  have B11_42 := hid (B11_41.out.below g)
  have B13_42 := hid (B13_41.out.below g)
  have B14_42 := hid (B14_41.out.below g)
  have B15_42 := hid (B15_41.out.below g)
  have Sd_42 := hid (Sd_41.out.below g)
  have Se_42 := hid (Se_41.out.below g)
  have Sf_42 := hid (Sf_41.out.below g)
  have D_42 := hid (D_41.out.grown g)
  have T_42 := hid (T_41.out.grown g)
  have U_42 := hid (U_41.out.grown g)
  have V_42 := hid (V_41.out.grown g)
  have Z_42 := hid (Z_41.out.grown g)
  have G_42 := hid (G_41.out.trans (g.mono G_41.out.size))
  clear g B7_41 B9_41 B11_41 B13_41 B14_41 B15_41 Sd_41 Se_41 Sf_41 D_41 T_41 U_41 V_41 Z_41 G_41
  have K42 := And.intro B15_42.out (And.intro B14_42.out (And.intro B9_42.out (And.intro B7_42.out (And.intro B11_42.out (B13_42.out)))))
  go_wp2_with fail
  clear hHeld
  refine hK.out _ _ K42 (fun hHeld => ?_)
  clear hK Kk K42
  try simp only [Act.put, List.setIfInBounds_toArray, List.set_cons_zero, List.set_cons_succ]
  refine h_call 37 rfl (by kernel_rfl) (by rfl) (fun Kk hK => ?_)
  go_simp
  (refine (Q38.out _ Z_42.out).mono ?_)
  rintro e w43 ⟨rfl, g0⟩
  have g := g0
  clear g0
  have B7_43 := hid (B7_42.out.below g)
  have B9_43 := hid (B9_42.out.below g)
  have B11_43 := hid (B11_42.out.below g)
  have B13_43 := hid (B13_42.out.below g)
  have B14_43 := hid (B14_42.out.below g)
  have B15_43 := hid (B15_42.out.below g)
  have Sd_43 := hid (Sd_42.out.below g)
  have Se_43 := hid (Se_42.out.below g)
  have Sf_43 := hid (Sf_42.out.below g)
  have D_43 := hid (D_42.out.grown g)
  have T_43 := hid (T_42.out.grown g)
  have U_43 := hid (U_42.out.grown g)
  have V_43 := hid (V_42.out.grown g)
  have Z_43 := hid (Z_42.out.grown g)
  have G_43 := hid (G_42.out.trans (g.mono G_42.out.size))
  clear g B7_42 B9_42 B11_42 B13_42 B14_42 B15_42 Sd_42 Se_42 Sf_42 D_42 T_42 U_42 V_42 Z_42 G_42
  have K43 := And.intro B15_43.out (And.intro B14_43.out (And.intro B9_43.out (And.intro B7_43.out (And.intro B11_43.out (B13_43.out)))))
  go_wp2_with fail
  clear hHeld
  refine hK.out _ _ K43 (fun hHeld => ?_)
  clear hK Kk K43
  try simp only [Act.put, List.setIfInBounds_toArray, List.set_cons_zero, List.set_cons_succ]
  refine h_call 38 rfl (by kernel_rfl) (by rfl) (fun Kk hK => ?_)
  go_simp
  (refine (Q39.out _ Z_43.out).mono ?_)
  rintro e w44 ⟨rfl, g0⟩
  have g := g0
  clear g0
  have B7_44 := hid (B7_43.out.below g)
  have B9_44 := hid (B9_43.out.below g)
  have B11_44 := hid (B11_43.out.below g)
  have B13_44 := hid (B13_43.out.below g)
  have B14_44 := hid (B14_43.out.below g)
  have B15_44 := hid (B15_43.out.below g)
  have Sd_44 := hid (Sd_43.out.below g)
  have Se_44 := hid (Se_43.out.below g)
  have Sf_44 := hid (Sf_43.out.below g)
  have D_44 := hid (D_43.out.grown g)
  have T_44 := hid (T_43.out.grown g)
  have U_44 := hid (U_43.out.grown g)
  have V_44 := hid (V_43.out.grown g)
  have Z_44 := hid (Z_43.out.grown g)
  have G_44 := hid (G_43.out.trans (g.mono G_43.out.size))
  clear g B7_43 B9_43 B11_43 B13_43 B14_43 B15_43 Sd_43 Se_43 Sf_43 D_43 T_43 U_43 V_43 Z_43 G_43
  have K44 := And.intro B15_44.out (And.intro B14_44.out (And.intro B9_44.out (And.intro B7_44.out (And.intro B11_44.out (B13_44.out)))))
  go_wp2_with fail
  clear hHeld
  refine hK.out _ _ K44 (fun hHeld => ?_)
  clear hK Kk K44
  try simp only [Act.put, List.setIfInBounds_toArray, List.set_cons_zero, List.set_cons_succ]
  refine h_call 39 rfl (by kernel_rfl) (by rfl) (fun Kk hK => ?_)
  go_simp
  (refine (Q40.out _).mono ?_)
  rintro e w45 ⟨rfl, g0⟩
  have g := g0
  clear g0
  have B7_45 := hid (B7_44.out.below g)
  have B9_45 := hid (B9_44.out.below g)
  have B11_45 := hid (B11_44.out.below g)
  have B13_45 := hid (B13_44.out.below g)
  have B14_45 := hid (B14_44.out.below g)
  have B15_45 := hid (B15_44.out.below g)
  have Sd_45 := hid (Sd_44.out.below g)
  have Se_45 := hid (Se_44.out.below g)
  have Sf_45 := hid (Sf_44.out.below g)
  have D_45 := hid (D_44.out.grown g)
  have T_45 := hid (T_44.out.grown g)
  have U_45 := hid (U_44.out.grown g)
  have V_45 := hid (V_44.out.grown g)
  have Z_45 := hid (Z_44.out.grown g)
  have G_45 := hid (G_44.out.trans (g.mono G_44.out.size))
  clear g B7_44 B9_44 B11_44 B13_44 B14_44 B15_44 Sd_44 Se_44 Sf_44 D_44 T_44 U_44 V_44 Z_44 G_44
  have K45 := And.intro B15_45.out (And.intro B14_45.out (And.intro B9_45.out (And.intro B7_45.out (And.intro B11_45.out (B13_45.out)))))
  go_wp2_with fail
  clear hHeld
  refine hK.out _ _ K45 (fun hHeld => ?_)
  clear hK Kk K45
  try simp only [Act.put, List.setIfInBounds_toArray, List.set_cons_zero, List.set_cons_succ]
  refine h_take 40 (v := .bool true) rfl (by kernel_rfl) (by kernel_rfl) (by kernel_rfl) (fun _ _ _ h => h) (by rfl) ?hyr13_40 (by assumption) ?_
  case hyr13_40 =>
    intro w' hSw
    clear hSw
    go_simp
  try simp only [Act.put, List.setIfInBounds_toArray, List.set_cons_zero, List.set_cons_succ]
  refine h_take 41 (v := .bool true) rfl (by kernel_rfl) (by kernel_rfl) (by kernel_rfl) (fun _ _ _ h => h) (by rfl) ?hyr13_41 (by assumption) ?_
  case hyr13_41 =>
    intro w' hSw
    clear hSw
    go_simp
  try simp only [Act.put, List.setIfInBounds_toArray, List.set_cons_zero, List.set_cons_succ]
  refine wpAnyH_done (by kernel_rfl) ?_ _
  clear hHeld
  go_wp2_with fail
  go_ret
  exact ⟨rfl, G_45.out⟩
end Go.Proofs.YtkbiiolkekpkiaaDoor.Ed

/-
  The law EdwardsGroup of layer 10 is true of any bytes. Conditions: the package's variables are as the program lays them.
-/
namespace Go.Proofs.YtkbiiolkekpkiaaDoor.Ed
open Go.RowKit
set_option linter.unusedVariables false
set_option linter.unusedSimpArgs false

/-- What the program's Of makes of any bytes. -/
theorem of_any_p (l : List Nat) (hb : Bb l) : (∃ P, bytesOf P = l) ∨ ∃ c : P4, ∀ (v : Value) (w : World), SK .u8 w v l → Gd w → Gl w → Calls Tryd.prog 8 #[v] w fun e w' => e = .returned (.tuple #[.agg #[.int .u64 c.x.l0, .int .u64 c.x.l1, .int .u64 c.x.l2, .int .u64 c.x.l3, .int .u64 c.x.l4, .int .u64 c.y.l0, .int .u64 c.y.l1, .int .u64 c.y.l2, .int .u64 c.y.l3, .int .u64 c.y.l4, .int .u64 c.z.l0, .int .u64 c.z.l1, .int .u64 c.z.l2, .int .u64 c.z.l3, .int .u64 c.z.l4, .int .u64 c.t.l0, .int .u64 c.t.l1, .int .u64 c.t.l2, .int .u64 c.t.l3, .int .u64 c.t.l4], .bool false]) ∧ Below w.heap.size w w' := by
  by_cases h : ∃ P, bytesOf P = l
  · exact Or.inl h
  · exact Or.inr ⟨⟨⟨0, 0, 0, 0, 0⟩, ⟨0, 0, 0, 0, 0⟩, ⟨0, 0, 0, 0, 0⟩, ⟨0, 0, 0, 0, 0⟩⟩, fun v w hs hD hZ => of_no_p l hb (fun P hP => h ⟨P, hP⟩) v w hs hD hZ⟩
theorem of_some_p (l : List Nat) (hb : Bb l) : ∃ (c : P4) (t : Bool), ∀ (v : Value) (w : World), SK .u8 w v l → Gd w → Gl w → Calls Tryd.prog 8 #[v] w fun e w' => e = .returned (.tuple #[.agg #[.int .u64 c.x.l0, .int .u64 c.x.l1, .int .u64 c.x.l2, .int .u64 c.x.l3, .int .u64 c.x.l4, .int .u64 c.y.l0, .int .u64 c.y.l1, .int .u64 c.y.l2, .int .u64 c.y.l3, .int .u64 c.y.l4, .int .u64 c.z.l0, .int .u64 c.z.l1, .int .u64 c.z.l2, .int .u64 c.z.l3, .int .u64 c.z.l4, .int .u64 c.t.l0, .int .u64 c.t.l1, .int .u64 c.t.l2, .int .u64 c.t.l3, .int .u64 c.t.l4], .bool t]) ∧ Below w.heap.size w w' := by
  rcases of_any_p l hb with ⟨P, rfl⟩ | ⟨c, hc⟩
  · obtain ⟨c, -, hc⟩ := of_yes_p P
    exact ⟨c, true, hc⟩
  · exact ⟨c, false, hc⟩
theorem same_true (p q : P4) (P Q : Pt) (hp : p.Is P) (hq : q.Is Q) (h : P = Q) : ∀ w : World, Calls Tryd.prog 17 #[.agg #[.int .u64 p.x.l0, .int .u64 p.x.l1, .int .u64 p.x.l2, .int .u64 p.x.l3, .int .u64 p.x.l4, .int .u64 p.y.l0, .int .u64 p.y.l1, .int .u64 p.y.l2, .int .u64 p.y.l3, .int .u64 p.y.l4, .int .u64 p.z.l0, .int .u64 p.z.l1, .int .u64 p.z.l2, .int .u64 p.z.l3, .int .u64 p.z.l4, .int .u64 p.t.l0, .int .u64 p.t.l1, .int .u64 p.t.l2, .int .u64 p.t.l3, .int .u64 p.t.l4], .agg #[.int .u64 q.x.l0, .int .u64 q.x.l1, .int .u64 q.x.l2, .int .u64 q.x.l3, .int .u64 q.x.l4, .int .u64 q.y.l0, .int .u64 q.y.l1, .int .u64 q.y.l2, .int .u64 q.y.l3, .int .u64 q.y.l4, .int .u64 q.z.l0, .int .u64 q.z.l1, .int .u64 q.z.l2, .int .u64 q.z.l3, .int .u64 q.z.l4, .int .u64 q.t.l0, .int .u64 q.t.l1, .int .u64 q.t.l2, .int .u64 q.t.l3, .int .u64 q.t.l4]] w fun e w' => e = .returned (.bool true) ∧ Below w.heap.size w w' := by
  obtain ⟨b, hb, qb⟩ := same_p p q P Q hp hq
  rw [hb.2 h] at qb
  exact qb
theorem small_zero (z : P4) (hz : z.Is Pt.zero) : ∀ w : World, Gf w → Calls Tryd.prog 27 #[.agg #[.int .u64 z.x.l0, .int .u64 z.x.l1, .int .u64 z.x.l2, .int .u64 z.x.l3, .int .u64 z.x.l4, .int .u64 z.y.l0, .int .u64 z.y.l1, .int .u64 z.y.l2, .int .u64 z.y.l3, .int .u64 z.y.l4, .int .u64 z.z.l0, .int .u64 z.z.l1, .int .u64 z.z.l2, .int .u64 z.z.l3, .int .u64 z.z.l4, .int .u64 z.t.l0, .int .u64 z.t.l1, .int .u64 z.t.l2, .int .u64 z.t.l3, .int .u64 z.t.l4]] w fun e w' => e = .returned (.bool true) ∧ Below w.heap.size w w' := by
  obtain ⟨b, hb, qb⟩ := small_p z _ hz
  rw [hb.2 (by rw [Pt.add_zero, Pt.add_zero, Pt.add_zero])] at qb
  exact qb
theorem bytes_le (P : Pt) : (bytesOf P).length ≤ 1000000000 := by rw [bytes_length]; omega
theorem group_any (a0 a1 a2 : Option Addr) (n0 n1 n2 c0 c1 c2 : Nat) (la lb lc : List Nat) (ba : Bb la) (bb : Bb lb) (bc : Bb lc) (w : World)
    (ha : SK .u8 w (.slice a0 n0 c0) la) (hb : SK .u8 w (.slice a1 n1 c1) lb) (hc : SK .u8 w (.slice a2 n2 c2) lc) (hD : Gd w) (hT : GtwiceD w) (hU : GbaseX w) (hV : GbaseY w) (hZ : Gl w) :
    Calls Tryd.prog 6 #[.slice a0 n0 c0, .slice a1 n1 c1, .slice a2 n2 c2] w fun e w' => e = .returned (.bool true) ∧ Below w.heap.size w w' := by
  obtain ⟨oa, ta, qa⟩ := of_some_p la ba
  obtain ⟨ob, tb, qb⟩ := of_some_p lb bb
  obtain ⟨oc, tc, qc⟩ := of_some_p lc bc
  rcases of_any_p la ba with ⟨A, rfl⟩ | ⟨na, fa⟩
  case inr => exact group_no1_w na.l ob.l oc.l na.pl ob.pl oc.pl a0 a1 a2 n0 n1 n2 c0 c1 c2 la lb lc tb tc awake10_any fa qb qc w ha hb hc hD hT hU hV hZ
  obtain ⟨p, hp, fa⟩ := of_yes_p A
  rcases of_any_p lb bb with ⟨B, rfl⟩ | ⟨nb, fb⟩
  case inr => exact group_no2_w p.l nb.l oc.l p.pl nb.pl oc.pl a0 a1 a2 n0 n1 n2 c0 c1 c2 _ lb lc tc awake10_any fa fb qc w ha hb hc hD hT hU hV hZ
  obtain ⟨q, hq, fb⟩ := of_yes_p B
  rcases of_any_p lc bc with ⟨C, rfl⟩ | ⟨nc, fc⟩
  case inr => exact group_no3_w p.l q.l nc.l p.pl q.pl nc.pl a0 a1 a2 n0 n1 n2 c0 c1 c2 _ _ lc awake10_any fa fb fc w ha hb hc hD hT hU hV hZ
  obtain ⟨r, hr, fc⟩ := of_yes_p C
  clear qa qb qc
  obtain ⟨z, hz, qz⟩ := zero_p
  obtain ⟨s1, h1, q1⟩ := add_p p q _ _ hp hq
  obtain ⟨s2, h2, q2⟩ := add_p q p _ _ hq hp
  obtain ⟨s3, h3, q3⟩ := add_p s1 r _ _ h1 hr
  obtain ⟨s4, h4, q4⟩ := add_p q r _ _ hq hr
  obtain ⟨s5, h5, q5⟩ := add_p p s4 _ _ hp h4
  obtain ⟨s6, h6, q6⟩ := add_p p z _ _ hp hz
  obtain ⟨g1, k1, m1⟩ := negP_p p _ hp
  obtain ⟨s7, h7, q7⟩ := add_p p g1 _ _ hp k1
  obtain ⟨d1, kd, md⟩ := double_p p _ hp
  obtain ⟨s8, h8, q8⟩ := add_p p p _ _ hp hp
  obtain ⟨t, ht, ft⟩ := of_yes_p ((A.add B).add C)
  obtain ⟨g2, k2, m2⟩ := negP_p q _ hq
  obtain ⟨s9, h9, q9⟩ := add_p s3 g2 _ _ h3 k2
  obtain ⟨s10, h10, q10⟩ := add_p p r _ _ hp hr
  obtain ⟨e8, ke, me⟩ := eight_p s3 _ h3
  obtain ⟨x1, kx1, mx1⟩ := double_p s3 _ h3
  obtain ⟨x2, kx2, mx2⟩ := double_p x1 _ kx1
  obtain ⟨x3, kx3, mx3⟩ := double_p x2 _ kx2
  exact group_yes_w p.l q.l r.l z.l s1.l s2.l s3.l s4.l s5.l s6.l g1.l s7.l d1.l s8.l t.l g2.l s9.l s10.l e8.l x1.l x2.l x3.l
    p.pl q.pl r.pl z.pl s1.pl s2.pl s3.pl s4.pl s5.pl s6.pl g1.pl s7.pl d1.pl s8.pl t.pl g2.pl s9.pl s10.pl e8.pl x1.pl x2.pl x3.pl
    a0 a1 a2 n0 n1 n2 c0 c1 c2 _ _ _ (bytesOf ((A.add B).add C)) awake10_any fa fb fc qz
    (fun w a b => q1 w a b.f) (fun w a b => q2 w a b.f) (same_true s1 s2 _ _ h1 h2 (Pt.add_comm _ _))
    (fun w a b => q1 w a b.f) (fun w a b => q3 w a b.f) (fun w a b => q4 w a b.f) (fun w a b => q5 w a b.f) (same_true s3 s5 _ _ h3 h5 (Pt.add_assoc _ _ _))
    (fun w a b => q6 w a b.f) (same_true s6 p _ _ h6 hp (Pt.add_zero _))
    (fun w b => m1 w b.f) (fun w a b => q7 w a b.f) (same_true s7 z _ _ h7 hz (Pt.add_neg _))
    (fun w b => md w b.f) (fun w a b => q8 w a b.f) (same_true d1 s8 _ _ kd h8 rfl)
    (fun w a b => q1 w a b.f) (fun w a b => q3 w a b.f) (bytes_p s3 _ h3) ft
    (same_true t s3 _ _ ht h3 rfl) (same_true s3 s3 _ _ h3 h3 rfl) (bytes_p t _ ht) (bytes_p s3 _ h3) (fun v v' w h h' => same_sk _ (bytes_le _) v v' w h h')
    (fun w b => m2 w b.f) (fun w a b => q9 w a b.f) (fun w a b => q10 w a b.f) (same_true s9 s10 _ _ h9 h10 (Pt.take_mid _ _ _))
    (fun w b => small_zero z hz w b.f) (fun w b => me w b.f) (fun w b => mx1 w b.f) (fun w b => mx2 w b.f) (fun w b => mx3 w b.f) (same_true e8 x3 _ _ ke kx3 rfl)
    w ha hb hc hD hT hU hV hZ
theorem group_all (v0 v1 v2 : Value) (l0 l1 l2 : List Nat) (W : World) (h : Gl W ∧ Gd W ∧ GtwiceD W ∧ GbaseX W ∧ GbaseY W) (h0 : SK .u8 W v0 l0) (h1 : SK .u8 W v1 l1) (h2 : SK .u8 W v2 l2) (b0 : Bb l0) (b1 : Bb l1) (b2 : Bb l2) :
    Calls Tryd.prog 6 #[v0, v1, v2] W fun e w' => e = .returned (.bool true) ∧ Below W.heap.size W w' := by
  obtain ⟨a0, c0, rfl⟩ := h0.shape
  obtain ⟨a1, c1, rfl⟩ := h1.shape
  obtain ⟨a2, c2, rfl⟩ := h2.shape
  obtain ⟨hZ, hD, hT, hU, hV⟩ := h
  exact group_any a0 a1 a2 _ _ _ c0 c1 c2 l0 l1 l2 b0 b1 b2 W h0 h1 h2 hD hT hU hV hZ
end Go.Proofs.YtkbiiolkekpkiaaDoor.Ed
