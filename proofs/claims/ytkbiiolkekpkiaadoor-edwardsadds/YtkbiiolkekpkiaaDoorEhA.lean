/-
  The law EdwardsAdds of layer 10: the walk, given what each call answers. Conditions: as each theorem says.
-/
import Derived.Test.YtkbiiolkekpkiaaDoorEgK
import Derived.Test.YtkbiiolkekpkiaaDoorEgX
import Derived.Test.YtkbiiolkekpkiaaDoorEhS
namespace Go.Proofs.YtkbiiolkekpkiaaDoor.Ed
open Go.RowKit
set_option linter.unusedVariables false
set_option linter.unusedSimpArgs false

set_option maxRecDepth 100000 in
set_option maxHeartbeats 16000000 in
theorem adds_no1_w (pa pb : List Value) (pa_h : Pl pa) (pb_h : Pl pb) (a0 a1 : Option Addr) (n0 n1 c0 c1 : Nat) (la lb : List Nat) (eb : Bool)
    (Q1 : Hid (∀ w : World, Env w → Calls Tryd.prog 7 #[] w fun e w' => e = .returned (.bool true) ∧ Below w.heap.size w w'))
    (Q2 : Hid (∀ (v : Value) (w : World), SK .u8 w v la → Env w → Calls Tryd.prog 8 #[v] w fun e w' => e = .returned (.tuple #[.agg pa.toArray, .bool false]) ∧ Below w.heap.size w w'))
    (Q3 : Hid (∀ (v : Value) (w : World), SK .u8 w v lb → Env w → Calls Tryd.prog 8 #[v] w fun e w' => e = .returned (.tuple #[.agg pb.toArray, .bool eb]) ∧ Below w.heap.size w w'))
    (w : World) (Sa_0 : Hid (SK .u8 w (.slice a0 n0 c0) la)) (Sb_0 : Hid (SK .u8 w (.slice a1 n1 c1) lb)) (E_0 : Hid (Env w)) :
    Calls Tryd.prog 5 #[.slice a0 n0 c0, .slice a1 n1 c1] w fun e w' => e = .returned (.bool true) ∧ Below w.heap.size w w' := by
  go_enter Tryd.func5, Tryd.ntmps5
  go_upto_region 1 with fail
  have HE := E_0.out.lt
  refine wp_cut (fun V => SK .u8 V (.slice a0 n0 c0) la ∧ SK .u8 V (.slice a1 n1 c1) lb ∧ Env V ∧ Below w.heap.size w V) ⟨?_, ?_, ?_, ?_⟩ ?_
  · refine Sa_0.out.below ?_
    (repeat (first | exact Below.refl _ _ | refine Below.drew ?_ | refine below_drewN ?_ _ | refine Below.alloc ?_ (by simp <;> omega) _))
  · refine Sb_0.out.below ?_
    (repeat (first | exact Below.refl _ _ | refine Below.drew ?_ | refine below_drewN ?_ _ | refine Below.alloc ?_ (by simp <;> omega) _))
  · refine E_0.out.grown ?_
    (repeat (first | exact Below.refl _ _ | refine Below.drew ?_ | refine below_drewN ?_ _ | refine Below.alloc ?_ (by simp <;> omega) _))
  · (repeat (first | exact Below.refl _ _ | refine Below.drew ?_ | refine below_drewN ?_ _ | refine Below.alloc ?_ (by simp <;> omega) _))
  rintro w1 ⟨k0, k1, k2, k3⟩
  have Sa_1 := hid k0
  have Sb_1 := hid k1
  have E_1 := hid k2
  have G_1 := hid k3
  clear k0 k1 k2 k3 Sa_0 Sb_0 E_0
  go_wp2_with (fail)
  refine (Q1.out _ E_1.out).mono ?_
  rintro e w2 ⟨rfl, g0⟩
  have g := g0
  clear g0
  have Sa_2 := hid (Sa_1.out.below g)
  have Sb_2 := hid (Sb_1.out.below g)
  have E_2 := hid (E_1.out.grown g)
  have G_2 := hid (G_1.out.trans (g.mono G_1.out.size))
  clear g Sa_1 Sb_1 E_1 G_1
  go_wp2_with (fail)
  refine (Q2.out _ _ Sa_2.out E_2.out).mono ?_
  rintro e w3 ⟨rfl, g0⟩
  have g := g0
  clear g0
  have Sa_3 := hid (Sa_2.out.below g)
  have Sb_3 := hid (Sb_2.out.below g)
  have E_3 := hid (E_2.out.grown g)
  have G_3 := hid (G_2.out.trans (g.mono G_2.out.size))
  clear g Sa_2 Sb_2 E_2 G_2
  have szB5 : w.heap.size ≤ w3.heap.size := G_3.out.size
  go_wp2_with (first | (refine list_store_new rfl 30 _ _ rfl w3 pa [.int .u64 0, .int .u64 0, .int .u64 0, .int .u64 0, .int .u64 0, .int .u64 0, .int .u64 0, .int .u64 0, .int .u64 0, .int .u64 0, .int .u64 0, .int .u64 0, .int .u64 0, .int .u64 0, .int .u64 0, .int .u64 0, .int .u64 0, .int .u64 0, .int .u64 0, .int .u64 0] rfl rfl pa_h.len pa_h.is pa_h.one (fun w4 hC g => ?_)) | fail)
  have B5_4 := hid hC
  have Sa_4 := hid (Sa_3.out.below g)
  have Sb_4 := hid (Sb_3.out.below g)
  have E_4 := hid (E_3.out.grown g)
  have G_4 := hid (G_3.out.trans (g.mono G_3.out.size))
  clear hC g Sa_3 Sb_3 E_3 G_3
  go_wp2_with (fail)
  refine (Q3.out _ _ Sb_4.out E_4.out).mono ?_
  rintro e w5 ⟨rfl, g0⟩
  have g := g0
  clear g0
  have B5_5 := hid (B5_4.out.below g)
  have Sa_5 := hid (Sa_4.out.below g)
  have Sb_5 := hid (Sb_4.out.below g)
  have E_5 := hid (E_4.out.grown g)
  have G_5 := hid (G_4.out.trans (g.mono G_4.out.size))
  clear g B5_4 Sa_4 Sb_4 E_4 G_4
  have szB7 : w.heap.size ≤ w5.heap.size := G_5.out.size
  have nlB5B7 : w3.heap.size < w5.heap.size := B5_5.out.lt
  go_wp2_with (first | (refine list_store_new rfl 30 _ _ rfl w5 pb [.int .u64 0, .int .u64 0, .int .u64 0, .int .u64 0, .int .u64 0, .int .u64 0, .int .u64 0, .int .u64 0, .int .u64 0, .int .u64 0, .int .u64 0, .int .u64 0, .int .u64 0, .int .u64 0, .int .u64 0, .int .u64 0, .int .u64 0, .int .u64 0, .int .u64 0, .int .u64 0] rfl rfl pb_h.len pb_h.is pb_h.one (fun w6 hC g => ?_)) | fail)
  have B7_6 := hid hC
  have B5_6 := hid (B5_5.out.below g)
  have Sa_6 := hid (Sa_5.out.below g)
  have Sb_6 := hid (Sb_5.out.below g)
  have E_6 := hid (E_5.out.grown g)
  have G_6 := hid (G_5.out.trans (g.mono G_5.out.size))
  clear hC g B5_5 Sa_5 Sb_5 E_5 G_5
  go_wp2_with fail
  go_ret
  exact ⟨rfl, G_6.out⟩
set_option maxRecDepth 100000 in
set_option maxHeartbeats 16000000 in
theorem adds_no2_w (pa pb : List Value) (pa_h : Pl pa) (pb_h : Pl pb) (a0 a1 : Option Addr) (n0 n1 c0 c1 : Nat) (la lb : List Nat)
    (Q1 : Hid (∀ w : World, Env w → Calls Tryd.prog 7 #[] w fun e w' => e = .returned (.bool true) ∧ Below w.heap.size w w'))
    (Q2 : Hid (∀ (v : Value) (w : World), SK .u8 w v la → Env w → Calls Tryd.prog 8 #[v] w fun e w' => e = .returned (.tuple #[.agg pa.toArray, .bool true]) ∧ Below w.heap.size w w'))
    (Q3 : Hid (∀ (v : Value) (w : World), SK .u8 w v lb → Env w → Calls Tryd.prog 8 #[v] w fun e w' => e = .returned (.tuple #[.agg pb.toArray, .bool false]) ∧ Below w.heap.size w w'))
    (w : World) (Sa_0 : Hid (SK .u8 w (.slice a0 n0 c0) la)) (Sb_0 : Hid (SK .u8 w (.slice a1 n1 c1) lb)) (E_0 : Hid (Env w)) :
    Calls Tryd.prog 5 #[.slice a0 n0 c0, .slice a1 n1 c1] w fun e w' => e = .returned (.bool true) ∧ Below w.heap.size w w' := by
  go_enter Tryd.func5, Tryd.ntmps5
  go_upto_region 1 with fail
  have HE := E_0.out.lt
  refine wp_cut (fun V => SK .u8 V (.slice a0 n0 c0) la ∧ SK .u8 V (.slice a1 n1 c1) lb ∧ Env V ∧ Below w.heap.size w V) ⟨?_, ?_, ?_, ?_⟩ ?_
  · refine Sa_0.out.below ?_
    (repeat (first | exact Below.refl _ _ | refine Below.drew ?_ | refine below_drewN ?_ _ | refine Below.alloc ?_ (by simp <;> omega) _))
  · refine Sb_0.out.below ?_
    (repeat (first | exact Below.refl _ _ | refine Below.drew ?_ | refine below_drewN ?_ _ | refine Below.alloc ?_ (by simp <;> omega) _))
  · refine E_0.out.grown ?_
    (repeat (first | exact Below.refl _ _ | refine Below.drew ?_ | refine below_drewN ?_ _ | refine Below.alloc ?_ (by simp <;> omega) _))
  · (repeat (first | exact Below.refl _ _ | refine Below.drew ?_ | refine below_drewN ?_ _ | refine Below.alloc ?_ (by simp <;> omega) _))
  rintro w1 ⟨k0, k1, k2, k3⟩
  have Sa_1 := hid k0
  have Sb_1 := hid k1
  have E_1 := hid k2
  have G_1 := hid k3
  clear k0 k1 k2 k3 Sa_0 Sb_0 E_0
  go_wp2_with (fail)
  refine (Q1.out _ E_1.out).mono ?_
  rintro e w2 ⟨rfl, g0⟩
  have g := g0
  clear g0
  have Sa_2 := hid (Sa_1.out.below g)
  have Sb_2 := hid (Sb_1.out.below g)
  have E_2 := hid (E_1.out.grown g)
  have G_2 := hid (G_1.out.trans (g.mono G_1.out.size))
  clear g Sa_1 Sb_1 E_1 G_1
  go_wp2_with (fail)
  refine (Q2.out _ _ Sa_2.out E_2.out).mono ?_
  rintro e w3 ⟨rfl, g0⟩
  have g := g0
  clear g0
  have Sa_3 := hid (Sa_2.out.below g)
  have Sb_3 := hid (Sb_2.out.below g)
  have E_3 := hid (E_2.out.grown g)
  have G_3 := hid (G_2.out.trans (g.mono G_2.out.size))
  clear g Sa_2 Sb_2 E_2 G_2
  have szB5 : w.heap.size ≤ w3.heap.size := G_3.out.size
  go_wp2_with (first | (refine list_store_new rfl 30 _ _ rfl w3 pa [.int .u64 0, .int .u64 0, .int .u64 0, .int .u64 0, .int .u64 0, .int .u64 0, .int .u64 0, .int .u64 0, .int .u64 0, .int .u64 0, .int .u64 0, .int .u64 0, .int .u64 0, .int .u64 0, .int .u64 0, .int .u64 0, .int .u64 0, .int .u64 0, .int .u64 0, .int .u64 0] rfl rfl pa_h.len pa_h.is pa_h.one (fun w4 hC g => ?_)) | fail)
  have B5_4 := hid hC
  have Sa_4 := hid (Sa_3.out.below g)
  have Sb_4 := hid (Sb_3.out.below g)
  have E_4 := hid (E_3.out.grown g)
  have G_4 := hid (G_3.out.trans (g.mono G_3.out.size))
  clear hC g Sa_3 Sb_3 E_3 G_3
  go_wp2_with (fail)
  refine (Q3.out _ _ Sb_4.out E_4.out).mono ?_
  rintro e w5 ⟨rfl, g0⟩
  have g := g0
  clear g0
  have B5_5 := hid (B5_4.out.below g)
  have Sa_5 := hid (Sa_4.out.below g)
  have Sb_5 := hid (Sb_4.out.below g)
  have E_5 := hid (E_4.out.grown g)
  have G_5 := hid (G_4.out.trans (g.mono G_4.out.size))
  clear g B5_4 Sa_4 Sb_4 E_4 G_4
  have szB7 : w.heap.size ≤ w5.heap.size := G_5.out.size
  have nlB5B7 : w3.heap.size < w5.heap.size := B5_5.out.lt
  go_wp2_with (first | (refine list_store_new rfl 30 _ _ rfl w5 pb [.int .u64 0, .int .u64 0, .int .u64 0, .int .u64 0, .int .u64 0, .int .u64 0, .int .u64 0, .int .u64 0, .int .u64 0, .int .u64 0, .int .u64 0, .int .u64 0, .int .u64 0, .int .u64 0, .int .u64 0, .int .u64 0, .int .u64 0, .int .u64 0, .int .u64 0, .int .u64 0] rfl rfl pb_h.len pb_h.is pb_h.one (fun w6 hC g => ?_)) | fail)
  have B7_6 := hid hC
  have B5_6 := hid (B5_5.out.below g)
  have Sa_6 := hid (Sa_5.out.below g)
  have Sb_6 := hid (Sb_5.out.below g)
  have E_6 := hid (E_5.out.grown g)
  have G_6 := hid (G_5.out.trans (g.mono G_5.out.size))
  clear hC g B5_5 Sa_5 Sb_5 E_5 G_5
  go_wp2_with fail
  go_ret
  exact ⟨rfl, G_6.out⟩
set_option maxRecDepth 100000 in
set_option maxHeartbeats 16000000 in
theorem adds_yes_w (pa pb s1 d1 ng e8 s2 ds zz bb : List Value) (pa_h : Pl pa) (pb_h : Pl pb) (s1_h : Pl s1) (d1_h : Pl d1) (ng_h : Pl ng) (e8_h : Pl e8) (s2_h : Pl s2) (ds_h : Pl ds) (zz_h : Pl zz) (bb_h : Pl bb) (s2_n : Nl s2) (a0 a1 : Option Addr) (n0 n1 c0 c1 : Nat) (la lb : List Nat) (A B : Pt) (tb tc : Bool)
    (Q1 : Hid (∀ w : World, Env w → Calls Tryd.prog 7 #[] w fun e w' => e = .returned (.bool true) ∧ Below w.heap.size w w'))
    (Q2 : Hid (∀ (v : Value) (w : World), SK .u8 w v la → Env w → Calls Tryd.prog 8 #[v] w fun e w' => e = .returned (.tuple #[.agg pa.toArray, .bool true]) ∧ Below w.heap.size w w'))
    (Q3 : Hid (∀ (v : Value) (w : World), SK .u8 w v lb → Env w → Calls Tryd.prog 8 #[v] w fun e w' => e = .returned (.tuple #[.agg pb.toArray, .bool true]) ∧ Below w.heap.size w w'))
    (Q4 : Hid (∀ w : World, Calls Tryd.prog 20 #[] w fun e w' => ∃ v, e = .returned v ∧ Num w' v D25 ∧ Below w.heap.size w w'))
    (Q5 : Hid (∀ (v : Value) (w : World), SK .u8 w v la → Calls Tryd.prog 9 #[v] w fun e w' => ∃ u, e = .returned u ∧ Pm w' u A ∧ Below w.heap.size w w'))
    (Q6 : Hid (∀ (v : Value) (w : World), SK .u8 w v lb → Calls Tryd.prog 9 #[v] w fun e w' => ∃ u, e = .returned u ∧ Pm w' u B ∧ Below w.heap.size w w'))
    (Q7 : Hid (∀ (v v' d : Value) (w : World), Pm w v A → Pm w v' A → Num w d D25 → Calls Tryd.prog 21 #[v, v', d] w fun e w' => ∃ u, e = .returned u ∧ Pm w' u (A.add A) ∧ Below w.heap.size w w'))
    (Q8 : Hid (∀ (v v' d : Value) (w : World), Pm w v (A.add A) → Pm w v' (A.add A) → Num w d D25 → Calls Tryd.prog 21 #[v, v', d] w fun e w' => ∃ u, e = .returned u ∧ Pm w' u ((A.add A).add (A.add A)) ∧ Below w.heap.size w w'))
    (Q9 : Hid (∀ (v v' d : Value) (w : World), Pm w v ((A.add A).add (A.add A)) → Pm w v' ((A.add A).add (A.add A)) → Num w d D25 → Calls Tryd.prog 21 #[v, v', d] w fun e w' => ∃ u, e = .returned u ∧ Pm w' u (((A.add A).add (A.add A)).add ((A.add A).add (A.add A))) ∧ Below w.heap.size w w'))
    (Q10 : Hid (∀ w : World, Env w → Calls Tryd.prog 22 #[.agg pa.toArray, .agg pb.toArray] w fun e w' => e = .returned (.agg s1.toArray) ∧ Below w.heap.size w w'))
    (Q11 : Hid (∀ (v v' d : Value) (w : World), Pm w v A → Pm w v' B → Num w d D25 → Calls Tryd.prog 21 #[v, v', d] w fun e w' => ∃ u, e = .returned u ∧ Pm w' u (A.add B) ∧ Below w.heap.size w w'))
    (Q12 : Hid (∀ (u : Value) (w : World), Pm w u (A.add B) → Calls Tryd.prog 19 #[.agg s1.toArray, u] w fun e w' => e = .returned (.bool true) ∧ Below w.heap.size w w'))
    (Q13 : Hid (∀ w : World, Env w → Calls Tryd.prog 23 #[.agg pa.toArray] w fun e w' => e = .returned (.agg d1.toArray) ∧ Below w.heap.size w w'))
    (Q14 : Hid (∀ (u : Value) (w : World), Pm w u (A.add A) → Calls Tryd.prog 19 #[.agg d1.toArray, u] w fun e w' => e = .returned (.bool true) ∧ Below w.heap.size w w'))
    (Q15 : Hid (∀ w : World, Env w → Calls Tryd.prog 24 #[.agg pa.toArray] w fun e w' => e = .returned (.agg ng.toArray) ∧ Below w.heap.size w w'))
    (Q16 : Hid (∀ (v : Value) (w : World), Pm w v A → Calls Tryd.prog 25 #[v] w fun e w' => ∃ u, e = .returned u ∧ Pm w' u A.neg ∧ Below w.heap.size w w'))
    (Q17 : Hid (∀ (u : Value) (w : World), Pm w u A.neg → Calls Tryd.prog 19 #[.agg ng.toArray, u] w fun e w' => e = .returned (.bool true) ∧ Below w.heap.size w w'))
    (Q18 : Hid (∀ w : World, Env w → Calls Tryd.prog 26 #[.agg pa.toArray] w fun e w' => e = .returned (.agg e8.toArray) ∧ Below w.heap.size w w'))
    (Q19 : Hid (∀ (u : Value) (w : World), Pm w u (((A.add A).add (A.add A)).add ((A.add A).add (A.add A))) → Calls Tryd.prog 19 #[.agg e8.toArray, u] w fun e w' => e = .returned (.bool true) ∧ Below w.heap.size w w'))
    (Q20 : Hid (∀ w : World, Env w → Calls Tryd.prog 22 #[.agg pa.toArray, .agg pb.toArray] w fun e w' => e = .returned (.agg s1.toArray) ∧ Below w.heap.size w w'))
    (Q21 : Hid (∀ w : World, Env w → Calls Tryd.prog 23 #[.agg pa.toArray] w fun e w' => e = .returned (.agg d1.toArray) ∧ Below w.heap.size w w'))
    (Q22 : Hid (∀ w : World, Env w → Calls Tryd.prog 22 #[.agg s1.toArray, .agg d1.toArray] w fun e w' => e = .returned (.agg s2.toArray) ∧ Below w.heap.size w w'))
    (Q23 : Hid (∀ (v v' d : Value) (w : World), Pm w v A → Pm w v' B → Num w d D25 → Calls Tryd.prog 21 #[v, v', d] w fun e w' => ∃ u, e = .returned u ∧ Pm w' u (A.add B) ∧ Below w.heap.size w w'))
    (Q24 : Hid (∀ (v v' d : Value) (w : World), Pm w v (A.add B) → Pm w v' (A.add A) → Num w d D25 → Calls Tryd.prog 21 #[v, v', d] w fun e w' => ∃ u, e = .returned u ∧ Pm w' u ((A.add B).add (A.add A)) ∧ Below w.heap.size w w'))
    (Q25 : Hid (∀ (u : Value) (w : World), Pm w u ((A.add B).add (A.add A)) → Calls Tryd.prog 19 #[.agg s2.toArray, u] w fun e w' => e = .returned (.bool true) ∧ Below w.heap.size w w'))
    (Q26 : Hid (∀ w : World, Env w → Calls Tryd.prog 23 #[.agg s2.toArray] w fun e w' => e = .returned (.agg ds.toArray) ∧ Below w.heap.size w w'))
    (Q27 : Hid (∀ (v v' d : Value) (w : World), Pm w v ((A.add B).add (A.add A)) → Pm w v' ((A.add B).add (A.add A)) → Num w d D25 → Calls Tryd.prog 21 #[v, v', d] w fun e w' => ∃ u, e = .returned u ∧ Pm w' u (((A.add B).add (A.add A)).add ((A.add B).add (A.add A))) ∧ Below w.heap.size w w'))
    (Q28 : Hid (∀ (u : Value) (w : World), Pm w u (((A.add B).add (A.add A)).add ((A.add B).add (A.add A))) → Calls Tryd.prog 19 #[.agg ds.toArray, u] w fun e w' => e = .returned (.bool true) ∧ Below w.heap.size w w'))
    (Q29 : Hid (∀ w : World, Env w → Calls Tryd.prog 27 #[.agg pa.toArray] w fun e w' => e = .returned (.bool tb) ∧ Below w.heap.size w w'))
    (Q30 : Hid (∀ w : World, Calls Tryd.prog 29 #[] w fun e w' => ∃ u, e = .returned u ∧ Pm w' u Pt.zero ∧ Below w.heap.size w w'))
    (Q31 : Hid (∀ (v v' : Value) (w : World), Pm w v (((A.add A).add (A.add A)).add ((A.add A).add (A.add A))) → Pm w v' Pt.zero → Calls Tryd.prog 28 #[v, v'] w fun e w' => e = .returned (.bool tb) ∧ Below w.heap.size w w'))
    (Q32 : Hid (∀ w : World, Calls Tryd.prog 17 #[.agg pa.toArray, .agg pb.toArray] w fun e w' => e = .returned (.bool tc) ∧ Below w.heap.size w w'))
    (Q33 : Hid (∀ (v v' : Value) (w : World), Pm w v A → Pm w v' B → Calls Tryd.prog 28 #[v, v'] w fun e w' => e = .returned (.bool tc) ∧ Below w.heap.size w w'))
    (Q34 : Hid (∀ w : World, Calls Tryd.prog 30 #[] w fun e w' => e = .returned (.agg zz.toArray) ∧ Below w.heap.size w w'))
    (Q35 : Hid (∀ w : World, Calls Tryd.prog 29 #[] w fun e w' => ∃ u, e = .returned u ∧ Pm w' u Pt.zero ∧ Below w.heap.size w w'))
    (Q36 : Hid (∀ (u : Value) (w : World), Pm w u Pt.zero → Calls Tryd.prog 19 #[.agg zz.toArray, u] w fun e w' => e = .returned (.bool true) ∧ Below w.heap.size w w'))
    (Q37 : Hid (∀ w : World, Env w → Calls Tryd.prog 31 #[] w fun e w' => e = .returned (.agg bb.toArray) ∧ Below w.heap.size w w'))
    (Q38 : Hid (∀ w : World, Calls Tryd.prog 32 #[] w fun e w' => ∃ u, e = .returned u ∧ Pm w' u baseP ∧ Below w.heap.size w w'))
    (Q39 : Hid (∀ (u : Value) (w : World), Pm w u baseP → Calls Tryd.prog 19 #[.agg bb.toArray, u] w fun e w' => e = .returned (.bool true) ∧ Below w.heap.size w w'))
    (w : World) (Sa_0 : Hid (SK .u8 w (.slice a0 n0 c0) la)) (Sb_0 : Hid (SK .u8 w (.slice a1 n1 c1) lb)) (E_0 : Hid (Env w)) :
    Calls Tryd.prog 5 #[.slice a0 n0 c0, .slice a1 n1 c1] w fun e w' => e = .returned (.bool true) ∧ Below w.heap.size w w' := by
  go_enter Tryd.func5, Tryd.ntmps5
  go_upto_region 1 with fail
  have HE := E_0.out.lt
  refine wp_cut (fun V => SK .u8 V (.slice a0 n0 c0) la ∧ SK .u8 V (.slice a1 n1 c1) lb ∧ Env V ∧ Below w.heap.size w V) ⟨?_, ?_, ?_, ?_⟩ ?_
  · refine Sa_0.out.below ?_
    (repeat (first | exact Below.refl _ _ | refine Below.drew ?_ | refine below_drewN ?_ _ | refine Below.alloc ?_ (by simp <;> omega) _))
  · refine Sb_0.out.below ?_
    (repeat (first | exact Below.refl _ _ | refine Below.drew ?_ | refine below_drewN ?_ _ | refine Below.alloc ?_ (by simp <;> omega) _))
  · refine E_0.out.grown ?_
    (repeat (first | exact Below.refl _ _ | refine Below.drew ?_ | refine below_drewN ?_ _ | refine Below.alloc ?_ (by simp <;> omega) _))
  · (repeat (first | exact Below.refl _ _ | refine Below.drew ?_ | refine below_drewN ?_ _ | refine Below.alloc ?_ (by simp <;> omega) _))
  rintro w1 ⟨k0, k1, k2, k3⟩
  have Sa_1 := hid k0
  have Sb_1 := hid k1
  have E_1 := hid k2
  have G_1 := hid k3
  clear k0 k1 k2 k3 Sa_0 Sb_0 E_0
  go_wp2_with (fail)
  refine (Q1.out _ E_1.out).mono ?_
  rintro e w2 ⟨rfl, g0⟩
  have g := g0
  clear g0
  have Sa_2 := hid (Sa_1.out.below g)
  have Sb_2 := hid (Sb_1.out.below g)
  have E_2 := hid (E_1.out.grown g)
  have G_2 := hid (G_1.out.trans (g.mono G_1.out.size))
  clear g Sa_1 Sb_1 E_1 G_1
  go_wp2_with (fail)
  refine (Q2.out _ _ Sa_2.out E_2.out).mono ?_
  rintro e w3 ⟨rfl, g0⟩
  have g := g0
  clear g0
  have Sa_3 := hid (Sa_2.out.below g)
  have Sb_3 := hid (Sb_2.out.below g)
  have E_3 := hid (E_2.out.grown g)
  have G_3 := hid (G_2.out.trans (g.mono G_2.out.size))
  clear g Sa_2 Sb_2 E_2 G_2
  have szB5 : w.heap.size ≤ w3.heap.size := G_3.out.size
  go_wp2_with (first | (refine list_store_new rfl 30 _ _ rfl w3 pa [.int .u64 0, .int .u64 0, .int .u64 0, .int .u64 0, .int .u64 0, .int .u64 0, .int .u64 0, .int .u64 0, .int .u64 0, .int .u64 0, .int .u64 0, .int .u64 0, .int .u64 0, .int .u64 0, .int .u64 0, .int .u64 0, .int .u64 0, .int .u64 0, .int .u64 0, .int .u64 0] rfl rfl pa_h.len pa_h.is pa_h.one (fun w4 hC g => ?_)) | fail)
  have B5_4 := hid hC
  have Sa_4 := hid (Sa_3.out.below g)
  have Sb_4 := hid (Sb_3.out.below g)
  have E_4 := hid (E_3.out.grown g)
  have G_4 := hid (G_3.out.trans (g.mono G_3.out.size))
  clear hC g Sa_3 Sb_3 E_3 G_3
  go_wp2_with (fail)
  refine (Q3.out _ _ Sb_4.out E_4.out).mono ?_
  rintro e w5 ⟨rfl, g0⟩
  have g := g0
  clear g0
  have B5_5 := hid (B5_4.out.below g)
  have Sa_5 := hid (Sa_4.out.below g)
  have Sb_5 := hid (Sb_4.out.below g)
  have E_5 := hid (E_4.out.grown g)
  have G_5 := hid (G_4.out.trans (g.mono G_4.out.size))
  clear g B5_4 Sa_4 Sb_4 E_4 G_4
  have szB7 : w.heap.size ≤ w5.heap.size := G_5.out.size
  have nlB5B7 : w3.heap.size < w5.heap.size := B5_5.out.lt
  go_wp2_with (first | (refine list_store_new rfl 30 _ _ rfl w5 pb [.int .u64 0, .int .u64 0, .int .u64 0, .int .u64 0, .int .u64 0, .int .u64 0, .int .u64 0, .int .u64 0, .int .u64 0, .int .u64 0, .int .u64 0, .int .u64 0, .int .u64 0, .int .u64 0, .int .u64 0, .int .u64 0, .int .u64 0, .int .u64 0, .int .u64 0, .int .u64 0] rfl rfl pb_h.len pb_h.is pb_h.one (fun w6 hC g => ?_)) | fail)
  have B7_6 := hid hC
  have B5_6 := hid (B5_5.out.below g)
  have Sa_6 := hid (Sa_5.out.below g)
  have Sb_6 := hid (Sb_5.out.below g)
  have E_6 := hid (E_5.out.grown g)
  have G_6 := hid (G_5.out.trans (g.mono G_5.out.size))
  clear hC g B5_5 Sa_5 Sb_5 E_5 G_5
  go_wp2_with (fail)
  refine (Q4.out _).mono ?_
  rintro e w7 ⟨vD, rfl, hn, g0⟩
  have g := g0
  clear g0
  have B5_7 := hid (B5_6.out.below g)
  have B7_7 := hid (B7_6.out.below g)
  have Sa_7 := hid (Sa_6.out.below g)
  have Sb_7 := hid (Sb_6.out.below g)
  have E_7 := hid (E_6.out.grown g)
  have G_7 := hid (G_6.out.trans (g.mono G_6.out.size))
  clear g B5_6 B7_6 Sa_6 Sb_6 E_6 G_6
  have ND_7 : Hid (Num w7 vD D25) := hn
  clear hn
  go_wp2_with (fail)
  refine (Q5.out _ _ Sa_7.out).mono ?_
  rintro e w8 ⟨uu, rfl, hu, g0⟩
  have g := g0
  clear g0
  have B5_8 := hid (B5_7.out.below g)
  have B7_8 := hid (B7_7.out.below g)
  have Sa_8 := hid (Sa_7.out.below g)
  have Sb_8 := hid (Sb_7.out.below g)
  have ND_8 := hid (ND_7.out.below g)
  have E_8 := hid (E_7.out.grown g)
  have G_8 := hid (G_7.out.trans (g.mono G_7.out.size))
  clear g B5_7 B7_7 Sa_7 Sb_7 ND_7 E_7 G_7
  obtain ⟨Mu, rfl, Mu_h, Mu_3, Mu_i⟩ := pm_list hu
  have Pu_8 : Hid (Pm w8 (.agg Mu.toArray) A) := hu
  clear hu
  go_wp2_with (fail)
  refine (Q6.out _ _ Sb_8.out).mono ?_
  rintro e w9 ⟨uu, rfl, hu, g0⟩
  have g := g0
  clear g0
  have B5_9 := hid (B5_8.out.below g)
  have B7_9 := hid (B7_8.out.below g)
  have Sa_9 := hid (Sa_8.out.below g)
  have Sb_9 := hid (Sb_8.out.below g)
  have ND_9 := hid (ND_8.out.below g)
  have Pu_9 := hid (Pu_8.out.below g)
  have E_9 := hid (E_8.out.grown g)
  have G_9 := hid (G_8.out.trans (g.mono G_8.out.size))
  clear g B5_8 B7_8 Sa_8 Sb_8 ND_8 Pu_8 E_8 G_8
  obtain ⟨Mv, rfl, Mv_h, Mv_3, Mv_i⟩ := pm_list hu
  have Pv_9 : Hid (Pm w9 (.agg Mv.toArray) B) := hu
  clear hu
  have szB10 : w.heap.size ≤ w9.heap.size := by have := G_9.out.size; omega
  have nlB5B10 : w3.heap.size < w9.heap.size := by have := B5_9.out.lt; omega
  have nlB7B10 : w5.heap.size < w9.heap.size := by have := B7_9.out.lt; omega
  have szB11 : w.heap.size ≤ (w9.heap.size + 1) := by have := G_9.out.size; omega
  have nlB5B11 : w3.heap.size < (w9.heap.size + 1) := by have := B5_9.out.lt; omega
  have nlB7B11 : w5.heap.size < (w9.heap.size + 1) := by have := B7_9.out.lt; omega
  go_wp2_with (first | (refine list_store_oth rfl 35 _ _ rfl w9.heap.size Mu [.slice none 0 0, .slice none 0 0, .slice none 0 0, .bool false] rfl rfl (at_alloc (at_new _ _ _) _) Mu_h.len Mu_h.is Mu_h.one (fun wq hC hO => ?_)) | (refine list_store_oth rfl 35 _ _ rfl (w9.heap.size + 1) Mv [.slice none 0 0, .slice none 0 0, .slice none 0 0, .bool false] rfl rfl (hO.at (at_new2 _ _ _ _ (by simp)) (by omega)) Mv_h.len Mv_h.is Mv_h.one (fun w10 hC2 hO2 => ?_)) | (refine wpList_load_mid rfl 35 _ rfl w9.heap.size 0 rfl Mu _ (at_mid (hO2.at hC (by omega)) 0 _ (by simp)) Tryd.underlying35 rfl Mu_h.il ?_) | fail)
  have g : Below w9.heap.size w9 w10 := Oth.bel (Oth.bel (((Below.refl _ _).alloc (Nat.le_refl _) _).alloc (by simp) _) hO (Nat.le_refl _)) hO2 (by omega)
  have B10_10 := hid (hO2.at hC (by omega))
  have B11_10 := hid hC2
  have B5_10 := hid (B5_9.out.below g)
  have B7_10 := hid (B7_9.out.below g)
  have Sa_10 := hid (Sa_9.out.below g)
  have Sb_10 := hid (Sb_9.out.below g)
  have ND_10 := hid (ND_9.out.below g)
  have Pu_10 := hid (Pu_9.out.below g)
  have Pv_10 := hid (Pv_9.out.below g)
  have E_10 := hid (E_9.out.grown g)
  have G_10 := hid (G_9.out.trans (g.mono G_9.out.size))
  clear hC hC2 hO hO2 g B5_9 B7_9 Sa_9 Sb_9 ND_9 Pu_9 Pv_9 E_9 G_9
  clear Sa_10
  clear Sb_10
  refine (Q7.out _ _ _ _ Pu_10.out Pu_10.out ND_10.out).mono ?_
  rintro e w11 ⟨uu, rfl, hu, g0⟩
  have g := g0
  clear g0
  have B5_11 := hid (B5_10.out.below g)
  have B7_11 := hid (B7_10.out.below g)
  have B10_11 := hid (B10_10.out.below g)
  have B11_11 := hid (B11_10.out.below g)
  have ND_11 := hid (ND_10.out.below g)
  have Pu_11 := hid (Pu_10.out.below g)
  have Pv_11 := hid (Pv_10.out.below g)
  have E_11 := hid (E_10.out.grown g)
  have G_11 := hid (G_10.out.trans (g.mono G_10.out.size))
  clear g B5_10 B7_10 B10_10 B11_10 ND_10 Pu_10 Pv_10 E_10 G_10
  obtain ⟨M2, rfl, M2_h, M2_3, M2_i⟩ := pm_list hu
  have P2_11 : Hid (Pm w11 (.agg M2.toArray) (A.add A)) := hu
  clear hu
  have szB12 : w.heap.size ≤ w11.heap.size := G_11.out.size
  have nlB5B12 : w3.heap.size < w11.heap.size := B5_11.out.lt
  have nlB7B12 : w5.heap.size < w11.heap.size := B7_11.out.lt
  have nlB10B12 : w9.heap.size < w11.heap.size := B10_11.out.lt
  have nlB11B12 : (w9.heap.size + 1) < w11.heap.size := B11_11.out.lt
  go_wp2_with (first | (refine list_store_new rfl 35 _ _ rfl w11 M2 [.slice none 0 0, .slice none 0 0, .slice none 0 0, .bool false] rfl rfl M2_h.len M2_h.is M2_h.one (fun w12 hC g => ?_)) | (refine wpList_load_mid rfl 35 _ rfl w11.heap.size 0 rfl M2 _ (at_mid hC 0 _ (by simp)) Tryd.underlying35 rfl M2_h.il ?_) | fail)
  have B12_12 := hid hC
  have B5_12 := hid (B5_11.out.below g)
  have B7_12 := hid (B7_11.out.below g)
  have B10_12 := hid (B10_11.out.below g)
  have B11_12 := hid (B11_11.out.below g)
  have ND_12 := hid (ND_11.out.below g)
  have Pu_12 := hid (Pu_11.out.below g)
  have Pv_12 := hid (Pv_11.out.below g)
  have P2_12 := hid (P2_11.out.below g)
  have E_12 := hid (E_11.out.grown g)
  have G_12 := hid (G_11.out.trans (g.mono G_11.out.size))
  clear hC g B5_11 B7_11 B10_11 B11_11 ND_11 Pu_11 Pv_11 P2_11 E_11 G_11
  refine (Q8.out _ _ _ _ P2_12.out P2_12.out ND_12.out).mono ?_
  rintro e w13 ⟨uu, rfl, hu, g0⟩
  have g := g0
  clear g0
  have B5_13 := hid (B5_12.out.below g)
  have B7_13 := hid (B7_12.out.below g)
  have B10_13 := hid (B10_12.out.below g)
  have B11_13 := hid (B11_12.out.below g)
  have B12_13 := hid (B12_12.out.below g)
  have ND_13 := hid (ND_12.out.below g)
  have Pu_13 := hid (Pu_12.out.below g)
  have Pv_13 := hid (Pv_12.out.below g)
  have P2_13 := hid (P2_12.out.below g)
  have E_13 := hid (E_12.out.grown g)
  have G_13 := hid (G_12.out.trans (g.mono G_12.out.size))
  clear g B5_12 B7_12 B10_12 B11_12 B12_12 ND_12 Pu_12 Pv_12 P2_12 E_12 G_12
  obtain ⟨M4, rfl, M4_h, M4_3, M4_i⟩ := pm_list hu
  have P4_13 : Hid (Pm w13 (.agg M4.toArray) ((A.add A).add (A.add A))) := hu
  clear hu
  have szB13 : w.heap.size ≤ w13.heap.size := G_13.out.size
  have nlB5B13 : w3.heap.size < w13.heap.size := B5_13.out.lt
  have nlB7B13 : w5.heap.size < w13.heap.size := B7_13.out.lt
  have nlB10B13 : w9.heap.size < w13.heap.size := B10_13.out.lt
  have nlB11B13 : (w9.heap.size + 1) < w13.heap.size := B11_13.out.lt
  have nlB12B13 : w11.heap.size < w13.heap.size := B12_13.out.lt
  go_wp2_with (first | (refine list_store_new rfl 35 _ _ rfl w13 M4 [.slice none 0 0, .slice none 0 0, .slice none 0 0, .bool false] rfl rfl M4_h.len M4_h.is M4_h.one (fun w14 hC g => ?_)) | (refine wpList_load_mid rfl 35 _ rfl w13.heap.size 0 rfl M4 _ (at_mid hC 0 _ (by simp)) Tryd.underlying35 rfl M4_h.il ?_) | fail)
  have B13_14 := hid hC
  have B5_14 := hid (B5_13.out.below g)
  have B7_14 := hid (B7_13.out.below g)
  have B10_14 := hid (B10_13.out.below g)
  have B11_14 := hid (B11_13.out.below g)
  have B12_14 := hid (B12_13.out.below g)
  have ND_14 := hid (ND_13.out.below g)
  have Pu_14 := hid (Pu_13.out.below g)
  have Pv_14 := hid (Pv_13.out.below g)
  have P2_14 := hid (P2_13.out.below g)
  have P4_14 := hid (P4_13.out.below g)
  have E_14 := hid (E_13.out.grown g)
  have G_14 := hid (G_13.out.trans (g.mono G_13.out.size))
  clear hC g B5_13 B7_13 B10_13 B11_13 B12_13 ND_13 Pu_13 Pv_13 P2_13 P4_13 E_13 G_13
  refine (Q9.out _ _ _ _ P4_14.out P4_14.out ND_14.out).mono ?_
  rintro e w15 ⟨uu, rfl, hu, g0⟩
  have g := g0
  clear g0
  have B5_15 := hid (B5_14.out.below g)
  have B7_15 := hid (B7_14.out.below g)
  have B10_15 := hid (B10_14.out.below g)
  have B11_15 := hid (B11_14.out.below g)
  have B12_15 := hid (B12_14.out.below g)
  have B13_15 := hid (B13_14.out.below g)
  have ND_15 := hid (ND_14.out.below g)
  have Pu_15 := hid (Pu_14.out.below g)
  have Pv_15 := hid (Pv_14.out.below g)
  have P2_15 := hid (P2_14.out.below g)
  have P4_15 := hid (P4_14.out.below g)
  have E_15 := hid (E_14.out.grown g)
  have G_15 := hid (G_14.out.trans (g.mono G_14.out.size))
  clear g B5_14 B7_14 B10_14 B11_14 B12_14 B13_14 ND_14 Pu_14 Pv_14 P2_14 P4_14 E_14 G_14
  obtain ⟨M8, rfl, M8_h, M8_3, M8_i⟩ := pm_list hu
  have P8_15 : Hid (Pm w15 (.agg M8.toArray) (((A.add A).add (A.add A)).add ((A.add A).add (A.add A)))) := hu
  clear hu
  have szB14 : w.heap.size ≤ w15.heap.size := G_15.out.size
  have nlB5B14 : w3.heap.size < w15.heap.size := B5_15.out.lt
  have nlB7B14 : w5.heap.size < w15.heap.size := B7_15.out.lt
  have nlB10B14 : w9.heap.size < w15.heap.size := B10_15.out.lt
  have nlB11B14 : (w9.heap.size + 1) < w15.heap.size := B11_15.out.lt
  have nlB12B14 : w11.heap.size < w15.heap.size := B12_15.out.lt
  have nlB13B14 : w13.heap.size < w15.heap.size := B13_15.out.lt
  go_wp2_with (first | (refine list_store_new rfl 35 _ _ rfl w15 M8 [.slice none 0 0, .slice none 0 0, .slice none 0 0, .bool false] rfl rfl M8_h.len M8_h.is M8_h.one (fun w16 hC g => ?_)) | fail)
  have B14_16 := hid hC
  have B5_16 := hid (B5_15.out.below g)
  have B7_16 := hid (B7_15.out.below g)
  have B10_16 := hid (B10_15.out.below g)
  have B11_16 := hid (B11_15.out.below g)
  have B12_16 := hid (B12_15.out.below g)
  have B13_16 := hid (B13_15.out.below g)
  have ND_16 := hid (ND_15.out.below g)
  have Pu_16 := hid (Pu_15.out.below g)
  have Pv_16 := hid (Pv_15.out.below g)
  have P2_16 := hid (P2_15.out.below g)
  have P4_16 := hid (P4_15.out.below g)
  have P8_16 := hid (P8_15.out.below g)
  have E_16 := hid (E_15.out.grown g)
  have G_16 := hid (G_15.out.trans (g.mono G_15.out.size))
  clear hC g B5_15 B7_15 B10_15 B11_15 B12_15 B13_15 ND_15 Pu_15 Pv_15 P2_15 P4_15 P8_15 E_15 G_15
  clear P4_16
  clear B13_16
  go_wp2_with fail
  have E_16' := hid (E_16.out.grown (Below.refl _ w16).drew)
  have ND_16' := hid (ND_16.out.below (Below.refl _ w16).drew)
  have Pu_16' := hid (Pu_16.out.below (Below.refl _ w16).drew)
  have Pv_16' := hid (Pv_16.out.below (Below.refl _ w16).drew)
  have P2_16' := hid (P2_16.out.below (Below.refl _ w16).drew)
  have P8_16' := hid (P8_16.out.below (Below.refl _ w16).drew)
  have K16 : At 30 w16.drew w3.heap.size pa ∧ At 30 w16.drew w5.heap.size pb ∧ At 35 w16.drew w9.heap.size Mu ∧ At 35 w16.drew (w9.heap.size + 1) Mv ∧ At 35 w16.drew w11.heap.size M2 ∧ At 35 w16.drew w15.heap.size M8 := And.intro B5_16.out.drew (And.intro B7_16.out.drew (And.intro B10_16.out.drew (And.intro B11_16.out.drew (And.intro B12_16.out.drew (B14_16.out.drew)))))
  refine wp_region_held_drew (S := fun w' => At 30 w' w3.heap.size pa ∧ At 30 w' w5.heap.size pb ∧ At 35 w' w9.heap.size Mu ∧ At 35 w' (w9.heap.size + 1) Mv ∧ At 35 w' w11.heap.size M2 ∧ At 35 w' w15.heap.size M8) (by kernel_rfl) K16 (fun hHeld => ?_)
  clear K16
  refine h_take 0 (v := .agg pa.toArray) rfl (by kernel_rfl) (by kernel_rfl) (by kernel_rfl) (fun _ _ _ h => h) (by rfl) ?hyr12_0 (by assumption) ?_
  case hyr12_0 =>
    intro w' hSw
    exact load_run 30 _ rfl _ 0 rfl pa _ (at_mid hSw.1 0 _ (by simp)) Tryd.underlying30 rfl pa_h.il
  try simp only [Act.put, List.setIfInBounds_toArray, List.set_cons_zero, List.set_cons_succ]
  refine h_take 1 (v := .agg pb.toArray) rfl (by kernel_rfl) (by kernel_rfl) (by kernel_rfl) (fun _ _ _ h => h) (by rfl) ?hyr12_1 (by assumption) ?_
  case hyr12_1 =>
    intro w' hSw
    exact load_run 30 _ rfl _ 0 rfl pb _ (at_mid hSw.2.1 0 _ (by simp)) Tryd.underlying30 rfl pb_h.il
  try simp only [Act.put, List.setIfInBounds_toArray, List.set_cons_zero, List.set_cons_succ]
  refine h_take 3 (v := .agg Mu.toArray) rfl (by kernel_rfl) (by kernel_rfl) (by kernel_rfl) (fun _ _ _ h => h) (by rfl) ?hyr12_3 (by assumption) ?_
  case hyr12_3 =>
    intro w' hSw
    exact load_run 35 _ rfl _ 0 rfl Mu _ (at_mid hSw.2.2.1 0 _ (by simp)) Tryd.underlying35 rfl Mu_h.il
  try simp only [Act.put, List.setIfInBounds_toArray, List.set_cons_zero, List.set_cons_succ]
  refine h_take 4 (v := .agg Mv.toArray) rfl (by kernel_rfl) (by kernel_rfl) (by kernel_rfl) (fun _ _ _ h => h) (by rfl) ?hyr12_4 (by assumption) ?_
  case hyr12_4 =>
    intro w' hSw
    exact load_run 35 _ rfl _ 0 rfl Mv _ (at_mid hSw.2.2.2.1 0 _ (by simp)) Tryd.underlying35 rfl Mv_h.il
  try simp only [Act.put, List.setIfInBounds_toArray, List.set_cons_zero, List.set_cons_succ]
  refine h_take 5 (v := vD) rfl (by kernel_rfl) (by kernel_rfl) (by kernel_rfl) (fun _ _ _ h => h) (by rfl) ?hyr12_5 (by assumption) ?_
  case hyr12_5 =>
    intro w' hSw
    clear hSw
    go_simp
  try simp only [Act.put, List.setIfInBounds_toArray, List.set_cons_zero, List.set_cons_succ]
  refine h_call 2 rfl (by kernel_rfl) (by rfl) (fun Kk hK => ?_)
  go_simp
  (refine (Q10.out _ E_16'.out).mono ?_)
  rintro e w17 ⟨rfl, g0⟩
  have g : Below w16.heap.size w16 w17 := (Below.refl _ w16).drew.trans g0
  clear g0
  have B5_17 := hid (B5_16.out.below g)
  have B7_17 := hid (B7_16.out.below g)
  have B10_17 := hid (B10_16.out.below g)
  have B11_17 := hid (B11_16.out.below g)
  have B12_17 := hid (B12_16.out.below g)
  have B14_17 := hid (B14_16.out.below g)
  have ND_17 := hid (ND_16.out.below g)
  have Pu_17 := hid (Pu_16.out.below g)
  have Pv_17 := hid (Pv_16.out.below g)
  have P2_17 := hid (P2_16.out.below g)
  have P8_17 := hid (P8_16.out.below g)
  have E_17 := hid (E_16.out.grown g)
  have G_17 := hid (G_16.out.trans (g.mono G_16.out.size))
  clear g B5_16 B7_16 B10_16 B11_16 B12_16 B14_16 ND_16 Pu_16 Pv_16 P2_16 P8_16 E_16 G_16
  clear ND_16' Pu_16' Pv_16' P2_16' P8_16' E_16'
  have K17 := And.intro B5_17.out (And.intro B7_17.out (And.intro B10_17.out (And.intro B11_17.out (And.intro B12_17.out (B14_17.out)))))
  go_wp2_with fail
  clear hHeld
  refine hK.out _ _ K17 (fun hHeld => ?_)
  clear hK Kk K17
  try simp only [Act.put, List.setIfInBounds_toArray, List.set_cons_zero, List.set_cons_succ]
  refine h_call 6 rfl (by kernel_rfl) (by rfl) (fun Kk hK => ?_)
  go_simp
  (refine (Q11.out _ _ _ _ Pu_17.out Pv_17.out ND_17.out).mono ?_)
  rintro e w18 ⟨uu, rfl, hu, g0⟩
  have g := g0
  clear g0
  have B5_18 := hid (B5_17.out.below g)
  have B7_18 := hid (B7_17.out.below g)
  have B10_18 := hid (B10_17.out.below g)
  have B11_18 := hid (B11_17.out.below g)
  have B12_18 := hid (B12_17.out.below g)
  have B14_18 := hid (B14_17.out.below g)
  have ND_18 := hid (ND_17.out.below g)
  have Pu_18 := hid (Pu_17.out.below g)
  have Pv_18 := hid (Pv_17.out.below g)
  have P2_18 := hid (P2_17.out.below g)
  have P8_18 := hid (P8_17.out.below g)
  have E_18 := hid (E_17.out.grown g)
  have G_18 := hid (G_17.out.trans (g.mono G_17.out.size))
  clear g B5_17 B7_17 B10_17 B11_17 B12_17 B14_17 ND_17 Pu_17 Pv_17 P2_17 P8_17 E_17 G_17
  obtain ⟨M5, rfl, M5_h, M5_3, M5_i⟩ := pm_list hu
  have P5_18 : Hid (Pm w18 (.agg M5.toArray) (A.add B)) := hu
  clear hu
  have K18 := And.intro B5_18.out (And.intro B7_18.out (And.intro B10_18.out (And.intro B11_18.out (And.intro B12_18.out (B14_18.out)))))
  go_wp2_with fail
  clear hHeld
  refine hK.out _ _ K18 (fun hHeld => ?_)
  clear hK Kk K18
  try simp only [Act.put, List.setIfInBounds_toArray, List.set_cons_zero, List.set_cons_succ]
  refine h_call 7 rfl (by kernel_rfl) (by rfl) (fun Kk hK => ?_)
  go_simp
  (refine (Q12.out _ _ P5_18.out).mono ?_)
  rintro e w19 ⟨rfl, g0⟩
  have g := g0
  clear g0
  have B5_19 := hid (B5_18.out.below g)
  have B7_19 := hid (B7_18.out.below g)
  have B10_19 := hid (B10_18.out.below g)
  have B11_19 := hid (B11_18.out.below g)
  have B12_19 := hid (B12_18.out.below g)
  have B14_19 := hid (B14_18.out.below g)
  have ND_19 := hid (ND_18.out.below g)
  have Pu_19 := hid (Pu_18.out.below g)
  have Pv_19 := hid (Pv_18.out.below g)
  have P2_19 := hid (P2_18.out.below g)
  have P8_19 := hid (P8_18.out.below g)
  have P5_19 := hid (P5_18.out.below g)
  have E_19 := hid (E_18.out.grown g)
  have G_19 := hid (G_18.out.trans (g.mono G_18.out.size))
  clear g B5_18 B7_18 B10_18 B11_18 B12_18 B14_18 ND_18 Pu_18 Pv_18 P2_18 P8_18 P5_18 E_18 G_18
  have K19 := And.intro B5_19.out (And.intro B7_19.out (And.intro B10_19.out (And.intro B11_19.out (And.intro B12_19.out (B14_19.out)))))
  go_wp2_with fail
  clear hHeld
  refine hK.out _ _ K19 (fun hHeld => ?_)
  clear hK Kk K19
  try simp only [Act.put, List.setIfInBounds_toArray, List.set_cons_zero, List.set_cons_succ]
  refine h_take 8 (v := .bool false) rfl (by kernel_rfl) (by kernel_rfl) (by kernel_rfl) (fun _ _ _ h => h) (by rfl) ?hyr12_8 (by assumption) ?_
  case hyr12_8 =>
    intro w' hSw
    clear hSw
    go_simp
  try simp only [Act.put, List.setIfInBounds_toArray, List.set_cons_zero, List.set_cons_succ]
  refine h_take 9 (v := .bool false) rfl (by kernel_rfl) (by kernel_rfl) (by kernel_rfl) (fun _ _ _ h => h) (by rfl) ?hyr12_9 (by assumption) ?_
  case hyr12_9 =>
    intro w' hSw
    clear hSw
    go_simp
  try simp only [Act.put, List.setIfInBounds_toArray, List.set_cons_zero, List.set_cons_succ]
  refine h_take 10 (v := .agg pa.toArray) rfl (by kernel_rfl) (by kernel_rfl) (by kernel_rfl) (fun _ _ _ h => h) (by rfl) ?hyr12_10 (by assumption) ?_
  case hyr12_10 =>
    intro w' hSw
    exact load_run 30 _ rfl _ 0 rfl pa _ (at_mid hSw.1 0 _ (by simp)) Tryd.underlying30 rfl pa_h.il
  try simp only [Act.put, List.setIfInBounds_toArray, List.set_cons_zero, List.set_cons_succ]
  refine h_take 12 (v := .agg M2.toArray) rfl (by kernel_rfl) (by kernel_rfl) (by kernel_rfl) (fun _ _ _ h => h) (by rfl) ?hyr12_12 (by assumption) ?_
  case hyr12_12 =>
    intro w' hSw
    exact load_run 35 _ rfl _ 0 rfl M2 _ (at_mid hSw.2.2.2.2.1 0 _ (by simp)) Tryd.underlying35 rfl M2_h.il
  try simp only [Act.put, List.setIfInBounds_toArray, List.set_cons_zero, List.set_cons_succ]
  refine h_call 11 rfl (by kernel_rfl) (by rfl) (fun Kk hK => ?_)
  go_simp
  (refine (Q13.out _ E_19.out).mono ?_)
  rintro e w20 ⟨rfl, g0⟩
  have g := g0
  clear g0
  have B5_20 := hid (B5_19.out.below g)
  have B7_20 := hid (B7_19.out.below g)
  have B10_20 := hid (B10_19.out.below g)
  have B11_20 := hid (B11_19.out.below g)
  have B12_20 := hid (B12_19.out.below g)
  have B14_20 := hid (B14_19.out.below g)
  have ND_20 := hid (ND_19.out.below g)
  have Pu_20 := hid (Pu_19.out.below g)
  have Pv_20 := hid (Pv_19.out.below g)
  have P2_20 := hid (P2_19.out.below g)
  have P8_20 := hid (P8_19.out.below g)
  have P5_20 := hid (P5_19.out.below g)
  have E_20 := hid (E_19.out.grown g)
  have G_20 := hid (G_19.out.trans (g.mono G_19.out.size))
  clear g B5_19 B7_19 B10_19 B11_19 B12_19 B14_19 ND_19 Pu_19 Pv_19 P2_19 P8_19 P5_19 E_19 G_19
  have K20 := And.intro B5_20.out (And.intro B7_20.out (And.intro B10_20.out (And.intro B11_20.out (And.intro B12_20.out (B14_20.out)))))
  go_wp2_with fail
  clear hHeld
  refine hK.out _ _ K20 (fun hHeld => ?_)
  clear hK Kk K20
  try simp only [Act.put, List.setIfInBounds_toArray, List.set_cons_zero, List.set_cons_succ]
  refine h_call 13 rfl (by kernel_rfl) (by rfl) (fun Kk hK => ?_)
  go_simp
  (refine (Q14.out _ _ P2_20.out).mono ?_)
  rintro e w21 ⟨rfl, g0⟩
  have g := g0
  clear g0
  have B5_21 := hid (B5_20.out.below g)
  have B7_21 := hid (B7_20.out.below g)
  have B10_21 := hid (B10_20.out.below g)
  have B11_21 := hid (B11_20.out.below g)
  have B12_21 := hid (B12_20.out.below g)
  have B14_21 := hid (B14_20.out.below g)
  have ND_21 := hid (ND_20.out.below g)
  have Pu_21 := hid (Pu_20.out.below g)
  have Pv_21 := hid (Pv_20.out.below g)
  have P2_21 := hid (P2_20.out.below g)
  have P8_21 := hid (P8_20.out.below g)
  have P5_21 := hid (P5_20.out.below g)
  have E_21 := hid (E_20.out.grown g)
  have G_21 := hid (G_20.out.trans (g.mono G_20.out.size))
  clear g B5_20 B7_20 B10_20 B11_20 B12_20 B14_20 ND_20 Pu_20 Pv_20 P2_20 P8_20 P5_20 E_20 G_20
  have K21 := And.intro B5_21.out (And.intro B7_21.out (And.intro B10_21.out (And.intro B11_21.out (And.intro B12_21.out (B14_21.out)))))
  go_wp2_with fail
  clear hHeld
  refine hK.out _ _ K21 (fun hHeld => ?_)
  clear hK Kk K21
  try simp only [Act.put, List.setIfInBounds_toArray, List.set_cons_zero, List.set_cons_succ]
  refine h_take 14 (v := .bool false) rfl (by kernel_rfl) (by kernel_rfl) (by kernel_rfl) (fun _ _ _ h => h) (by rfl) ?hyr12_14 (by assumption) ?_
  case hyr12_14 =>
    intro w' hSw
    clear hSw
    go_simp
  try simp only [Act.put, List.setIfInBounds_toArray, List.set_cons_zero, List.set_cons_succ]
  refine h_take 15 (v := .bool false) rfl (by kernel_rfl) (by kernel_rfl) (by kernel_rfl) (fun _ _ _ h => h) (by rfl) ?hyr12_15 (by assumption) ?_
  case hyr12_15 =>
    intro w' hSw
    clear hSw
    go_simp
  try simp only [Act.put, List.setIfInBounds_toArray, List.set_cons_zero, List.set_cons_succ]
  refine h_take 16 (v := .bool false) rfl (by kernel_rfl) (by kernel_rfl) (by kernel_rfl) (fun _ _ _ h => h) (by rfl) ?hyr12_16 (by assumption) ?_
  case hyr12_16 =>
    intro w' hSw
    clear hSw
    go_simp
  try simp only [Act.put, List.setIfInBounds_toArray, List.set_cons_zero, List.set_cons_succ]
  refine h_take 17 (v := .agg pa.toArray) rfl (by kernel_rfl) (by kernel_rfl) (by kernel_rfl) (fun _ _ _ h => h) (by rfl) ?hyr12_17 (by assumption) ?_
  case hyr12_17 =>
    intro w' hSw
    exact load_run 30 _ rfl _ 0 rfl pa _ (at_mid hSw.1 0 _ (by simp)) Tryd.underlying30 rfl pa_h.il
  try simp only [Act.put, List.setIfInBounds_toArray, List.set_cons_zero, List.set_cons_succ]
  refine h_take 19 (v := .agg Mu.toArray) rfl (by kernel_rfl) (by kernel_rfl) (by kernel_rfl) (fun _ _ _ h => h) (by rfl) ?hyr12_19 (by assumption) ?_
  case hyr12_19 =>
    intro w' hSw
    exact load_run 35 _ rfl _ 0 rfl Mu _ (at_mid hSw.2.2.1 0 _ (by simp)) Tryd.underlying35 rfl Mu_h.il
  try simp only [Act.put, List.setIfInBounds_toArray, List.set_cons_zero, List.set_cons_succ]
  refine h_call 18 rfl (by kernel_rfl) (by rfl) (fun Kk hK => ?_)
  go_simp
  (refine (Q15.out _ E_21.out).mono ?_)
  rintro e w22 ⟨rfl, g0⟩
  have g := g0
  clear g0
  have B5_22 := hid (B5_21.out.below g)
  have B7_22 := hid (B7_21.out.below g)
  have B10_22 := hid (B10_21.out.below g)
  have B11_22 := hid (B11_21.out.below g)
  have B12_22 := hid (B12_21.out.below g)
  have B14_22 := hid (B14_21.out.below g)
  have ND_22 := hid (ND_21.out.below g)
  have Pu_22 := hid (Pu_21.out.below g)
  have Pv_22 := hid (Pv_21.out.below g)
  have P2_22 := hid (P2_21.out.below g)
  have P8_22 := hid (P8_21.out.below g)
  have P5_22 := hid (P5_21.out.below g)
  have E_22 := hid (E_21.out.grown g)
  have G_22 := hid (G_21.out.trans (g.mono G_21.out.size))
  clear g B5_21 B7_21 B10_21 B11_21 B12_21 B14_21 ND_21 Pu_21 Pv_21 P2_21 P8_21 P5_21 E_21 G_21
  have K22 := And.intro B5_22.out (And.intro B7_22.out (And.intro B10_22.out (And.intro B11_22.out (And.intro B12_22.out (B14_22.out)))))
  go_wp2_with fail
  clear hHeld
  refine hK.out _ _ K22 (fun hHeld => ?_)
  clear hK Kk K22
  try simp only [Act.put, List.setIfInBounds_toArray, List.set_cons_zero, List.set_cons_succ]
  refine h_call 20 rfl (by kernel_rfl) (by rfl) (fun Kk hK => ?_)
  go_simp
  (refine (Q16.out _ _ Pu_22.out).mono ?_)
  rintro e w23 ⟨uu, rfl, hu, g0⟩
  have g := g0
  clear g0
  have B5_23 := hid (B5_22.out.below g)
  have B7_23 := hid (B7_22.out.below g)
  have B10_23 := hid (B10_22.out.below g)
  have B11_23 := hid (B11_22.out.below g)
  have B12_23 := hid (B12_22.out.below g)
  have B14_23 := hid (B14_22.out.below g)
  have ND_23 := hid (ND_22.out.below g)
  have Pu_23 := hid (Pu_22.out.below g)
  have Pv_23 := hid (Pv_22.out.below g)
  have P2_23 := hid (P2_22.out.below g)
  have P8_23 := hid (P8_22.out.below g)
  have P5_23 := hid (P5_22.out.below g)
  have E_23 := hid (E_22.out.grown g)
  have G_23 := hid (G_22.out.trans (g.mono G_22.out.size))
  clear g B5_22 B7_22 B10_22 B11_22 B12_22 B14_22 ND_22 Pu_22 Pv_22 P2_22 P8_22 P5_22 E_22 G_22
  obtain ⟨M6, rfl, M6_h, M6_3, M6_i⟩ := pm_list hu
  have P6_23 : Hid (Pm w23 (.agg M6.toArray) A.neg) := hu
  clear hu
  have K23 := And.intro B5_23.out (And.intro B7_23.out (And.intro B10_23.out (And.intro B11_23.out (And.intro B12_23.out (B14_23.out)))))
  go_wp2_with fail
  clear hHeld
  refine hK.out _ _ K23 (fun hHeld => ?_)
  clear hK Kk K23
  try simp only [Act.put, List.setIfInBounds_toArray, List.set_cons_zero, List.set_cons_succ]
  refine h_call 21 rfl (by kernel_rfl) (by rfl) (fun Kk hK => ?_)
  go_simp
  (refine (Q17.out _ _ P6_23.out).mono ?_)
  rintro e w24 ⟨rfl, g0⟩
  have g := g0
  clear g0
  have B5_24 := hid (B5_23.out.below g)
  have B7_24 := hid (B7_23.out.below g)
  have B10_24 := hid (B10_23.out.below g)
  have B11_24 := hid (B11_23.out.below g)
  have B12_24 := hid (B12_23.out.below g)
  have B14_24 := hid (B14_23.out.below g)
  have ND_24 := hid (ND_23.out.below g)
  have Pu_24 := hid (Pu_23.out.below g)
  have Pv_24 := hid (Pv_23.out.below g)
  have P2_24 := hid (P2_23.out.below g)
  have P8_24 := hid (P8_23.out.below g)
  have P5_24 := hid (P5_23.out.below g)
  have P6_24 := hid (P6_23.out.below g)
  have E_24 := hid (E_23.out.grown g)
  have G_24 := hid (G_23.out.trans (g.mono G_23.out.size))
  clear g B5_23 B7_23 B10_23 B11_23 B12_23 B14_23 ND_23 Pu_23 Pv_23 P2_23 P8_23 P5_23 P6_23 E_23 G_23
  have K24 := And.intro B5_24.out (And.intro B7_24.out (And.intro B10_24.out (And.intro B11_24.out (And.intro B12_24.out (B14_24.out)))))
  go_wp2_with fail
  clear hHeld
  refine hK.out _ _ K24 (fun hHeld => ?_)
  clear hK Kk K24
  try simp only [Act.put, List.setIfInBounds_toArray, List.set_cons_zero, List.set_cons_succ]
  refine h_take 22 (v := .bool false) rfl (by kernel_rfl) (by kernel_rfl) (by kernel_rfl) (fun _ _ _ h => h) (by rfl) ?hyr12_22 (by assumption) ?_
  case hyr12_22 =>
    intro w' hSw
    clear hSw
    go_simp
  try simp only [Act.put, List.setIfInBounds_toArray, List.set_cons_zero, List.set_cons_succ]
  refine h_take 23 (v := .bool false) rfl (by kernel_rfl) (by kernel_rfl) (by kernel_rfl) (fun _ _ _ h => h) (by rfl) ?hyr12_23 (by assumption) ?_
  case hyr12_23 =>
    intro w' hSw
    clear hSw
    go_simp
  try simp only [Act.put, List.setIfInBounds_toArray, List.set_cons_zero, List.set_cons_succ]
  refine h_take 24 (v := .bool false) rfl (by kernel_rfl) (by kernel_rfl) (by kernel_rfl) (fun _ _ _ h => h) (by rfl) ?hyr12_24 (by assumption) ?_
  case hyr12_24 =>
    intro w' hSw
    clear hSw
    go_simp
  try simp only [Act.put, List.setIfInBounds_toArray, List.set_cons_zero, List.set_cons_succ]
  refine h_take 25 (v := .agg pa.toArray) rfl (by kernel_rfl) (by kernel_rfl) (by kernel_rfl) (fun _ _ _ h => h) (by rfl) ?hyr12_25 (by assumption) ?_
  case hyr12_25 =>
    intro w' hSw
    exact load_run 30 _ rfl _ 0 rfl pa _ (at_mid hSw.1 0 _ (by simp)) Tryd.underlying30 rfl pa_h.il
  try simp only [Act.put, List.setIfInBounds_toArray, List.set_cons_zero, List.set_cons_succ]
  refine h_take 27 (v := .agg M8.toArray) rfl (by kernel_rfl) (by kernel_rfl) (by kernel_rfl) (fun _ _ _ h => h) (by rfl) ?hyr12_27 (by assumption) ?_
  case hyr12_27 =>
    intro w' hSw
    exact load_run 35 _ rfl _ 0 rfl M8 _ (at_mid hSw.2.2.2.2.2 0 _ (by simp)) Tryd.underlying35 rfl M8_h.il
  try simp only [Act.put, List.setIfInBounds_toArray, List.set_cons_zero, List.set_cons_succ]
  refine h_call 26 rfl (by kernel_rfl) (by rfl) (fun Kk hK => ?_)
  go_simp
  (refine (Q18.out _ E_24.out).mono ?_)
  rintro e w25 ⟨rfl, g0⟩
  have g := g0
  clear g0
  have B5_25 := hid (B5_24.out.below g)
  have B7_25 := hid (B7_24.out.below g)
  have B10_25 := hid (B10_24.out.below g)
  have B11_25 := hid (B11_24.out.below g)
  have B12_25 := hid (B12_24.out.below g)
  have B14_25 := hid (B14_24.out.below g)
  have ND_25 := hid (ND_24.out.below g)
  have Pu_25 := hid (Pu_24.out.below g)
  have Pv_25 := hid (Pv_24.out.below g)
  have P2_25 := hid (P2_24.out.below g)
  have P8_25 := hid (P8_24.out.below g)
  have P5_25 := hid (P5_24.out.below g)
  have P6_25 := hid (P6_24.out.below g)
  have E_25 := hid (E_24.out.grown g)
  have G_25 := hid (G_24.out.trans (g.mono G_24.out.size))
  clear g B5_24 B7_24 B10_24 B11_24 B12_24 B14_24 ND_24 Pu_24 Pv_24 P2_24 P8_24 P5_24 P6_24 E_24 G_24
  have K25 := And.intro B5_25.out (And.intro B7_25.out (And.intro B10_25.out (And.intro B11_25.out (And.intro B12_25.out (B14_25.out)))))
  go_wp2_with fail
  clear hHeld
  refine hK.out _ _ K25 (fun hHeld => ?_)
  clear hK Kk K25
  try simp only [Act.put, List.setIfInBounds_toArray, List.set_cons_zero, List.set_cons_succ]
  refine h_call 28 rfl (by kernel_rfl) (by rfl) (fun Kk hK => ?_)
  go_simp
  (refine (Q19.out _ _ P8_25.out).mono ?_)
  rintro e w26 ⟨rfl, g0⟩
  have g := g0
  clear g0
  have B5_26 := hid (B5_25.out.below g)
  have B7_26 := hid (B7_25.out.below g)
  have B10_26 := hid (B10_25.out.below g)
  have B11_26 := hid (B11_25.out.below g)
  have B12_26 := hid (B12_25.out.below g)
  have B14_26 := hid (B14_25.out.below g)
  have ND_26 := hid (ND_25.out.below g)
  have Pu_26 := hid (Pu_25.out.below g)
  have Pv_26 := hid (Pv_25.out.below g)
  have P2_26 := hid (P2_25.out.below g)
  have P8_26 := hid (P8_25.out.below g)
  have P5_26 := hid (P5_25.out.below g)
  have P6_26 := hid (P6_25.out.below g)
  have E_26 := hid (E_25.out.grown g)
  have G_26 := hid (G_25.out.trans (g.mono G_25.out.size))
  clear g B5_25 B7_25 B10_25 B11_25 B12_25 B14_25 ND_25 Pu_25 Pv_25 P2_25 P8_25 P5_25 P6_25 E_25 G_25
  have K26 := And.intro B5_26.out (And.intro B7_26.out (And.intro B10_26.out (And.intro B11_26.out (And.intro B12_26.out (B14_26.out)))))
  go_wp2_with fail
  clear hHeld
  refine hK.out _ _ K26 (fun hHeld => ?_)
  clear hK Kk K26
  try simp only [Act.put, List.setIfInBounds_toArray, List.set_cons_zero, List.set_cons_succ]
  refine h_take 29 (v := .bool false) rfl (by kernel_rfl) (by kernel_rfl) (by kernel_rfl) (fun _ _ _ h => h) (by rfl) ?hyr12_29 (by assumption) ?_
  case hyr12_29 =>
    intro w' hSw
    clear hSw
    go_simp
  try simp only [Act.put, List.setIfInBounds_toArray, List.set_cons_zero, List.set_cons_succ]
  refine h_take 30 (v := .bool false) rfl (by kernel_rfl) (by kernel_rfl) (by kernel_rfl) (fun _ _ _ h => h) (by rfl) ?hyr12_30 (by assumption) ?_
  case hyr12_30 =>
    intro w' hSw
    clear hSw
    go_simp
  try simp only [Act.put, List.setIfInBounds_toArray, List.set_cons_zero, List.set_cons_succ]
  refine wpAnyH_done (by kernel_rfl) ?_ _
  clear hHeld
  clear P5_26
  clear P6_26
  go_wp2_with fail
  refine wp_region_grow_m (ob := (fun k => if k = 13 then some (.cells #[.int .u64 0, .int .u64 0, .int .u64 0, .int .u64 0, .int .u64 0, .int .u64 0, .int .u64 0, .int .u64 0, .int .u64 0, .int .u64 0, .int .u64 0, .int .u64 0, .int .u64 0, .int .u64 0, .int .u64 0, .int .u64 0, .int .u64 0, .int .u64 0, .int .u64 0, .int .u64 0] 30) else if k = 14 then some (.cells #[.slice none 0 0, .slice none 0 0, .slice none 0 0, .bool false] 35) else none)) (by kernel_rfl) ?_
  simp only [List.size_toArray, List.length_cons, List.length_nil, Nat.reduceAdd, Array.replicate_succ, Array.replicate_zero, List.push_toArray, List.nil_append, List.cons_append]
  refine m_first 0 _ (.agg pa.toArray) rfl rfl (by kernel_rfl) (by kernel_rfl) (by kernel_rfl) ?_ ?_
  · refine Or.inl ⟨by rfl, fun w' hw' => ?_⟩
    exact quiet_load 30 _ rfl _ 0 rfl pa _ (at_mid (B5_26.out.below hw') 0 _ (by simp)) Tryd.underlying30 rfl pa_h.il
  try simp only [List.getElem_toArray, List.getElem_cons_zero, List.getElem_cons_succ, Act.put, List.setIfInBounds_toArray, List.set_cons_zero, List.set_cons_succ]
  refine m_first 1 _ (.agg pb.toArray) rfl rfl (by kernel_rfl) (by kernel_rfl) (by kernel_rfl) ?_ ?_
  · refine Or.inl ⟨by rfl, fun w' hw' => ?_⟩
    exact quiet_load 30 _ rfl _ 0 rfl pb _ (at_mid (B7_26.out.below hw') 0 _ (by simp)) Tryd.underlying30 rfl pb_h.il
  try simp only [List.getElem_toArray, List.getElem_cons_zero, List.getElem_cons_succ, Act.put, List.setIfInBounds_toArray, List.set_cons_zero, List.set_cons_succ]
  refine m_first 2 _ (.agg s1.toArray) rfl rfl (by kernel_rfl) (by kernel_rfl) (by kernel_rfl) ?_ ?_
  · refine Or.inl ⟨by rfl, fun w' hw' => ?_⟩
    refine quiet_call (by go_simp) (Q20.out _ (E_26.out.grown hw'))
  try simp only [List.getElem_toArray, List.getElem_cons_zero, List.getElem_cons_succ, Act.put, List.setIfInBounds_toArray, List.set_cons_zero, List.set_cons_succ]
  refine m_first 3 _ (.agg pa.toArray) rfl rfl (by kernel_rfl) (by kernel_rfl) (by kernel_rfl) ?_ ?_
  · refine Or.inl ⟨by rfl, fun w' hw' => ?_⟩
    exact quiet_load 30 _ rfl _ 0 rfl pa _ (at_mid (B5_26.out.below hw') 0 _ (by simp)) Tryd.underlying30 rfl pa_h.il
  try simp only [List.getElem_toArray, List.getElem_cons_zero, List.getElem_cons_succ, Act.put, List.setIfInBounds_toArray, List.set_cons_zero, List.set_cons_succ]
  refine m_first 4 _ (.agg d1.toArray) rfl rfl (by kernel_rfl) (by kernel_rfl) (by kernel_rfl) ?_ ?_
  · refine Or.inl ⟨by rfl, fun w' hw' => ?_⟩
    refine quiet_call (by go_simp) (Q21.out _ (E_26.out.grown hw'))
  try simp only [List.getElem_toArray, List.getElem_cons_zero, List.getElem_cons_succ, Act.put, List.setIfInBounds_toArray, List.set_cons_zero, List.set_cons_succ]
  refine m_first 5 _ (.agg s2.toArray) rfl rfl (by kernel_rfl) (by kernel_rfl) (by kernel_rfl) ?_ ?_
  · refine Or.inl ⟨by rfl, fun w' hw' => ?_⟩
    refine quiet_call (by go_simp) (Q22.out _ (E_26.out.grown hw'))
  try simp only [List.getElem_toArray, List.getElem_cons_zero, List.getElem_cons_succ, Act.put, List.setIfInBounds_toArray, List.set_cons_zero, List.set_cons_succ]
  refine m_first 6 _ (.agg Mu.toArray) rfl rfl (by kernel_rfl) (by kernel_rfl) (by kernel_rfl) ?_ ?_
  · refine Or.inl ⟨by rfl, fun w' hw' => ?_⟩
    exact quiet_load 35 _ rfl _ 0 rfl Mu _ (at_mid (B10_26.out.below hw') 0 _ (by simp)) Tryd.underlying35 rfl Mu_h.il
  try simp only [List.getElem_toArray, List.getElem_cons_zero, List.getElem_cons_succ, Act.put, List.setIfInBounds_toArray, List.set_cons_zero, List.set_cons_succ]
  refine m_first 7 _ (.agg Mv.toArray) rfl rfl (by kernel_rfl) (by kernel_rfl) (by kernel_rfl) ?_ ?_
  · refine Or.inl ⟨by rfl, fun w' hw' => ?_⟩
    exact quiet_load 35 _ rfl _ 0 rfl Mv _ (at_mid (B11_26.out.below hw') 0 _ (by simp)) Tryd.underlying35 rfl Mv_h.il
  try simp only [List.getElem_toArray, List.getElem_cons_zero, List.getElem_cons_succ, Act.put, List.setIfInBounds_toArray, List.set_cons_zero, List.set_cons_succ]
  refine m_first 8 _ (vD) rfl rfl (by kernel_rfl) (by kernel_rfl) (by kernel_rfl) ?_ ?_
  · refine Or.inl ⟨by rfl, fun w' hw' => ?_⟩
    unfold Oper.quietAt
    go_simp
  try simp only [List.getElem_toArray, List.getElem_cons_zero, List.getElem_cons_succ, Act.put, List.setIfInBounds_toArray, List.set_cons_zero, List.set_cons_succ]
  refine m_first 10 _ (.agg M2.toArray) rfl rfl (by kernel_rfl) (by kernel_rfl) (by kernel_rfl) ?_ ?_
  · refine Or.inl ⟨by rfl, fun w' hw' => ?_⟩
    exact quiet_load 35 _ rfl _ 0 rfl M2 _ (at_mid (B12_26.out.below hw') 0 _ (by simp)) Tryd.underlying35 rfl M2_h.il
  try simp only [List.getElem_toArray, List.getElem_cons_zero, List.getElem_cons_succ, Act.put, List.setIfInBounds_toArray, List.set_cons_zero, List.set_cons_succ]
  refine m_first 11 _ (vD) rfl rfl (by kernel_rfl) (by kernel_rfl) (by kernel_rfl) ?_ ?_
  · refine Or.inl ⟨by rfl, fun w' hw' => ?_⟩
    unfold Oper.quietAt
    go_simp
  try simp only [List.getElem_toArray, List.getElem_cons_zero, List.getElem_cons_succ, Act.put, List.setIfInBounds_toArray, List.set_cons_zero, List.set_cons_succ]
  refine m_call 9 _ (fun v w => Pm w v (A.add B)) Lr _ lr_nil (fun v => pm_steady v (A.add B)) rfl rfl (by kernel_rfl) (by kernel_rfl) (by kernel_rfl) (by rfl) ?_ (fun v hv => ?_)
  · intro w' hw' hf
    refine ⟨_, _, by go_simp, (Q23.out _ _ _ _ (Pu_26.out.below hw') (Pv_26.out.below hw') (ND_26.out.below hw')).mono ?_⟩
    rintro e w'' ⟨u, rfl, hu, gu⟩
    exact ⟨u, rfl, lr_pm hu, hu, gu⟩
  obtain ⟨M7, rfl, M7_h, M7_n⟩ := hv
  try simp only [List.getElem_toArray, List.getElem_cons_zero, List.getElem_cons_succ, Act.put, List.setIfInBounds_toArray, List.set_cons_zero, List.set_cons_succ]
  refine m_call 12 _ (fun v w => Pm w v ((A.add B).add (A.add A))) Lr _ lr_nil (fun v => pm_steady v ((A.add B).add (A.add A))) rfl rfl (by kernel_rfl) (by kernel_rfl) (by kernel_rfl) (by rfl) ?_ (fun v hv => ?_)
  · intro w' hw' hf
    refine ⟨_, _, by go_simp, (Q24.out _ _ _ _ hf.2 (P2_26.out.below hw') (ND_26.out.below hw')).mono ?_⟩
    rintro e w'' ⟨u, rfl, hu, gu⟩
    exact ⟨u, rfl, lr_pm hu, hu, gu⟩
  obtain ⟨M9, rfl, M9_h, M9_n⟩ := hv
  try simp only [List.getElem_toArray, List.getElem_cons_zero, List.getElem_cons_succ, Act.put, List.setIfInBounds_toArray, List.set_cons_zero, List.set_cons_succ]
  refine mAny_of_gAny (st := (fun k => if k = 15 then some (13, .cells s2.toArray 30) else if k = 16 then some (14, .cells M9.toArray 35) else none)) (two_if Bare _ _ _ _ (bare_of _ _ nl_points) (bare_of _ _ nl_nils)) (two_if_pair Bare _ _ _ _ _ _ (bare_of _ _ s2_n) (bare_of _ _ M9_n)) _ _ _ _ (fun k g old h => by simp at h) ?_
  refine g_make 13 _ (.cells #[.int .u64 0, .int .u64 0, .int .u64 0, .int .u64 0, .int .u64 0, .int .u64 0, .int .u64 0, .int .u64 0, .int .u64 0, .int .u64 0, .int .u64 0, .int .u64 0, .int .u64 0, .int .u64 0, .int .u64 0, .int .u64 0, .int .u64 0, .int .u64 0, .int .u64 0, .int .u64 0] 30) (fun k => (decide (13 ≤ k ∧ k ≤ 14)) || (decide (15 ≤ k ∧ k ≤ 16) && k != 15)) rfl rfl rfl rfl ?_ ?_ (by kernel_rfl) (by kernel_rfl) (by kernel_rfl) (by kernel_rfl) (fun g15 => ?_)
  · intro a w
    go_simp
  · intro j hj
    simp only [Bool.or_eq_true, Bool.and_eq_true, decide_eq_true_eq, bne_iff_ne] at hj
    rcases hj with hj | ⟨hj, hne⟩
    · left
      rcases (show j = 13 ∨ j = 14 by omega) with rfl | rfl <;> simp
    · right
      rcases (show j = 15 ∨ j = 16 by omega) with rfl | rfl <;> first | exact ⟨_, _, rfl, by decide⟩ | omega
  try simp only [List.getElem_toArray, List.getElem_cons_zero, List.getElem_cons_succ, Act.put, List.setIfInBounds_toArray, List.set_cons_zero, List.set_cons_succ]
  refine g_make 14 _ (.cells #[.slice none 0 0, .slice none 0 0, .slice none 0 0, .bool false] 35) (fun k => (decide (13 ≤ k ∧ k ≤ 14)) || (decide (15 ≤ k ∧ k ≤ 16) && k != 16)) rfl rfl rfl rfl ?_ ?_ (by kernel_rfl) (by kernel_rfl) (by kernel_rfl) (by kernel_rfl) (fun g16 => ?_)
  · intro a w
    go_simp
  · intro j hj
    simp only [Bool.or_eq_true, Bool.and_eq_true, decide_eq_true_eq, bne_iff_ne] at hj
    rcases hj with hj | ⟨hj, hne⟩
    · left
      rcases (show j = 13 ∨ j = 14 by omega) with rfl | rfl <;> simp
    · right
      rcases (show j = 15 ∨ j = 16 by omega) with rfl | rfl <;> first | exact ⟨_, _, rfl, by decide⟩ | omega
  try simp only [List.getElem_toArray, List.getElem_cons_zero, List.getElem_cons_succ, Act.put, List.setIfInBounds_toArray, List.set_cons_zero, List.set_cons_succ]
  refine g_store 15 13 _ (.cells s2.toArray 30) g15 (.cells #[.int .u64 0, .int .u64 0, .int .u64 0, .int .u64 0, .int .u64 0, .int .u64 0, .int .u64 0, .int .u64 0, .int .u64 0, .int .u64 0, .int .u64 0, .int .u64 0, .int .u64 0, .int .u64 0, .int .u64 0, .int .u64 0, .int .u64 0, .int .u64 0, .int .u64 0, .int .u64 0] 30) (fun k => decide (15 ≤ k ∧ k ≤ 16) && k != 15) rfl rfl rfl rfl ?_ (by kernel_rfl) (by kernel_rfl) (by kernel_rfl) (by kernel_rfl) (by simp [upd]) ?_ ?_
  · intro j hj
    simp only [Bool.and_eq_true, decide_eq_true_eq, bne_iff_ne] at hj
    rcases (show j = 15 ∨ j = 16 by omega) with rfl | rfl <;> first | exact ⟨_, _, rfl, by decide⟩ | omega
  · exact stores_whole 30 _ _ rfl g15 s2 [.int .u64 0, .int .u64 0, .int .u64 0, .int .u64 0, .int .u64 0, .int .u64 0, .int .u64 0, .int .u64 0, .int .u64 0, .int .u64 0, .int .u64 0, .int .u64 0, .int .u64 0, .int .u64 0, .int .u64 0, .int .u64 0, .int .u64 0, .int .u64 0, .int .u64 0, .int .u64 0] rfl rfl s2_h.len s2_h.is s2_h.one
  try simp only [List.getElem_toArray, List.getElem_cons_zero, List.getElem_cons_succ, Act.put, List.setIfInBounds_toArray, List.set_cons_zero, List.set_cons_succ]
  refine g_store 16 14 _ (.cells M9.toArray 35) g16 (.cells #[.slice none 0 0, .slice none 0 0, .slice none 0 0, .bool false] 35) (fun k => decide (15 ≤ k ∧ k ≤ 16) && k != 16) rfl rfl rfl rfl ?_ (by kernel_rfl) (by kernel_rfl) (by kernel_rfl) (by kernel_rfl) (by simp [upd]) ?_ ?_
  · intro j hj
    simp only [Bool.and_eq_true, decide_eq_true_eq, bne_iff_ne] at hj
    rcases (show j = 15 ∨ j = 16 by omega) with rfl | rfl <;> first | exact ⟨_, _, rfl, by decide⟩ | omega
  · exact stores_whole 35 _ _ rfl g16 M9 [.slice none 0 0, .slice none 0 0, .slice none 0 0, .bool false] rfl rfl M9_h.len M9_h.is M9_h.one
  try simp only [List.getElem_toArray, List.getElem_cons_zero, List.getElem_cons_succ, Act.put, List.setIfInBounds_toArray, List.set_cons_zero, List.set_cons_succ]
  refine ⟨by kernel_rfl, fun w27 hV hf => ?_⟩
  have own15 := hV.own 13 _ (by simp [upd]; rfl)
  have B15_27 : Hid (At 30 w27 g15 s2) := own15.2.2
  have szB15 : w.heap.size ≤ g15 := by have h1 := own15.1; have h2 := G_26.out.size; dsimp only at h1; omega
  have nlB5B15 : w3.heap.size < g15 := by have h1 := own15.1; have h2 := B5_26.out.lt; dsimp only at h1; omega
  have nlB7B15 : w5.heap.size < g15 := by have h1 := own15.1; have h2 := B7_26.out.lt; dsimp only at h1; omega
  have nlB10B15 : w9.heap.size < g15 := by have h1 := own15.1; have h2 := B10_26.out.lt; dsimp only at h1; omega
  have nlB11B15 : (w9.heap.size + 1) < g15 := by have h1 := own15.1; have h2 := B11_26.out.lt; dsimp only at h1; omega
  have nlB12B15 : w11.heap.size < g15 := by have h1 := own15.1; have h2 := B12_26.out.lt; dsimp only at h1; omega
  have nlB14B15 : w15.heap.size < g15 := by have h1 := own15.1; have h2 := B14_26.out.lt; dsimp only at h1; omega
  have own16 := hV.own 14 _ (by simp [upd]; rfl)
  have B16_27 : Hid (At 35 w27 g16 M9) := own16.2.2
  have szB16 : w.heap.size ≤ g16 := by have h1 := own16.1; have h2 := G_26.out.size; dsimp only at h1; omega
  have nlB5B16 : w3.heap.size < g16 := by have h1 := own16.1; have h2 := B5_26.out.lt; dsimp only at h1; omega
  have nlB7B16 : w5.heap.size < g16 := by have h1 := own16.1; have h2 := B7_26.out.lt; dsimp only at h1; omega
  have nlB10B16 : w9.heap.size < g16 := by have h1 := own16.1; have h2 := B10_26.out.lt; dsimp only at h1; omega
  have nlB11B16 : (w9.heap.size + 1) < g16 := by have h1 := own16.1; have h2 := B11_26.out.lt; dsimp only at h1; omega
  have nlB12B16 : w11.heap.size < g16 := by have h1 := own16.1; have h2 := B12_26.out.lt; dsimp only at h1; omega
  have nlB14B16 : w15.heap.size < g16 := by have h1 := own16.1; have h2 := B14_26.out.lt; dsimp only at h1; omega
  have P7_27 : Hid (Pm w27 (.agg M7.toArray) (A.add B)) := hf.1.2
  have P9_27 : Hid (Pm w27 (.agg M9.toArray) ((A.add B).add (A.add A))) := hf.2
  have g := hV.bel
  have B5_27 := hid (B5_26.out.below g)
  have B7_27 := hid (B7_26.out.below g)
  have B10_27 := hid (B10_26.out.below g)
  have B11_27 := hid (B11_26.out.below g)
  have B12_27 := hid (B12_26.out.below g)
  have B14_27 := hid (B14_26.out.below g)
  have ND_27 := hid (ND_26.out.below g)
  have Pu_27 := hid (Pu_26.out.below g)
  have Pv_27 := hid (Pv_26.out.below g)
  have P2_27 := hid (P2_26.out.below g)
  have P8_27 := hid (P8_26.out.below g)
  have E_27 := hid (E_26.out.grown g)
  have G_27 := hid (G_26.out.trans (g.mono G_26.out.size))
  clear hV hf g own15 own16 B5_26 B7_26 B10_26 B11_26 B12_26 B14_26 ND_26 Pu_26 Pv_26 P2_26 P8_26 E_26 G_26
  go_wp2_with fail
  have E_27' := hid (E_27.out.grown (Below.refl _ w27).drew)
  have ND_27' := hid (ND_27.out.below (Below.refl _ w27).drew)
  have Pu_27' := hid (Pu_27.out.below (Below.refl _ w27).drew)
  have Pv_27' := hid (Pv_27.out.below (Below.refl _ w27).drew)
  have P2_27' := hid (P2_27.out.below (Below.refl _ w27).drew)
  have P8_27' := hid (P8_27.out.below (Below.refl _ w27).drew)
  have P7_27' := hid (P7_27.out.below (Below.refl _ w27).drew)
  have P9_27' := hid (P9_27.out.below (Below.refl _ w27).drew)
  have K27 : At 30 w27.drew g15 s2 ∧ At 35 w27.drew g16 M9 ∧ At 30 w27.drew w3.heap.size pa ∧ At 35 w27.drew w15.heap.size M8 ∧ At 30 w27.drew w5.heap.size pb ∧ At 35 w27.drew w9.heap.size Mu ∧ At 35 w27.drew (w9.heap.size + 1) Mv := And.intro B15_27.out.drew (And.intro B16_27.out.drew (And.intro B5_27.out.drew (And.intro B14_27.out.drew (And.intro B7_27.out.drew (And.intro B10_27.out.drew (B11_27.out.drew))))))
  refine wp_region_held_drew (S := fun w' => At 30 w' g15 s2 ∧ At 35 w' g16 M9 ∧ At 30 w' w3.heap.size pa ∧ At 35 w' w15.heap.size M8 ∧ At 30 w' w5.heap.size pb ∧ At 35 w' w9.heap.size Mu ∧ At 35 w' (w9.heap.size + 1) Mv) (by kernel_rfl) K27 (fun hHeld => ?_)
  clear K27
  refine h_take 0 (v := .agg s2.toArray) rfl (by kernel_rfl) (by kernel_rfl) (by kernel_rfl) (fun _ _ _ h => h) (by rfl) ?hyr15_0 (by assumption) ?_
  case hyr15_0 =>
    intro w' hSw
    exact load_run 30 _ rfl _ 0 rfl s2 _ (at_mid hSw.1 0 _ (by simp)) Tryd.underlying30 rfl s2_h.il
  try simp only [Act.put, List.setIfInBounds_toArray, List.set_cons_zero, List.set_cons_succ]
  refine h_take 1 (v := .agg M9.toArray) rfl (by kernel_rfl) (by kernel_rfl) (by kernel_rfl) (fun _ _ _ h => h) (by rfl) ?hyr15_1 (by assumption) ?_
  case hyr15_1 =>
    intro w' hSw
    exact load_run 35 _ rfl _ 0 rfl M9 _ (at_mid hSw.2.1 0 _ (by simp)) Tryd.underlying35 rfl M9_h.il
  try simp only [Act.put, List.setIfInBounds_toArray, List.set_cons_zero, List.set_cons_succ]
  refine h_call 2 rfl (by kernel_rfl) (by rfl) (fun Kk hK => ?_)
  go_simp
  (refine (Q25.out _ _ P9_27'.out).mono ?_)
  rintro e w28 ⟨rfl, g0⟩
  have g : Below w27.heap.size w27 w28 := (Below.refl _ w27).drew.trans g0
  clear g0
  have B5_28 := hid (B5_27.out.below g)
  have B7_28 := hid (B7_27.out.below g)
  have B10_28 := hid (B10_27.out.below g)
  have B11_28 := hid (B11_27.out.below g)
  have B12_28 := hid (B12_27.out.below g)
  have B14_28 := hid (B14_27.out.below g)
  have B15_28 := hid (B15_27.out.below g)
  have B16_28 := hid (B16_27.out.below g)
  have ND_28 := hid (ND_27.out.below g)
  have Pu_28 := hid (Pu_27.out.below g)
  have Pv_28 := hid (Pv_27.out.below g)
  have P2_28 := hid (P2_27.out.below g)
  have P8_28 := hid (P8_27.out.below g)
  have P7_28 := hid (P7_27.out.below g)
  have P9_28 := hid (P9_27.out.below g)
  have E_28 := hid (E_27.out.grown g)
  have G_28 := hid (G_27.out.trans (g.mono G_27.out.size))
  clear g B5_27 B7_27 B10_27 B11_27 B12_27 B14_27 B15_27 B16_27 ND_27 Pu_27 Pv_27 P2_27 P8_27 P7_27 P9_27 E_27 G_27
  clear ND_27' Pu_27' Pv_27' P2_27' P8_27' P7_27' P9_27' E_27'
  have K28 := And.intro B15_28.out (And.intro B16_28.out (And.intro B5_28.out (And.intro B14_28.out (And.intro B7_28.out (And.intro B10_28.out (B11_28.out))))))
  go_wp2_with fail
  clear hHeld
  refine hK.out _ _ K28 (fun hHeld => ?_)
  clear hK Kk K28
  try simp only [Act.put, List.setIfInBounds_toArray, List.set_cons_zero, List.set_cons_succ]
  refine h_take 3 (v := .bool true) rfl (by kernel_rfl) (by kernel_rfl) (by kernel_rfl) (fun _ _ _ h => h) (by rfl) ?hyr15_3 (by assumption) ?_
  case hyr15_3 =>
    intro w' hSw
    clear hSw
    go_simp
  try simp only [Act.put, List.setIfInBounds_toArray, List.set_cons_zero, List.set_cons_succ]
  refine h_take 4 (v := .agg s2.toArray) rfl (by kernel_rfl) (by kernel_rfl) (by kernel_rfl) (fun _ _ _ h => h) (by rfl) ?hyr15_4 (by assumption) ?_
  case hyr15_4 =>
    intro w' hSw
    exact load_run 30 _ rfl _ 0 rfl s2 _ (at_mid hSw.1 0 _ (by simp)) Tryd.underlying30 rfl s2_h.il
  try simp only [Act.put, List.setIfInBounds_toArray, List.set_cons_zero, List.set_cons_succ]
  refine h_take 6 (v := .agg M9.toArray) rfl (by kernel_rfl) (by kernel_rfl) (by kernel_rfl) (fun _ _ _ h => h) (by rfl) ?hyr15_6 (by assumption) ?_
  case hyr15_6 =>
    intro w' hSw
    exact load_run 35 _ rfl _ 0 rfl M9 _ (at_mid hSw.2.1 0 _ (by simp)) Tryd.underlying35 rfl M9_h.il
  try simp only [Act.put, List.setIfInBounds_toArray, List.set_cons_zero, List.set_cons_succ]
  refine h_take 7 (v := .agg M9.toArray) rfl (by kernel_rfl) (by kernel_rfl) (by kernel_rfl) (fun _ _ _ h => h) (by rfl) ?hyr15_7 (by assumption) ?_
  case hyr15_7 =>
    intro w' hSw
    exact load_run 35 _ rfl _ 0 rfl M9 _ (at_mid hSw.2.1 0 _ (by simp)) Tryd.underlying35 rfl M9_h.il
  try simp only [Act.put, List.setIfInBounds_toArray, List.set_cons_zero, List.set_cons_succ]
  refine h_take 8 (v := vD) rfl (by kernel_rfl) (by kernel_rfl) (by kernel_rfl) (fun _ _ _ h => h) (by rfl) ?hyr15_8 (by assumption) ?_
  case hyr15_8 =>
    intro w' hSw
    clear hSw
    go_simp
  try simp only [Act.put, List.setIfInBounds_toArray, List.set_cons_zero, List.set_cons_succ]
  refine h_call 5 rfl (by kernel_rfl) (by rfl) (fun Kk hK => ?_)
  go_simp
  (refine (Q26.out _ E_28.out).mono ?_)
  rintro e w29 ⟨rfl, g0⟩
  have g := g0
  clear g0
  have B5_29 := hid (B5_28.out.below g)
  have B7_29 := hid (B7_28.out.below g)
  have B10_29 := hid (B10_28.out.below g)
  have B11_29 := hid (B11_28.out.below g)
  have B12_29 := hid (B12_28.out.below g)
  have B14_29 := hid (B14_28.out.below g)
  have B15_29 := hid (B15_28.out.below g)
  have B16_29 := hid (B16_28.out.below g)
  have ND_29 := hid (ND_28.out.below g)
  have Pu_29 := hid (Pu_28.out.below g)
  have Pv_29 := hid (Pv_28.out.below g)
  have P2_29 := hid (P2_28.out.below g)
  have P8_29 := hid (P8_28.out.below g)
  have P7_29 := hid (P7_28.out.below g)
  have P9_29 := hid (P9_28.out.below g)
  have E_29 := hid (E_28.out.grown g)
  have G_29 := hid (G_28.out.trans (g.mono G_28.out.size))
  clear g B5_28 B7_28 B10_28 B11_28 B12_28 B14_28 B15_28 B16_28 ND_28 Pu_28 Pv_28 P2_28 P8_28 P7_28 P9_28 E_28 G_28
  have K29 := And.intro B15_29.out (And.intro B16_29.out (And.intro B5_29.out (And.intro B14_29.out (And.intro B7_29.out (And.intro B10_29.out (B11_29.out))))))
  go_wp2_with fail
  clear hHeld
  refine hK.out _ _ K29 (fun hHeld => ?_)
  clear hK Kk K29
  try simp only [Act.put, List.setIfInBounds_toArray, List.set_cons_zero, List.set_cons_succ]
  refine h_call 9 rfl (by kernel_rfl) (by rfl) (fun Kk hK => ?_)
  go_simp
  (refine (Q27.out _ _ _ _ P9_29.out P9_29.out ND_29.out).mono ?_)
  rintro e w30 ⟨uu, rfl, hu, g0⟩
  have g := g0
  clear g0
  have B5_30 := hid (B5_29.out.below g)
  have B7_30 := hid (B7_29.out.below g)
  have B10_30 := hid (B10_29.out.below g)
  have B11_30 := hid (B11_29.out.below g)
  have B12_30 := hid (B12_29.out.below g)
  have B14_30 := hid (B14_29.out.below g)
  have B15_30 := hid (B15_29.out.below g)
  have B16_30 := hid (B16_29.out.below g)
  have ND_30 := hid (ND_29.out.below g)
  have Pu_30 := hid (Pu_29.out.below g)
  have Pv_30 := hid (Pv_29.out.below g)
  have P2_30 := hid (P2_29.out.below g)
  have P8_30 := hid (P8_29.out.below g)
  have P7_30 := hid (P7_29.out.below g)
  have P9_30 := hid (P9_29.out.below g)
  have E_30 := hid (E_29.out.grown g)
  have G_30 := hid (G_29.out.trans (g.mono G_29.out.size))
  clear g B5_29 B7_29 B10_29 B11_29 B12_29 B14_29 B15_29 B16_29 ND_29 Pu_29 Pv_29 P2_29 P8_29 P7_29 P9_29 E_29 G_29
  obtain ⟨MA, rfl, MA_h, MA_3, MA_i⟩ := pm_list hu
  have PA_30 : Hid (Pm w30 (.agg MA.toArray) (((A.add B).add (A.add A)).add ((A.add B).add (A.add A)))) := hu
  clear hu
  have K30 := And.intro B15_30.out (And.intro B16_30.out (And.intro B5_30.out (And.intro B14_30.out (And.intro B7_30.out (And.intro B10_30.out (B11_30.out))))))
  go_wp2_with fail
  clear hHeld
  refine hK.out _ _ K30 (fun hHeld => ?_)
  clear hK Kk K30
  try simp only [Act.put, List.setIfInBounds_toArray, List.set_cons_zero, List.set_cons_succ]
  refine h_call 10 rfl (by kernel_rfl) (by rfl) (fun Kk hK => ?_)
  go_simp
  (refine (Q28.out _ _ PA_30.out).mono ?_)
  rintro e w31 ⟨rfl, g0⟩
  have g := g0
  clear g0
  have B5_31 := hid (B5_30.out.below g)
  have B7_31 := hid (B7_30.out.below g)
  have B10_31 := hid (B10_30.out.below g)
  have B11_31 := hid (B11_30.out.below g)
  have B12_31 := hid (B12_30.out.below g)
  have B14_31 := hid (B14_30.out.below g)
  have B15_31 := hid (B15_30.out.below g)
  have B16_31 := hid (B16_30.out.below g)
  have ND_31 := hid (ND_30.out.below g)
  have Pu_31 := hid (Pu_30.out.below g)
  have Pv_31 := hid (Pv_30.out.below g)
  have P2_31 := hid (P2_30.out.below g)
  have P8_31 := hid (P8_30.out.below g)
  have P7_31 := hid (P7_30.out.below g)
  have P9_31 := hid (P9_30.out.below g)
  have PA_31 := hid (PA_30.out.below g)
  have E_31 := hid (E_30.out.grown g)
  have G_31 := hid (G_30.out.trans (g.mono G_30.out.size))
  clear g B5_30 B7_30 B10_30 B11_30 B12_30 B14_30 B15_30 B16_30 ND_30 Pu_30 Pv_30 P2_30 P8_30 P7_30 P9_30 PA_30 E_30 G_30
  have K31 := And.intro B15_31.out (And.intro B16_31.out (And.intro B5_31.out (And.intro B14_31.out (And.intro B7_31.out (And.intro B10_31.out (B11_31.out))))))
  go_wp2_with fail
  clear hHeld
  refine hK.out _ _ K31 (fun hHeld => ?_)
  clear hK Kk K31
  try simp only [Act.put, List.setIfInBounds_toArray, List.set_cons_zero, List.set_cons_succ]
  refine h_take 11 (v := .bool true) rfl (by kernel_rfl) (by kernel_rfl) (by kernel_rfl) (fun _ _ _ h => h) (by rfl) ?hyr15_11 (by assumption) ?_
  case hyr15_11 =>
    intro w' hSw
    clear hSw
    go_simp
  try simp only [Act.put, List.setIfInBounds_toArray, List.set_cons_zero, List.set_cons_succ]
  refine h_take 12 (v := .bool true) rfl (by kernel_rfl) (by kernel_rfl) (by kernel_rfl) (fun _ _ _ h => h) (by rfl) ?hyr15_12 (by assumption) ?_
  case hyr15_12 =>
    intro w' hSw
    clear hSw
    go_simp
  try simp only [Act.put, List.setIfInBounds_toArray, List.set_cons_zero, List.set_cons_succ]
  refine h_take 13 (v := .agg pa.toArray) rfl (by kernel_rfl) (by kernel_rfl) (by kernel_rfl) (fun _ _ _ h => h) (by rfl) ?hyr15_13 (by assumption) ?_
  case hyr15_13 =>
    intro w' hSw
    exact load_run 30 _ rfl _ 0 rfl pa _ (at_mid hSw.2.2.1 0 _ (by simp)) Tryd.underlying30 rfl pa_h.il
  try simp only [Act.put, List.setIfInBounds_toArray, List.set_cons_zero, List.set_cons_succ]
  refine h_take 15 (v := .agg M8.toArray) rfl (by kernel_rfl) (by kernel_rfl) (by kernel_rfl) (fun _ _ _ h => h) (by rfl) ?hyr15_15 (by assumption) ?_
  case hyr15_15 =>
    intro w' hSw
    exact load_run 35 _ rfl _ 0 rfl M8 _ (at_mid hSw.2.2.2.1 0 _ (by simp)) Tryd.underlying35 rfl M8_h.il
  try simp only [Act.put, List.setIfInBounds_toArray, List.set_cons_zero, List.set_cons_succ]
  refine h_call 14 rfl (by kernel_rfl) (by rfl) (fun Kk hK => ?_)
  go_simp
  (refine (Q29.out _ E_31.out).mono ?_)
  rintro e w32 ⟨rfl, g0⟩
  have g := g0
  clear g0
  have B5_32 := hid (B5_31.out.below g)
  have B7_32 := hid (B7_31.out.below g)
  have B10_32 := hid (B10_31.out.below g)
  have B11_32 := hid (B11_31.out.below g)
  have B12_32 := hid (B12_31.out.below g)
  have B14_32 := hid (B14_31.out.below g)
  have B15_32 := hid (B15_31.out.below g)
  have B16_32 := hid (B16_31.out.below g)
  have ND_32 := hid (ND_31.out.below g)
  have Pu_32 := hid (Pu_31.out.below g)
  have Pv_32 := hid (Pv_31.out.below g)
  have P2_32 := hid (P2_31.out.below g)
  have P8_32 := hid (P8_31.out.below g)
  have P7_32 := hid (P7_31.out.below g)
  have P9_32 := hid (P9_31.out.below g)
  have PA_32 := hid (PA_31.out.below g)
  have E_32 := hid (E_31.out.grown g)
  have G_32 := hid (G_31.out.trans (g.mono G_31.out.size))
  clear g B5_31 B7_31 B10_31 B11_31 B12_31 B14_31 B15_31 B16_31 ND_31 Pu_31 Pv_31 P2_31 P8_31 P7_31 P9_31 PA_31 E_31 G_31
  have K32 := And.intro B15_32.out (And.intro B16_32.out (And.intro B5_32.out (And.intro B14_32.out (And.intro B7_32.out (And.intro B10_32.out (B11_32.out))))))
  go_wp2_with fail
  clear hHeld
  refine hK.out _ _ K32 (fun hHeld => ?_)
  clear hK Kk K32
  try simp only [Act.put, List.setIfInBounds_toArray, List.set_cons_zero, List.set_cons_succ]
  refine h_call 16 rfl (by kernel_rfl) (by rfl) (fun Kk hK => ?_)
  go_simp
  (refine (Q30.out _).mono ?_)
  rintro e w33 ⟨uu, rfl, hu, g0⟩
  have g := g0
  clear g0
  have B5_33 := hid (B5_32.out.below g)
  have B7_33 := hid (B7_32.out.below g)
  have B10_33 := hid (B10_32.out.below g)
  have B11_33 := hid (B11_32.out.below g)
  have B12_33 := hid (B12_32.out.below g)
  have B14_33 := hid (B14_32.out.below g)
  have B15_33 := hid (B15_32.out.below g)
  have B16_33 := hid (B16_32.out.below g)
  have ND_33 := hid (ND_32.out.below g)
  have Pu_33 := hid (Pu_32.out.below g)
  have Pv_33 := hid (Pv_32.out.below g)
  have P2_33 := hid (P2_32.out.below g)
  have P8_33 := hid (P8_32.out.below g)
  have P7_33 := hid (P7_32.out.below g)
  have P9_33 := hid (P9_32.out.below g)
  have PA_33 := hid (PA_32.out.below g)
  have E_33 := hid (E_32.out.grown g)
  have G_33 := hid (G_32.out.trans (g.mono G_32.out.size))
  clear g B5_32 B7_32 B10_32 B11_32 B12_32 B14_32 B15_32 B16_32 ND_32 Pu_32 Pv_32 P2_32 P8_32 P7_32 P9_32 PA_32 E_32 G_32
  obtain ⟨MB, rfl, MB_h, MB_3, MB_i⟩ := pm_list hu
  have PB_33 : Hid (Pm w33 (.agg MB.toArray) Pt.zero) := hu
  clear hu
  have K33 := And.intro B15_33.out (And.intro B16_33.out (And.intro B5_33.out (And.intro B14_33.out (And.intro B7_33.out (And.intro B10_33.out (B11_33.out))))))
  go_wp2_with fail
  clear hHeld
  refine hK.out _ _ K33 (fun hHeld => ?_)
  clear hK Kk K33
  try simp only [Act.put, List.setIfInBounds_toArray, List.set_cons_zero, List.set_cons_succ]
  refine h_call 17 rfl (by kernel_rfl) (by rfl) (fun Kk hK => ?_)
  go_simp
  (refine (Q31.out _ _ _ P8_33.out PB_33.out).mono ?_)
  rintro e w34 ⟨rfl, g0⟩
  have g := g0
  clear g0
  have B5_34 := hid (B5_33.out.below g)
  have B7_34 := hid (B7_33.out.below g)
  have B10_34 := hid (B10_33.out.below g)
  have B11_34 := hid (B11_33.out.below g)
  have B12_34 := hid (B12_33.out.below g)
  have B14_34 := hid (B14_33.out.below g)
  have B15_34 := hid (B15_33.out.below g)
  have B16_34 := hid (B16_33.out.below g)
  have ND_34 := hid (ND_33.out.below g)
  have Pu_34 := hid (Pu_33.out.below g)
  have Pv_34 := hid (Pv_33.out.below g)
  have P2_34 := hid (P2_33.out.below g)
  have P8_34 := hid (P8_33.out.below g)
  have P7_34 := hid (P7_33.out.below g)
  have P9_34 := hid (P9_33.out.below g)
  have PA_34 := hid (PA_33.out.below g)
  have PB_34 := hid (PB_33.out.below g)
  have E_34 := hid (E_33.out.grown g)
  have G_34 := hid (G_33.out.trans (g.mono G_33.out.size))
  clear g B5_33 B7_33 B10_33 B11_33 B12_33 B14_33 B15_33 B16_33 ND_33 Pu_33 Pv_33 P2_33 P8_33 P7_33 P9_33 PA_33 PB_33 E_33 G_33
  have K34 := And.intro B15_34.out (And.intro B16_34.out (And.intro B5_34.out (And.intro B14_34.out (And.intro B7_34.out (And.intro B10_34.out (B11_34.out))))))
  go_wp2_with fail
  clear hHeld
  refine hK.out _ _ K34 (fun hHeld => ?_)
  clear hK Kk K34
  try simp only [Act.put, List.setIfInBounds_toArray, List.set_cons_zero, List.set_cons_succ]
  refine h_take 18 (v := .bool true) rfl (by kernel_rfl) (by kernel_rfl) (by kernel_rfl) (fun _ _ _ h => h) (by rfl) ?hyr15_18 (by assumption) ?_
  case hyr15_18 =>
    intro w' hSw
    clear hSw
    go_simp
  try simp only [Act.put, List.setIfInBounds_toArray, List.set_cons_zero, List.set_cons_succ]
  refine h_take 19 (v := .bool true) rfl (by kernel_rfl) (by kernel_rfl) (by kernel_rfl) (fun _ _ _ h => h) (by rfl) ?hyr15_19 (by assumption) ?_
  case hyr15_19 =>
    intro w' hSw
    clear hSw
    go_simp
  try simp only [Act.put, List.setIfInBounds_toArray, List.set_cons_zero, List.set_cons_succ]
  refine h_take 20 (v := .bool true) rfl (by kernel_rfl) (by kernel_rfl) (by kernel_rfl) (fun _ _ _ h => h) (by rfl) ?hyr15_20 (by assumption) ?_
  case hyr15_20 =>
    intro w' hSw
    clear hSw
    go_simp
  try simp only [Act.put, List.setIfInBounds_toArray, List.set_cons_zero, List.set_cons_succ]
  refine h_take 21 (v := .agg pa.toArray) rfl (by kernel_rfl) (by kernel_rfl) (by kernel_rfl) (fun _ _ _ h => h) (by rfl) ?hyr15_21 (by assumption) ?_
  case hyr15_21 =>
    intro w' hSw
    exact load_run 30 _ rfl _ 0 rfl pa _ (at_mid hSw.2.2.1 0 _ (by simp)) Tryd.underlying30 rfl pa_h.il
  try simp only [Act.put, List.setIfInBounds_toArray, List.set_cons_zero, List.set_cons_succ]
  refine h_take 22 (v := .agg pb.toArray) rfl (by kernel_rfl) (by kernel_rfl) (by kernel_rfl) (fun _ _ _ h => h) (by rfl) ?hyr15_22 (by assumption) ?_
  case hyr15_22 =>
    intro w' hSw
    exact load_run 30 _ rfl _ 0 rfl pb _ (at_mid hSw.2.2.2.2.1 0 _ (by simp)) Tryd.underlying30 rfl pb_h.il
  try simp only [Act.put, List.setIfInBounds_toArray, List.set_cons_zero, List.set_cons_succ]
  refine h_take 24 (v := .agg Mu.toArray) rfl (by kernel_rfl) (by kernel_rfl) (by kernel_rfl) (fun _ _ _ h => h) (by rfl) ?hyr15_24 (by assumption) ?_
  case hyr15_24 =>
    intro w' hSw
    exact load_run 35 _ rfl _ 0 rfl Mu _ (at_mid hSw.2.2.2.2.2.1 0 _ (by simp)) Tryd.underlying35 rfl Mu_h.il
  try simp only [Act.put, List.setIfInBounds_toArray, List.set_cons_zero, List.set_cons_succ]
  refine h_take 25 (v := .agg Mv.toArray) rfl (by kernel_rfl) (by kernel_rfl) (by kernel_rfl) (fun _ _ _ h => h) (by rfl) ?hyr15_25 (by assumption) ?_
  case hyr15_25 =>
    intro w' hSw
    exact load_run 35 _ rfl _ 0 rfl Mv _ (at_mid hSw.2.2.2.2.2.2 0 _ (by simp)) Tryd.underlying35 rfl Mv_h.il
  try simp only [Act.put, List.setIfInBounds_toArray, List.set_cons_zero, List.set_cons_succ]
  refine h_call 23 rfl (by kernel_rfl) (by rfl) (fun Kk hK => ?_)
  go_simp
  (refine (Q32.out _).mono ?_)
  rintro e w35 ⟨rfl, g0⟩
  have g := g0
  clear g0
  have B5_35 := hid (B5_34.out.below g)
  have B7_35 := hid (B7_34.out.below g)
  have B10_35 := hid (B10_34.out.below g)
  have B11_35 := hid (B11_34.out.below g)
  have B12_35 := hid (B12_34.out.below g)
  have B14_35 := hid (B14_34.out.below g)
  have B15_35 := hid (B15_34.out.below g)
  have B16_35 := hid (B16_34.out.below g)
  have ND_35 := hid (ND_34.out.below g)
  have Pu_35 := hid (Pu_34.out.below g)
  have Pv_35 := hid (Pv_34.out.below g)
  have P2_35 := hid (P2_34.out.below g)
  have P8_35 := hid (P8_34.out.below g)
  have P7_35 := hid (P7_34.out.below g)
  have P9_35 := hid (P9_34.out.below g)
  have PA_35 := hid (PA_34.out.below g)
  have PB_35 := hid (PB_34.out.below g)
  have E_35 := hid (E_34.out.grown g)
  have G_35 := hid (G_34.out.trans (g.mono G_34.out.size))
  clear g B5_34 B7_34 B10_34 B11_34 B12_34 B14_34 B15_34 B16_34 ND_34 Pu_34 Pv_34 P2_34 P8_34 P7_34 P9_34 PA_34 PB_34 E_34 G_34
  have K35 := And.intro B15_35.out (And.intro B16_35.out (And.intro B5_35.out (And.intro B14_35.out (And.intro B7_35.out (And.intro B10_35.out (B11_35.out))))))
  go_wp2_with fail
  clear hHeld
  refine hK.out _ _ K35 (fun hHeld => ?_)
  clear hK Kk K35
  try simp only [Act.put, List.setIfInBounds_toArray, List.set_cons_zero, List.set_cons_succ]
  refine h_call 26 rfl (by kernel_rfl) (by rfl) (fun Kk hK => ?_)
  go_simp
  (refine (Q33.out _ _ _ Pu_35.out Pv_35.out).mono ?_)
  rintro e w36 ⟨rfl, g0⟩
  have g := g0
  clear g0
  have B5_36 := hid (B5_35.out.below g)
  have B7_36 := hid (B7_35.out.below g)
  have B10_36 := hid (B10_35.out.below g)
  have B11_36 := hid (B11_35.out.below g)
  have B12_36 := hid (B12_35.out.below g)
  have B14_36 := hid (B14_35.out.below g)
  have B15_36 := hid (B15_35.out.below g)
  have B16_36 := hid (B16_35.out.below g)
  have ND_36 := hid (ND_35.out.below g)
  have Pu_36 := hid (Pu_35.out.below g)
  have Pv_36 := hid (Pv_35.out.below g)
  have P2_36 := hid (P2_35.out.below g)
  have P8_36 := hid (P8_35.out.below g)
  have P7_36 := hid (P7_35.out.below g)
  have P9_36 := hid (P9_35.out.below g)
  have PA_36 := hid (PA_35.out.below g)
  have PB_36 := hid (PB_35.out.below g)
  have E_36 := hid (E_35.out.grown g)
  have G_36 := hid (G_35.out.trans (g.mono G_35.out.size))
  clear g B5_35 B7_35 B10_35 B11_35 B12_35 B14_35 B15_35 B16_35 ND_35 Pu_35 Pv_35 P2_35 P8_35 P7_35 P9_35 PA_35 PB_35 E_35 G_35
  have K36 := And.intro B15_36.out (And.intro B16_36.out (And.intro B5_36.out (And.intro B14_36.out (And.intro B7_36.out (And.intro B10_36.out (B11_36.out))))))
  go_wp2_with fail
  clear hHeld
  refine hK.out _ _ K36 (fun hHeld => ?_)
  clear hK Kk K36
  try simp only [Act.put, List.setIfInBounds_toArray, List.set_cons_zero, List.set_cons_succ]
  refine h_take 27 (v := .bool true) rfl (by kernel_rfl) (by kernel_rfl) (by kernel_rfl) (fun _ _ _ h => h) (by rfl) ?hyr15_27 (by assumption) ?_
  case hyr15_27 =>
    intro w' hSw
    clear hSw
    go_simp
  try simp only [Act.put, List.setIfInBounds_toArray, List.set_cons_zero, List.set_cons_succ]
  refine h_take 28 (v := .bool true) rfl (by kernel_rfl) (by kernel_rfl) (by kernel_rfl) (fun _ _ _ h => h) (by rfl) ?hyr15_28 (by assumption) ?_
  case hyr15_28 =>
    intro w' hSw
    clear hSw
    go_simp
  try simp only [Act.put, List.setIfInBounds_toArray, List.set_cons_zero, List.set_cons_succ]
  refine h_take 29 (v := .bool true) rfl (by kernel_rfl) (by kernel_rfl) (by kernel_rfl) (fun _ _ _ h => h) (by rfl) ?hyr15_29 (by assumption) ?_
  case hyr15_29 =>
    intro w' hSw
    clear hSw
    go_simp
  try simp only [Act.put, List.setIfInBounds_toArray, List.set_cons_zero, List.set_cons_succ]
  refine h_call 30 rfl (by kernel_rfl) (by rfl) (fun Kk hK => ?_)
  go_simp
  (refine (Q34.out _).mono ?_)
  rintro e w37 ⟨rfl, g0⟩
  have g := g0
  clear g0
  have B5_37 := hid (B5_36.out.below g)
  have B7_37 := hid (B7_36.out.below g)
  have B10_37 := hid (B10_36.out.below g)
  have B11_37 := hid (B11_36.out.below g)
  have B12_37 := hid (B12_36.out.below g)
  have B14_37 := hid (B14_36.out.below g)
  have B15_37 := hid (B15_36.out.below g)
  have B16_37 := hid (B16_36.out.below g)
  have ND_37 := hid (ND_36.out.below g)
  have Pu_37 := hid (Pu_36.out.below g)
  have Pv_37 := hid (Pv_36.out.below g)
  have P2_37 := hid (P2_36.out.below g)
  have P8_37 := hid (P8_36.out.below g)
  have P7_37 := hid (P7_36.out.below g)
  have P9_37 := hid (P9_36.out.below g)
  have PA_37 := hid (PA_36.out.below g)
  have PB_37 := hid (PB_36.out.below g)
  have E_37 := hid (E_36.out.grown g)
  have G_37 := hid (G_36.out.trans (g.mono G_36.out.size))
  clear g B5_36 B7_36 B10_36 B11_36 B12_36 B14_36 B15_36 B16_36 ND_36 Pu_36 Pv_36 P2_36 P8_36 P7_36 P9_36 PA_36 PB_36 E_36 G_36
  have K37 := And.intro B15_37.out (And.intro B16_37.out (And.intro B5_37.out (And.intro B14_37.out (And.intro B7_37.out (And.intro B10_37.out (B11_37.out))))))
  go_wp2_with fail
  clear hHeld
  refine hK.out _ _ K37 (fun hHeld => ?_)
  clear hK Kk K37
  try simp only [Act.put, List.setIfInBounds_toArray, List.set_cons_zero, List.set_cons_succ]
  refine h_call 31 rfl (by kernel_rfl) (by rfl) (fun Kk hK => ?_)
  go_simp
  (refine (Q35.out _).mono ?_)
  rintro e w38 ⟨uu, rfl, hu, g0⟩
  have g := g0
  clear g0
  have B5_38 := hid (B5_37.out.below g)
  have B7_38 := hid (B7_37.out.below g)
  have B10_38 := hid (B10_37.out.below g)
  have B11_38 := hid (B11_37.out.below g)
  have B12_38 := hid (B12_37.out.below g)
  have B14_38 := hid (B14_37.out.below g)
  have B15_38 := hid (B15_37.out.below g)
  have B16_38 := hid (B16_37.out.below g)
  have ND_38 := hid (ND_37.out.below g)
  have Pu_38 := hid (Pu_37.out.below g)
  have Pv_38 := hid (Pv_37.out.below g)
  have P2_38 := hid (P2_37.out.below g)
  have P8_38 := hid (P8_37.out.below g)
  have P7_38 := hid (P7_37.out.below g)
  have P9_38 := hid (P9_37.out.below g)
  have PA_38 := hid (PA_37.out.below g)
  have PB_38 := hid (PB_37.out.below g)
  have E_38 := hid (E_37.out.grown g)
  have G_38 := hid (G_37.out.trans (g.mono G_37.out.size))
  clear g B5_37 B7_37 B10_37 B11_37 B12_37 B14_37 B15_37 B16_37 ND_37 Pu_37 Pv_37 P2_37 P8_37 P7_37 P9_37 PA_37 PB_37 E_37 G_37
  obtain ⟨MC, rfl, MC_h, MC_3, MC_i⟩ := pm_list hu
  have PC_38 : Hid (Pm w38 (.agg MC.toArray) Pt.zero) := hu
  clear hu
  have K38 := And.intro B15_38.out (And.intro B16_38.out (And.intro B5_38.out (And.intro B14_38.out (And.intro B7_38.out (And.intro B10_38.out (B11_38.out))))))
  go_wp2_with fail
  clear hHeld
  refine hK.out _ _ K38 (fun hHeld => ?_)
  clear hK Kk K38
  try simp only [Act.put, List.setIfInBounds_toArray, List.set_cons_zero, List.set_cons_succ]
  refine h_call 32 rfl (by kernel_rfl) (by rfl) (fun Kk hK => ?_)
  go_simp
  (refine (Q36.out _ _ PC_38.out).mono ?_)
  rintro e w39 ⟨rfl, g0⟩
  have g := g0
  clear g0
  have B5_39 := hid (B5_38.out.below g)
  have B7_39 := hid (B7_38.out.below g)
  have B10_39 := hid (B10_38.out.below g)
  have B11_39 := hid (B11_38.out.below g)
  have B12_39 := hid (B12_38.out.below g)
  have B14_39 := hid (B14_38.out.below g)
  have B15_39 := hid (B15_38.out.below g)
  have B16_39 := hid (B16_38.out.below g)
  have ND_39 := hid (ND_38.out.below g)
  have Pu_39 := hid (Pu_38.out.below g)
  have Pv_39 := hid (Pv_38.out.below g)
  have P2_39 := hid (P2_38.out.below g)
  have P8_39 := hid (P8_38.out.below g)
  have P7_39 := hid (P7_38.out.below g)
  have P9_39 := hid (P9_38.out.below g)
  have PA_39 := hid (PA_38.out.below g)
  have PB_39 := hid (PB_38.out.below g)
  have PC_39 := hid (PC_38.out.below g)
  have E_39 := hid (E_38.out.grown g)
  have G_39 := hid (G_38.out.trans (g.mono G_38.out.size))
  clear g B5_38 B7_38 B10_38 B11_38 B12_38 B14_38 B15_38 B16_38 ND_38 Pu_38 Pv_38 P2_38 P8_38 P7_38 P9_38 PA_38 PB_38 PC_38 E_38 G_38
  have K39 := And.intro B15_39.out (And.intro B16_39.out (And.intro B5_39.out (And.intro B14_39.out (And.intro B7_39.out (And.intro B10_39.out (B11_39.out))))))
  go_wp2_with fail
  clear hHeld
  refine hK.out _ _ K39 (fun hHeld => ?_)
  clear hK Kk K39
  try simp only [Act.put, List.setIfInBounds_toArray, List.set_cons_zero, List.set_cons_succ]
  refine h_take 33 (v := .bool true) rfl (by kernel_rfl) (by kernel_rfl) (by kernel_rfl) (fun _ _ _ h => h) (by rfl) ?hyr15_33 (by assumption) ?_
  case hyr15_33 =>
    intro w' hSw
    clear hSw
    go_simp
  try simp only [Act.put, List.setIfInBounds_toArray, List.set_cons_zero, List.set_cons_succ]
  refine h_take 34 (v := .bool true) rfl (by kernel_rfl) (by kernel_rfl) (by kernel_rfl) (fun _ _ _ h => h) (by rfl) ?hyr15_34 (by assumption) ?_
  case hyr15_34 =>
    intro w' hSw
    clear hSw
    go_simp
  try simp only [Act.put, List.setIfInBounds_toArray, List.set_cons_zero, List.set_cons_succ]
  refine h_call 35 rfl (by kernel_rfl) (by rfl) (fun Kk hK => ?_)
  go_simp
  (refine (Q37.out _ E_39.out).mono ?_)
  rintro e w40 ⟨rfl, g0⟩
  have g := g0
  clear g0
  have B5_40 := hid (B5_39.out.below g)
  have B7_40 := hid (B7_39.out.below g)
  have B10_40 := hid (B10_39.out.below g)
  have B11_40 := hid (B11_39.out.below g)
  have B12_40 := hid (B12_39.out.below g)
  have B14_40 := hid (B14_39.out.below g)
  have B15_40 := hid (B15_39.out.below g)
  have B16_40 := hid (B16_39.out.below g)
  have ND_40 := hid (ND_39.out.below g)
  have Pu_40 := hid (Pu_39.out.below g)
  have Pv_40 := hid (Pv_39.out.below g)
  have P2_40 := hid (P2_39.out.below g)
  have P8_40 := hid (P8_39.out.below g)
  have P7_40 := hid (P7_39.out.below g)
  have P9_40 := hid (P9_39.out.below g)
  have PA_40 := hid (PA_39.out.below g)
  have PB_40 := hid (PB_39.out.below g)
  have PC_40 := hid (PC_39.out.below g)
  have E_40 := hid (E_39.out.grown g)
  have G_40 := hid (G_39.out.trans (g.mono G_39.out.size))
  clear g B5_39 B7_39 B10_39 B11_39 B12_39 B14_39 B15_39 B16_39 ND_39 Pu_39 Pv_39 P2_39 P8_39 P7_39 P9_39 PA_39 PB_39 PC_39 E_39 G_39
  have K40 := And.intro B15_40.out (And.intro B16_40.out (And.intro B5_40.out (And.intro B14_40.out (And.intro B7_40.out (And.intro B10_40.out (B11_40.out))))))
  go_wp2_with fail
  clear hHeld
  refine hK.out _ _ K40 (fun hHeld => ?_)
  clear hK Kk K40
  try simp only [Act.put, List.setIfInBounds_toArray, List.set_cons_zero, List.set_cons_succ]
  refine h_call 36 rfl (by kernel_rfl) (by rfl) (fun Kk hK => ?_)
  go_simp
  (refine (Q38.out _).mono ?_)
  rintro e w41 ⟨uu, rfl, hu, g0⟩
  have g := g0
  clear g0
  have B5_41 := hid (B5_40.out.below g)
  have B7_41 := hid (B7_40.out.below g)
  have B10_41 := hid (B10_40.out.below g)
  have B11_41 := hid (B11_40.out.below g)
  have B12_41 := hid (B12_40.out.below g)
  have B14_41 := hid (B14_40.out.below g)
  have B15_41 := hid (B15_40.out.below g)
  have B16_41 := hid (B16_40.out.below g)
  have ND_41 := hid (ND_40.out.below g)
  have Pu_41 := hid (Pu_40.out.below g)
  have Pv_41 := hid (Pv_40.out.below g)
  have P2_41 := hid (P2_40.out.below g)
  have P8_41 := hid (P8_40.out.below g)
  have P7_41 := hid (P7_40.out.below g)
  have P9_41 := hid (P9_40.out.below g)
  have PA_41 := hid (PA_40.out.below g)
  have PB_41 := hid (PB_40.out.below g)
  have PC_41 := hid (PC_40.out.below g)
  have E_41 := hid (E_40.out.grown g)
  have G_41 := hid (G_40.out.trans (g.mono G_40.out.size))
  clear g B5_40 B7_40 B10_40 B11_40 B12_40 B14_40 B15_40 B16_40 ND_40 Pu_40 Pv_40 P2_40 P8_40 P7_40 P9_40 PA_40 PB_40 PC_40 E_40 G_40
  obtain ⟨ME, rfl, ME_h, ME_3, ME_i⟩ := pm_list hu
  have PE_41 : Hid (Pm w41 (.agg ME.toArray) baseP) := hu
  clear hu
  have K41 := And.intro B15_41.out (And.intro B16_41.out (And.intro B5_41.out (And.intro B14_41.out (And.intro B7_41.out (And.intro B10_41.out (B11_41.out))))))
  go_wp2_with fail
  clear hHeld
  refine hK.out _ _ K41 (fun hHeld => ?_)
  clear hK Kk K41
  try simp only [Act.put, List.setIfInBounds_toArray, List.set_cons_zero, List.set_cons_succ]
  refine h_call 37 rfl (by kernel_rfl) (by rfl) (fun Kk hK => ?_)
  go_simp
  (refine (Q39.out _ _ PE_41.out).mono ?_)
  rintro e w42 ⟨rfl, g0⟩
  have g := g0
  clear g0
  have B5_42 := hid (B5_41.out.below g)
  have B7_42 := hid (B7_41.out.below g)
  have B10_42 := hid (B10_41.out.below g)
  have B11_42 := hid (B11_41.out.below g)
  have B12_42 := hid (B12_41.out.below g)
  have B14_42 := hid (B14_41.out.below g)
  have B15_42 := hid (B15_41.out.below g)
  have B16_42 := hid (B16_41.out.below g)
  have ND_42 := hid (ND_41.out.below g)
  have Pu_42 := hid (Pu_41.out.below g)
  have Pv_42 := hid (Pv_41.out.below g)
  have P2_42 := hid (P2_41.out.below g)
  have P8_42 := hid (P8_41.out.below g)
  have P7_42 := hid (P7_41.out.below g)
  have P9_42 := hid (P9_41.out.below g)
  have PA_42 := hid (PA_41.out.below g)
  have PB_42 := hid (PB_41.out.below g)
  have PC_42 := hid (PC_41.out.below g)
  have PE_42 := hid (PE_41.out.below g)
  have E_42 := hid (E_41.out.grown g)
  have G_42 := hid (G_41.out.trans (g.mono G_41.out.size))
  clear g B5_41 B7_41 B10_41 B11_41 B12_41 B14_41 B15_41 B16_41 ND_41 Pu_41 Pv_41 P2_41 P8_41 P7_41 P9_41 PA_41 PB_41 PC_41 PE_41 E_41 G_41
  have K42 := And.intro B15_42.out (And.intro B16_42.out (And.intro B5_42.out (And.intro B14_42.out (And.intro B7_42.out (And.intro B10_42.out (B11_42.out))))))
  go_wp2_with fail
  clear hHeld
  refine hK.out _ _ K42 (fun hHeld => ?_)
  clear hK Kk K42
  try simp only [Act.put, List.setIfInBounds_toArray, List.set_cons_zero, List.set_cons_succ]
  refine h_take 38 (v := .bool true) rfl (by kernel_rfl) (by kernel_rfl) (by kernel_rfl) (fun _ _ _ h => h) (by rfl) ?hyr15_38 (by assumption) ?_
  case hyr15_38 =>
    intro w' hSw
    clear hSw
    go_simp
  try simp only [Act.put, List.setIfInBounds_toArray, List.set_cons_zero, List.set_cons_succ]
  refine h_take 39 (v := .bool true) rfl (by kernel_rfl) (by kernel_rfl) (by kernel_rfl) (fun _ _ _ h => h) (by rfl) ?hyr15_39 (by assumption) ?_
  case hyr15_39 =>
    intro w' hSw
    clear hSw
    go_simp
  try simp only [Act.put, List.setIfInBounds_toArray, List.set_cons_zero, List.set_cons_succ]
  refine wpAnyH_done (by kernel_rfl) ?_ _
  clear hHeld
  go_wp2_with fail
  go_ret
  exact ⟨rfl, G_42.out⟩
end Go.Proofs.YtkbiiolkekpkiaaDoor.Ed
