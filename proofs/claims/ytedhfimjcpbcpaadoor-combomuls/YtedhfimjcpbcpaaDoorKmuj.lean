/-
  The law ComboMuls of layer 11: the walk, given what each call answers. Conditions: as each theorem says.
-/
import Derived.Test.YtedhfimjcpbcpaaDoorKmui
import Derived.Test.YtedhfimjcpbcpaaDoorKmue
import Derived.Test.YtedhfimjcpbcpaaDoorKmuh
import Derived.Test.YtedhfimjcpbcpaaDoorKmuc
namespace Go.Proofs.YtedhfimjcpbcpaaDoor.Ed
open Go.RowKit
set_option linter.unusedVariables false
set_option linter.unusedSimpArgs false

theorem eq4_any (a0 a1 a2 a3 : Int) (w : World) :
    (Op.equalIn 10000 25 (.agg #[.int .u64 a0, .int .u64 a1, .int .u64 a2, .int .u64 a3]) (.agg #[.int .u64 a0, .int .u64 a1, .int .u64 a2, .int .u64 a3])).run Tryd.prog w = .ok true w := by
  rw [show (10000 : Nat) = 9998 + 1 + 1 from rfl]
  unfold Op.equalIn
  have r : List.range' 0 4 = [0, 1, 2, 3] := rfl
  simp only [Sem.run_bind, run_underlying Tryd.underlying25, Result.andThen_ok]
  simp [go_sem, r]
set_option maxRecDepth 100000 in
set_option maxHeartbeats 16000000 in
theorem muls_no_w (ka p : List Value) (ka_h : Wl ka) (p_h : Pl p) (a0 : Option Addr) (n0 c0 : Nat) (la : List Nat)
    (Q1 : Hid (∀ w : World, Env w → Calls Tryd.prog 6 #[] w fun e w' => e = .returned (.bool true) ∧ Below w.heap.size w w'))
    (Q2 : Hid (∀ (v : Value) (w : World), SK .u8 w v la → Env w → Calls Tryd.prog 7 #[v] w fun e w' => e = .returned (.tuple #[.agg p.toArray, .bool false]) ∧ Below w.heap.size w w'))
    (w : World) (Sa_0 : Hid (SK .u8 w (.slice a0 n0 c0) la)) (E_0 : Hid (Env w)) :
    Calls Tryd.prog 3 #[.slice a0 n0 c0, .agg ka.toArray] w fun e w' => e = .returned (.bool true) ∧ Below w.heap.size w w' := by
  go_enter Tryd.func3, Tryd.ntmps3
  go_upto_region 1 with fail
  have HE := E_0.out.lt
  refine wp_cut (fun V => At 25 V w.heap.size ka ∧ SK .u8 V (.slice a0 n0 c0) la ∧ Env V ∧ Below w.heap.size w V) ⟨?_, ?_, ?_, ?_⟩ ?_
  · (repeat (first | refine At.drew ?_ | refine At.drewN ?_ _ | (refine at_new2 _ _ _ _ ?_; simp; done) | refine at_alloc ?_ _))
  · refine Sa_0.out.below ?_
    (repeat (first | exact Below.refl _ _ | refine Below.drew ?_ | refine below_drewN ?_ _ | refine Below.alloc ?_ (by simp <;> omega) _))
  · refine E_0.out.grown ?_
    (repeat (first | exact Below.refl _ _ | refine Below.drew ?_ | refine below_drewN ?_ _ | refine Below.alloc ?_ (by simp <;> omega) _))
  · (repeat (first | exact Below.refl _ _ | refine Below.drew ?_ | refine below_drewN ?_ _ | refine Below.alloc ?_ (by simp <;> omega) _))
  rintro w1 ⟨k0, k1, k2, k3⟩
  have B3_1 := hid k0
  have Sa_1 := hid k1
  have E_1 := hid k2
  have G_1 := hid k3
  clear k0 k1 k2 k3 Sa_0 E_0
  go_wp2_with (fail)
  refine (Q1.out _ E_1.out).mono ?_
  rintro e w2 ⟨rfl, g0⟩
  have g := g0
  clear g0
  have B3_2 := hid (B3_1.out.below g)
  have Sa_2 := hid (Sa_1.out.below g)
  have E_2 := hid (E_1.out.grown g)
  have G_2 := hid (G_1.out.trans (g.mono G_1.out.size))
  clear g B3_1 Sa_1 E_1 G_1
  go_wp2_with (fail)
  refine (Q2.out _ _ Sa_2.out E_2.out).mono ?_
  rintro e w3 ⟨rfl, g0⟩
  have g := g0
  clear g0
  have B3_3 := hid (B3_2.out.below g)
  have Sa_3 := hid (Sa_2.out.below g)
  have E_3 := hid (E_2.out.grown g)
  have G_3 := hid (G_2.out.trans (g.mono G_2.out.size))
  clear g B3_2 Sa_2 E_2 G_2
  have szB5 : w.heap.size ≤ w3.heap.size := G_3.out.size
  have nlB3B5 : w.heap.size < w3.heap.size := B3_3.out.lt
  go_wp2_with (first | (refine list_store_new rfl 32 _ _ rfl w3 p [.int .u64 0, .int .u64 0, .int .u64 0, .int .u64 0, .int .u64 0, .int .u64 0, .int .u64 0, .int .u64 0, .int .u64 0, .int .u64 0, .int .u64 0, .int .u64 0, .int .u64 0, .int .u64 0, .int .u64 0, .int .u64 0, .int .u64 0, .int .u64 0, .int .u64 0, .int .u64 0] rfl rfl p_h.len p_h.is p_h.one (fun w4 hC g => ?_)) | fail)
  have B5_4 := hid hC
  have B3_4 := hid (B3_3.out.below g)
  have Sa_4 := hid (Sa_3.out.below g)
  have E_4 := hid (E_3.out.grown g)
  have G_4 := hid (G_3.out.trans (g.mono G_3.out.size))
  clear hC g B3_3 Sa_3 E_3 G_3
  go_wp2_with fail
  go_ret
  exact ⟨rfl, G_4.out⟩
set_option maxRecDepth 100000 in
set_option maxHeartbeats 16000000 in
theorem muls_yes_w (ka p m : List Value) (ka_h : Wl ka) (p_h : Pl p) (m_h : Pl m) (a0 : Option Addr) (n0 c0 : Nat) (la : List Nat) (P PM : Pt) (K : Nat) (ls : List Nat)
    (Q1 : Hid (∀ w : World, Env w → Calls Tryd.prog 6 #[] w fun e w' => e = .returned (.bool true) ∧ Below w.heap.size w w'))
    (Q2 : Hid (∀ (v : Value) (w : World), SK .u8 w v la → Env w → Calls Tryd.prog 7 #[v] w fun e w' => e = .returned (.tuple #[.agg p.toArray, .bool true]) ∧ Below w.heap.size w w'))
    (Q3 : Hid (∀ (v : Value) (w : World), SK .u8 w v la → Calls Tryd.prog 8 #[v] w fun e w' => ∃ u, e = .returned u ∧ Pm w' u P ∧ Below w.heap.size w w'))
    (Q4 : Hid (∀ w : World, Env w → Calls Tryd.prog 9 #[.agg ka.toArray, .agg p.toArray] w fun e w' => e = .returned (.agg m.toArray) ∧ Below w.heap.size w w'))
    (Q5 : Hid (∀ w : World, Calls Tryd.prog 11 #[.agg m.toArray] w fun e w' => ∃ g, e = .returned (.slice (some ⟨g, 0, none⟩) 32 32) ∧ SK .u8 w' (.slice (some ⟨g, 0, none⟩) 32 32) ls ∧ w.heap.size ≤ g ∧ Below w.heap.size w w'))
    (Q6 : Hid (∀ w : World, Calls Tryd.prog 14 #[.agg ka.toArray] w fun e w' => ∃ v, e = .returned v ∧ Num w' v K ∧ Below w.heap.size w w'))
    (Q7 : Hid (∀ (v v' : Value) (w : World), Num w v K → Pm w v' P → Calls Tryd.prog 13 #[v, v'] w fun e w' => ∃ u, e = .returned u ∧ Pm w' u PM ∧ Below w.heap.size w w'))
    (Q8 : Hid (∀ (v : Value) (w : World), Pm w v PM → Calls Tryd.prog 12 #[v] w fun e w' => ∃ u, e = .returned u ∧ SK .u8 w' u ls ∧ Below w.heap.size w w'))
    (Q9 : Hid (∀ (v v' : Value) (w : World), SK .u8 w v ls → SK .u8 w v' ls → Calls Tryd.prog 10 #[v, v'] w fun e w' => e = .returned (.bool true) ∧ Below w.heap.size w w'))
    (Q10 : Hid (∀ w : World, Calls Tryd.prog 15 #[] w fun e w' => e = .returned (.agg #[.int .u64 6346243789798364141, .int .u64 1503914060200516822, .int .u64 0, .int .u64 1152921504606846976]) ∧ Below w.heap.size w w'))
    (Q11 : Hid (∀ w : World, Calls Tryd.prog 17 #[] w fun e w' => ∃ v, e = .returned v ∧ Num w' v L25 ∧ Below w.heap.size w w'))
    (Q12 : Hid (∀ (v : Value) (w : World), Num w v L25 → Calls Tryd.prog 16 #[v] w fun e w' => e = .returned (.agg #[.int .u64 6346243789798364141, .int .u64 1503914060200516822, .int .u64 0, .int .u64 1152921504606846976]) ∧ Below w.heap.size w w'))
    (Q13 : Hid (∀ w : World, Env w → Calls Tryd.prog 9 #[.agg ka.toArray, .agg p.toArray] w fun e w' => e = .returned (.agg m.toArray) ∧ Below w.heap.size w w'))
    (Q14 : Hid (∀ w : World, Calls Tryd.prog 18 #[.agg m.toArray, .agg m.toArray] w fun e w' => e = .returned (.bool true) ∧ Below w.heap.size w w'))
    (w : World) (Sa_0 : Hid (SK .u8 w (.slice a0 n0 c0) la)) (E_0 : Hid (Env w)) :
    Calls Tryd.prog 3 #[.slice a0 n0 c0, .agg ka.toArray] w fun e w' => e = .returned (.bool true) ∧ Below w.heap.size w w' := by
  go_enter Tryd.func3, Tryd.ntmps3
  go_upto_region 1 with fail
  have HE := E_0.out.lt
  refine wp_cut (fun V => At 25 V w.heap.size ka ∧ SK .u8 V (.slice a0 n0 c0) la ∧ Env V ∧ Below w.heap.size w V) ⟨?_, ?_, ?_, ?_⟩ ?_
  · (repeat (first | refine At.drew ?_ | refine At.drewN ?_ _ | (refine at_new2 _ _ _ _ ?_; simp; done) | refine at_alloc ?_ _))
  · refine Sa_0.out.below ?_
    (repeat (first | exact Below.refl _ _ | refine Below.drew ?_ | refine below_drewN ?_ _ | refine Below.alloc ?_ (by simp <;> omega) _))
  · refine E_0.out.grown ?_
    (repeat (first | exact Below.refl _ _ | refine Below.drew ?_ | refine below_drewN ?_ _ | refine Below.alloc ?_ (by simp <;> omega) _))
  · (repeat (first | exact Below.refl _ _ | refine Below.drew ?_ | refine below_drewN ?_ _ | refine Below.alloc ?_ (by simp <;> omega) _))
  rintro w1 ⟨k0, k1, k2, k3⟩
  have B3_1 := hid k0
  have Sa_1 := hid k1
  have E_1 := hid k2
  have G_1 := hid k3
  clear k0 k1 k2 k3 Sa_0 E_0
  go_wp2_with (fail)
  refine (Q1.out _ E_1.out).mono ?_
  rintro e w2 ⟨rfl, g0⟩
  have g := g0
  clear g0
  have B3_2 := hid (B3_1.out.below g)
  have Sa_2 := hid (Sa_1.out.below g)
  have E_2 := hid (E_1.out.grown g)
  have G_2 := hid (G_1.out.trans (g.mono G_1.out.size))
  clear g B3_1 Sa_1 E_1 G_1
  go_wp2_with (fail)
  refine (Q2.out _ _ Sa_2.out E_2.out).mono ?_
  rintro e w3 ⟨rfl, g0⟩
  have g := g0
  clear g0
  have B3_3 := hid (B3_2.out.below g)
  have Sa_3 := hid (Sa_2.out.below g)
  have E_3 := hid (E_2.out.grown g)
  have G_3 := hid (G_2.out.trans (g.mono G_2.out.size))
  clear g B3_2 Sa_2 E_2 G_2
  have szB5 : w.heap.size ≤ w3.heap.size := G_3.out.size
  have nlB3B5 : w.heap.size < w3.heap.size := B3_3.out.lt
  go_wp2_with (first | (refine list_store_new rfl 32 _ _ rfl w3 p [.int .u64 0, .int .u64 0, .int .u64 0, .int .u64 0, .int .u64 0, .int .u64 0, .int .u64 0, .int .u64 0, .int .u64 0, .int .u64 0, .int .u64 0, .int .u64 0, .int .u64 0, .int .u64 0, .int .u64 0, .int .u64 0, .int .u64 0, .int .u64 0, .int .u64 0, .int .u64 0] rfl rfl p_h.len p_h.is p_h.one (fun w4 hC g => ?_)) | fail)
  have B5_4 := hid hC
  have B3_4 := hid (B3_3.out.below g)
  have Sa_4 := hid (Sa_3.out.below g)
  have E_4 := hid (E_3.out.grown g)
  have G_4 := hid (G_3.out.trans (g.mono G_3.out.size))
  clear hC g B3_3 Sa_3 E_3 G_3
  go_wp2_with (fail)
  refine (Q3.out _ _ Sa_4.out).mono ?_
  rintro e w5 ⟨uu, rfl, hu, g0⟩
  have g := g0
  clear g0
  have B3_5 := hid (B3_4.out.below g)
  have B5_5 := hid (B5_4.out.below g)
  have Sa_5 := hid (Sa_4.out.below g)
  have E_5 := hid (E_4.out.grown g)
  have G_5 := hid (G_4.out.trans (g.mono G_4.out.size))
  clear g B3_4 B5_4 Sa_4 E_4 G_4
  obtain ⟨Mq, rfl, Mq_h, Mq_3, Mq_i⟩ := pm_list hu
  have Pq_5 : Hid (Pm w5 (.agg Mq.toArray) P) := hu
  clear hu
  have szB7 : w.heap.size ≤ w5.heap.size := G_5.out.size
  have nlB3B7 : w.heap.size < w5.heap.size := B3_5.out.lt
  have nlB5B7 : w3.heap.size < w5.heap.size := B5_5.out.lt
  go_wp2_with (first | (refine list_store_new rfl 37 _ _ rfl w5 Mq [.slice none 0 0, .slice none 0 0, .slice none 0 0, .bool false] rfl rfl Mq_h.len Mq_h.is Mq_h.one (fun w6 hC g => ?_)) | (refine wpList_load_mid rfl 25 _ rfl w.heap.size 0 rfl ka _ (at_mid (B3_5.out.below g) 0 _ (by simp)) Tryd.underlying25 rfl ka_h.il ?_) | (refine wpList_load_mid rfl 32 _ rfl w3.heap.size 0 rfl p _ (at_mid (B5_5.out.below g) 0 _ (by simp)) Tryd.underlying32 rfl p_h.il ?_) | fail)
  have B7_6 := hid hC
  have B3_6 := hid (B3_5.out.below g)
  have B5_6 := hid (B5_5.out.below g)
  have Sa_6 := hid (Sa_5.out.below g)
  have Pq_6 := hid (Pq_5.out.below g)
  have E_6 := hid (E_5.out.grown g)
  have G_6 := hid (G_5.out.trans (g.mono G_5.out.size))
  clear hC g B3_5 B5_5 Sa_5 Pq_5 E_5 G_5
  clear Sa_6
  refine (Q4.out _ E_6.out).mono ?_
  rintro e w7 ⟨rfl, g0⟩
  have g := g0
  clear g0
  have B3_7 := hid (B3_6.out.below g)
  have B5_7 := hid (B5_6.out.below g)
  have B7_7 := hid (B7_6.out.below g)
  have Pq_7 := hid (Pq_6.out.below g)
  have E_7 := hid (E_6.out.grown g)
  have G_7 := hid (G_6.out.trans (g.mono G_6.out.size))
  clear g B3_6 B5_6 B7_6 Pq_6 E_6 G_6
  have szB8 : w.heap.size ≤ w7.heap.size := G_7.out.size
  have nlB3B8 : w.heap.size < w7.heap.size := B3_7.out.lt
  have nlB5B8 : w3.heap.size < w7.heap.size := B5_7.out.lt
  have nlB7B8 : w5.heap.size < w7.heap.size := B7_7.out.lt
  go_wp2_with (first | (refine list_store_new rfl 32 _ _ rfl w7 m [.int .u64 0, .int .u64 0, .int .u64 0, .int .u64 0, .int .u64 0, .int .u64 0, .int .u64 0, .int .u64 0, .int .u64 0, .int .u64 0, .int .u64 0, .int .u64 0, .int .u64 0, .int .u64 0, .int .u64 0, .int .u64 0, .int .u64 0, .int .u64 0, .int .u64 0, .int .u64 0] rfl rfl m_h.len m_h.is m_h.one (fun w8 hC g => ?_)) | fail)
  have B8_8 := hid hC
  have B3_8 := hid (B3_7.out.below g)
  have B5_8 := hid (B5_7.out.below g)
  have B7_8 := hid (B7_7.out.below g)
  have Pq_8 := hid (Pq_7.out.below g)
  have E_8 := hid (E_7.out.grown g)
  have G_8 := hid (G_7.out.trans (g.mono G_7.out.size))
  clear hC g B3_7 B5_7 B7_7 Pq_7 E_7 G_7
  have hE4 := fun w => eq4_any 6346243789798364141 1503914060200516822 0 1152921504606846976 w
  go_wp2_with fail
  have E_8' := hid (E_8.out.grown (Below.refl _ w8).drew)
  have Pq_8' := hid (Pq_8.out.below (Below.refl _ w8).drew)
  have K8 : At 32 w8.drew w7.heap.size m ∧ At 25 w8.drew w.heap.size ka ∧ At 37 w8.drew w5.heap.size Mq ∧ At 32 w8.drew w3.heap.size p := And.intro B8_8.out.drew (And.intro B3_8.out.drew (And.intro B7_8.out.drew (B5_8.out.drew)))
  refine wp_region_held_drew (S := fun w' => At 32 w' w7.heap.size m ∧ At 25 w' w.heap.size ka ∧ At 37 w' w5.heap.size Mq ∧ At 32 w' w3.heap.size p) (by kernel_rfl) K8 (fun hHeld => ?_)
  clear K8
  refine h_take 0 (v := .agg m.toArray) rfl (by kernel_rfl) (by kernel_rfl) (by kernel_rfl) (fun _ _ _ h => h) (by rfl) ?hyr8_0 (by assumption) ?_
  case hyr8_0 =>
    intro w' hSw
    exact load_run 32 _ rfl _ 0 rfl m _ (at_mid hSw.1 0 _ (by simp)) Tryd.underlying32 rfl m_h.il
  try simp only [Act.put, List.setIfInBounds_toArray, List.set_cons_zero, List.set_cons_succ]
  refine h_take 2 (v := .agg ka.toArray) rfl (by kernel_rfl) (by kernel_rfl) (by kernel_rfl) (fun _ _ _ h => h) (by rfl) ?hyr8_2 (by assumption) ?_
  case hyr8_2 =>
    intro w' hSw
    exact load_run 25 _ rfl _ 0 rfl ka _ (at_mid hSw.2.1 0 _ (by simp)) Tryd.underlying25 rfl ka_h.il
  try simp only [Act.put, List.setIfInBounds_toArray, List.set_cons_zero, List.set_cons_succ]
  refine h_take 4 (v := .agg Mq.toArray) rfl (by kernel_rfl) (by kernel_rfl) (by kernel_rfl) (fun _ _ _ h => h) (by rfl) ?hyr8_4 (by assumption) ?_
  case hyr8_4 =>
    intro w' hSw
    exact load_run 37 _ rfl _ 0 rfl Mq _ (at_mid hSw.2.2.1 0 _ (by simp)) Tryd.underlying37 rfl Mq_h.il
  try simp only [Act.put, List.setIfInBounds_toArray, List.set_cons_zero, List.set_cons_succ]
  refine h_call 1 rfl (by kernel_rfl) (by rfl) (fun Kk hK => ?_)
  go_simp
  (refine (Q5.out _).mono ?_)
  rintro e w9 ⟨g1, rfl, hs1, -, g0⟩
  have g : Below w8.heap.size w8 w9 := (Below.refl _ w8).drew.trans g0
  clear g0
  have B3_9 := hid (B3_8.out.below g)
  have B5_9 := hid (B5_8.out.below g)
  have B7_9 := hid (B7_8.out.below g)
  have B8_9 := hid (B8_8.out.below g)
  have Pq_9 := hid (Pq_8.out.below g)
  have E_9 := hid (E_8.out.grown g)
  have G_9 := hid (G_8.out.trans (g.mono G_8.out.size))
  clear g B3_8 B5_8 B7_8 B8_8 Pq_8 E_8 G_8
  clear Pq_8' E_8'
  have S1_9 : Hid (SK .u8 w9 (.slice (some ⟨g1, 0, none⟩) 32 32) ls) := hs1
  clear hs1
  have K9 := And.intro B8_9.out (And.intro B3_9.out (And.intro B7_9.out (B5_9.out)))
  go_wp2_with fail
  clear hHeld
  refine hK.out _ _ K9 (fun hHeld => ?_)
  clear hK Kk K9
  try simp only [Act.put, List.setIfInBounds_toArray, List.set_cons_zero, List.set_cons_succ]
  refine h_call 3 rfl (by kernel_rfl) (by rfl) (fun Kk hK => ?_)
  go_simp
  (refine (Q6.out _).mono ?_)
  rintro e w10 ⟨vk, rfl, hnk, g0⟩
  have g := g0
  clear g0
  have B3_10 := hid (B3_9.out.below g)
  have B5_10 := hid (B5_9.out.below g)
  have B7_10 := hid (B7_9.out.below g)
  have B8_10 := hid (B8_9.out.below g)
  have Pq_10 := hid (Pq_9.out.below g)
  have S1_10 := hid (S1_9.out.below g)
  have E_10 := hid (E_9.out.grown g)
  have G_10 := hid (G_9.out.trans (g.mono G_9.out.size))
  clear g B3_9 B5_9 B7_9 B8_9 Pq_9 S1_9 E_9 G_9
  obtain ⟨uk, lk, ck, rfl⟩ := hnk.shape
  have Nk_10 : Hid (Num w10 (.slice uk lk ck) K) := hnk
  clear hnk
  have K10 := And.intro B8_10.out (And.intro B3_10.out (And.intro B7_10.out (B5_10.out)))
  go_wp2_with fail
  clear hHeld
  refine hK.out _ _ K10 (fun hHeld => ?_)
  clear hK Kk K10
  try simp only [Act.put, List.setIfInBounds_toArray, List.set_cons_zero, List.set_cons_succ]
  refine h_call 5 rfl (by kernel_rfl) (by rfl) (fun Kk hK => ?_)
  go_simp
  (refine (Q7.out _ _ _ Nk_10.out Pq_10.out).mono ?_)
  rintro e w11 ⟨uu, rfl, hu, g0⟩
  have g := g0
  clear g0
  have B3_11 := hid (B3_10.out.below g)
  have B5_11 := hid (B5_10.out.below g)
  have B7_11 := hid (B7_10.out.below g)
  have B8_11 := hid (B8_10.out.below g)
  have Pq_11 := hid (Pq_10.out.below g)
  have S1_11 := hid (S1_10.out.below g)
  have Nk_11 := hid (Nk_10.out.below g)
  have E_11 := hid (E_10.out.grown g)
  have G_11 := hid (G_10.out.trans (g.mono G_10.out.size))
  clear g B3_10 B5_10 B7_10 B8_10 Pq_10 S1_10 Nk_10 E_10 G_10
  obtain ⟨M2, rfl, M2_h, M2_3, M2_i⟩ := pm_list hu
  have P2_11 : Hid (Pm w11 (.agg M2.toArray) PM) := hu
  clear hu
  have K11 := And.intro B8_11.out (And.intro B3_11.out (And.intro B7_11.out (B5_11.out)))
  go_wp2_with fail
  clear hHeld
  refine hK.out _ _ K11 (fun hHeld => ?_)
  clear hK Kk K11
  try simp only [Act.put, List.setIfInBounds_toArray, List.set_cons_zero, List.set_cons_succ]
  refine h_call 6 rfl (by kernel_rfl) (by rfl) (fun Kk hK => ?_)
  go_simp
  (refine (Q8.out _ _ P2_11.out).mono ?_)
  rintro e w12 ⟨ub, rfl, hsb, g0⟩
  have g := g0
  clear g0
  have B3_12 := hid (B3_11.out.below g)
  have B5_12 := hid (B5_11.out.below g)
  have B7_12 := hid (B7_11.out.below g)
  have B8_12 := hid (B8_11.out.below g)
  have Pq_12 := hid (Pq_11.out.below g)
  have S1_12 := hid (S1_11.out.below g)
  have Nk_12 := hid (Nk_11.out.below g)
  have P2_12 := hid (P2_11.out.below g)
  have E_12 := hid (E_11.out.grown g)
  have G_12 := hid (G_11.out.trans (g.mono G_11.out.size))
  clear g B3_11 B5_11 B7_11 B8_11 Pq_11 S1_11 Nk_11 P2_11 E_11 G_11
  have Sb_12 : Hid (SK .u8 w12 ub ls) := hsb
  clear hsb
  have K12 := And.intro B8_12.out (And.intro B3_12.out (And.intro B7_12.out (B5_12.out)))
  go_wp2_with fail
  clear hHeld
  refine hK.out _ _ K12 (fun hHeld => ?_)
  clear hK Kk K12
  try simp only [Act.put, List.setIfInBounds_toArray, List.set_cons_zero, List.set_cons_succ]
  refine h_call 7 rfl (by kernel_rfl) (by rfl) (fun Kk hK => ?_)
  go_simp
  (refine (Q9.out _ _ _ S1_12.out Sb_12.out).mono ?_)
  rintro e w13 ⟨rfl, g0⟩
  have g := g0
  clear g0
  have B3_13 := hid (B3_12.out.below g)
  have B5_13 := hid (B5_12.out.below g)
  have B7_13 := hid (B7_12.out.below g)
  have B8_13 := hid (B8_12.out.below g)
  have Pq_13 := hid (Pq_12.out.below g)
  have S1_13 := hid (S1_12.out.below g)
  have Nk_13 := hid (Nk_12.out.below g)
  have P2_13 := hid (P2_12.out.below g)
  have Sb_13 := hid (Sb_12.out.below g)
  have E_13 := hid (E_12.out.grown g)
  have G_13 := hid (G_12.out.trans (g.mono G_12.out.size))
  clear g B3_12 B5_12 B7_12 B8_12 Pq_12 S1_12 Nk_12 P2_12 Sb_12 E_12 G_12
  have K13 := And.intro B8_13.out (And.intro B3_13.out (And.intro B7_13.out (B5_13.out)))
  go_wp2_with fail
  clear hHeld
  refine hK.out _ _ K13 (fun hHeld => ?_)
  clear hK Kk K13
  try simp only [Act.put, List.setIfInBounds_toArray, List.set_cons_zero, List.set_cons_succ]
  refine h_take 8 (v := .bool true) rfl (by kernel_rfl) (by kernel_rfl) (by kernel_rfl) (fun _ _ _ h => h) (by rfl) ?hyr8_8 (by assumption) ?_
  case hyr8_8 =>
    intro w' hSw
    clear hSw
    go_simp
  try simp only [Act.put, List.setIfInBounds_toArray, List.set_cons_zero, List.set_cons_succ]
  refine h_call 9 rfl (by kernel_rfl) (by rfl) (fun Kk hK => ?_)
  go_simp
  (refine (Q10.out _).mono ?_)
  rintro e w14 ⟨rfl, g0⟩
  have g := g0
  clear g0
  have B3_14 := hid (B3_13.out.below g)
  have B5_14 := hid (B5_13.out.below g)
  have B7_14 := hid (B7_13.out.below g)
  have B8_14 := hid (B8_13.out.below g)
  have Pq_14 := hid (Pq_13.out.below g)
  have S1_14 := hid (S1_13.out.below g)
  have Nk_14 := hid (Nk_13.out.below g)
  have P2_14 := hid (P2_13.out.below g)
  have Sb_14 := hid (Sb_13.out.below g)
  have E_14 := hid (E_13.out.grown g)
  have G_14 := hid (G_13.out.trans (g.mono G_13.out.size))
  clear g B3_13 B5_13 B7_13 B8_13 Pq_13 S1_13 Nk_13 P2_13 Sb_13 E_13 G_13
  have K14 := And.intro B8_14.out (And.intro B3_14.out (And.intro B7_14.out (B5_14.out)))
  go_wp2_with fail
  clear hHeld
  refine hK.out _ _ K14 (fun hHeld => ?_)
  clear hK Kk K14
  try simp only [Act.put, List.setIfInBounds_toArray, List.set_cons_zero, List.set_cons_succ]
  refine h_call 10 rfl (by kernel_rfl) (by rfl) (fun Kk hK => ?_)
  go_simp
  (refine (Q11.out _).mono ?_)
  rintro e w15 ⟨vo, rfl, hno, g0⟩
  have g := g0
  clear g0
  have B3_15 := hid (B3_14.out.below g)
  have B5_15 := hid (B5_14.out.below g)
  have B7_15 := hid (B7_14.out.below g)
  have B8_15 := hid (B8_14.out.below g)
  have Pq_15 := hid (Pq_14.out.below g)
  have S1_15 := hid (S1_14.out.below g)
  have Nk_15 := hid (Nk_14.out.below g)
  have P2_15 := hid (P2_14.out.below g)
  have Sb_15 := hid (Sb_14.out.below g)
  have E_15 := hid (E_14.out.grown g)
  have G_15 := hid (G_14.out.trans (g.mono G_14.out.size))
  clear g B3_14 B5_14 B7_14 B8_14 Pq_14 S1_14 Nk_14 P2_14 Sb_14 E_14 G_14
  obtain ⟨uo, lo, co, rfl⟩ := hno.shape
  have No_15 : Hid (Num w15 (.slice uo lo co) L25) := hno
  clear hno
  have K15 := And.intro B8_15.out (And.intro B3_15.out (And.intro B7_15.out (B5_15.out)))
  go_wp2_with fail
  clear hHeld
  refine hK.out _ _ K15 (fun hHeld => ?_)
  clear hK Kk K15
  try simp only [Act.put, List.setIfInBounds_toArray, List.set_cons_zero, List.set_cons_succ]
  refine h_call 11 rfl (by kernel_rfl) (by rfl) (fun Kk hK => ?_)
  go_simp
  (refine (Q12.out _ _ No_15.out).mono ?_)
  rintro e w16 ⟨rfl, g0⟩
  have g := g0
  clear g0
  have B3_16 := hid (B3_15.out.below g)
  have B5_16 := hid (B5_15.out.below g)
  have B7_16 := hid (B7_15.out.below g)
  have B8_16 := hid (B8_15.out.below g)
  have Pq_16 := hid (Pq_15.out.below g)
  have S1_16 := hid (S1_15.out.below g)
  have Nk_16 := hid (Nk_15.out.below g)
  have P2_16 := hid (P2_15.out.below g)
  have Sb_16 := hid (Sb_15.out.below g)
  have No_16 := hid (No_15.out.below g)
  have E_16 := hid (E_15.out.grown g)
  have G_16 := hid (G_15.out.trans (g.mono G_15.out.size))
  clear g B3_15 B5_15 B7_15 B8_15 Pq_15 S1_15 Nk_15 P2_15 Sb_15 No_15 E_15 G_15
  have K16 := And.intro B8_16.out (And.intro B3_16.out (And.intro B7_16.out (B5_16.out)))
  go_wp2_with fail
  clear hHeld
  refine hK.out _ _ K16 (fun hHeld => ?_)
  clear hK Kk K16
  try simp only [Act.put, List.setIfInBounds_toArray, List.set_cons_zero, List.set_cons_succ]
  refine h_take 12 (v := .bool true) rfl (by kernel_rfl) (by kernel_rfl) (by kernel_rfl) (fun _ _ _ h => h) (by rfl) ?hyr8_12 (by assumption) ?_
  case hyr8_12 =>
    intro w' hSw
    clear hSw
    go_simp
  try simp only [Act.put, List.setIfInBounds_toArray, List.set_cons_zero, List.set_cons_succ]
  refine h_take 13 (v := .bool true) rfl (by kernel_rfl) (by kernel_rfl) (by kernel_rfl) (fun _ _ _ h => h) (by rfl) ?hyr8_13 (by assumption) ?_
  case hyr8_13 =>
    intro w' hSw
    clear hSw
    go_simp
  try simp only [Act.put, List.setIfInBounds_toArray, List.set_cons_zero, List.set_cons_succ]
  refine h_take 14 (v := .bool true) rfl (by kernel_rfl) (by kernel_rfl) (by kernel_rfl) (fun _ _ _ h => h) (by rfl) ?hyr8_14 (by assumption) ?_
  case hyr8_14 =>
    intro w' hSw
    clear hSw
    go_simp
  try simp only [Act.put, List.setIfInBounds_toArray, List.set_cons_zero, List.set_cons_succ]
  refine h_take 15 (v := .agg m.toArray) rfl (by kernel_rfl) (by kernel_rfl) (by kernel_rfl) (fun _ _ _ h => h) (by rfl) ?hyr8_15 (by assumption) ?_
  case hyr8_15 =>
    intro w' hSw
    exact load_run 32 _ rfl _ 0 rfl m _ (at_mid hSw.1 0 _ (by simp)) Tryd.underlying32 rfl m_h.il
  try simp only [Act.put, List.setIfInBounds_toArray, List.set_cons_zero, List.set_cons_succ]
  refine h_take 16 (v := .agg ka.toArray) rfl (by kernel_rfl) (by kernel_rfl) (by kernel_rfl) (fun _ _ _ h => h) (by rfl) ?hyr8_16 (by assumption) ?_
  case hyr8_16 =>
    intro w' hSw
    exact load_run 25 _ rfl _ 0 rfl ka _ (at_mid hSw.2.1 0 _ (by simp)) Tryd.underlying25 rfl ka_h.il
  try simp only [Act.put, List.setIfInBounds_toArray, List.set_cons_zero, List.set_cons_succ]
  refine h_take 17 (v := .agg p.toArray) rfl (by kernel_rfl) (by kernel_rfl) (by kernel_rfl) (fun _ _ _ h => h) (by rfl) ?hyr8_17 (by assumption) ?_
  case hyr8_17 =>
    intro w' hSw
    exact load_run 32 _ rfl _ 0 rfl p _ (at_mid hSw.2.2.2 0 _ (by simp)) Tryd.underlying32 rfl p_h.il
  try simp only [Act.put, List.setIfInBounds_toArray, List.set_cons_zero, List.set_cons_succ]
  refine h_call 18 rfl (by kernel_rfl) (by rfl) (fun Kk hK => ?_)
  go_simp
  (refine (Q13.out _ E_16.out).mono ?_)
  rintro e w17 ⟨rfl, g0⟩
  have g := g0
  clear g0
  have B3_17 := hid (B3_16.out.below g)
  have B5_17 := hid (B5_16.out.below g)
  have B7_17 := hid (B7_16.out.below g)
  have B8_17 := hid (B8_16.out.below g)
  have Pq_17 := hid (Pq_16.out.below g)
  have S1_17 := hid (S1_16.out.below g)
  have Nk_17 := hid (Nk_16.out.below g)
  have P2_17 := hid (P2_16.out.below g)
  have Sb_17 := hid (Sb_16.out.below g)
  have No_17 := hid (No_16.out.below g)
  have E_17 := hid (E_16.out.grown g)
  have G_17 := hid (G_16.out.trans (g.mono G_16.out.size))
  clear g B3_16 B5_16 B7_16 B8_16 Pq_16 S1_16 Nk_16 P2_16 Sb_16 No_16 E_16 G_16
  have K17 := And.intro B8_17.out (And.intro B3_17.out (And.intro B7_17.out (B5_17.out)))
  go_wp2_with fail
  clear hHeld
  refine hK.out _ _ K17 (fun hHeld => ?_)
  clear hK Kk K17
  try simp only [Act.put, List.setIfInBounds_toArray, List.set_cons_zero, List.set_cons_succ]
  refine h_call 19 rfl (by kernel_rfl) (by rfl) (fun Kk hK => ?_)
  go_simp
  (refine (Q14.out _).mono ?_)
  rintro e w18 ⟨rfl, g0⟩
  have g := g0
  clear g0
  have B3_18 := hid (B3_17.out.below g)
  have B5_18 := hid (B5_17.out.below g)
  have B7_18 := hid (B7_17.out.below g)
  have B8_18 := hid (B8_17.out.below g)
  have Pq_18 := hid (Pq_17.out.below g)
  have S1_18 := hid (S1_17.out.below g)
  have Nk_18 := hid (Nk_17.out.below g)
  have P2_18 := hid (P2_17.out.below g)
  have Sb_18 := hid (Sb_17.out.below g)
  have No_18 := hid (No_17.out.below g)
  have E_18 := hid (E_17.out.grown g)
  have G_18 := hid (G_17.out.trans (g.mono G_17.out.size))
  clear g B3_17 B5_17 B7_17 B8_17 Pq_17 S1_17 Nk_17 P2_17 Sb_17 No_17 E_17 G_17
  have K18 := And.intro B8_18.out (And.intro B3_18.out (And.intro B7_18.out (B5_18.out)))
  go_wp2_with fail
  clear hHeld
  refine hK.out _ _ K18 (fun hHeld => ?_)
  clear hK Kk K18
  try simp only [Act.put, List.setIfInBounds_toArray, List.set_cons_zero, List.set_cons_succ]
  refine h_take 20 (v := .bool true) rfl (by kernel_rfl) (by kernel_rfl) (by kernel_rfl) (fun _ _ _ h => h) (by rfl) ?hyr8_20 (by assumption) ?_
  case hyr8_20 =>
    intro w' hSw
    clear hSw
    go_simp
  try simp only [Act.put, List.setIfInBounds_toArray, List.set_cons_zero, List.set_cons_succ]
  refine h_take 21 (v := .bool true) rfl (by kernel_rfl) (by kernel_rfl) (by kernel_rfl) (fun _ _ _ h => h) (by rfl) ?hyr8_21 (by assumption) ?_
  case hyr8_21 =>
    intro w' hSw
    clear hSw
    go_simp
  try simp only [Act.put, List.setIfInBounds_toArray, List.set_cons_zero, List.set_cons_succ]
  refine wpAnyH_done (by kernel_rfl) ?_ _
  clear hHeld
  go_wp2_with fail
  go_ret
  exact ⟨rfl, G_18.out⟩
end Go.Proofs.YtedhfimjcpbcpaaDoor.Ed

/-
  The document's own order of the base (layer 11) is the number that is known. Conditions: none.
-/
namespace Go.Proofs.YtedhfimjcpbcpaaDoor.Ed
open Go.RowKit
set_option linter.unusedVariables false
set_option linter.unusedSimpArgs false

def ordD (k : Nat) : Nat := [2, 7, 7, 4, 2, 3, 1, 7, 7, 7, 7, 3, 7, 2, 3, 5, 3, 5, 3, 5, 8, 5, 1, 9, 3, 7, 7, 9, 0, 8, 8, 3, 6, 4, 8, 4, 9, 3].getD k 0
theorem ordD_le (k : Nat) : ordD k ≤ 9 := by
  unfold ordD
  rcases Nat.lt_or_ge k 38 with h | h
  · revert k
    decide +kernel
  · rw [List.getD_eq_getElem?_getD, List.getElem?_eq_none (by simpa using h)]
    decide
def pre : Nat → Nat
  | 0 => 0
  | k + 1 => pre k * 10 + ordD k
theorem pre_lt : ∀ k, pre k < 10 ^ k
  | 0 => by decide
  | k + 1 => by
    have := pre_lt k
    have := ordD_le k
    rw [pre, Nat.pow_succ]
    omega
theorem pre_low (k : Nat) (hk : k ≤ 38) : pre k < 16777216 ^ 11 := Nat.lt_of_lt_of_le (pre_lt k) (Nat.le_trans (Nat.pow_le_pow_right (by omega) hk) (by decide +kernel))
theorem pre_all : pre 38 + 2 ^ 252 = L25 := by decide +kernel
theorem idx_ord (k : Nat) (hk : k < 38) (w : World) : (Instr.index 9 (.string { data := #[50, 55, 55, 52, 50, 51, 49, 55, 55, 55, 55, 51, 55, 50, 51, 53, 51, 53, 51, 53, 56, 53, 49, 57, 51, 55, 55, 57, 48, 56, 56, 51, 54, 52, 56, 52, 57, 51] }) (.int .i64 (k : Int))).run Tryd.prog w = .ok (.int .u8 (48 + (ordD k : Int))) w := by
  rcases (show k = 0 ∨ k = 1 ∨ k = 2 ∨ k = 3 ∨ k = 4 ∨ k = 5 ∨ k = 6 ∨ k = 7 ∨ k = 8 ∨ k = 9 ∨ k = 10 ∨ k = 11 ∨ k = 12 ∨ k = 13 ∨ k = 14 ∨ k = 15 ∨ k = 16 ∨ k = 17 ∨ k = 18 ∨ k = 19 ∨ k = 20 ∨ k = 21 ∨ k = 22 ∨ k = 23 ∨ k = 24 ∨ k = 25 ∨ k = 26 ∨ k = 27 ∨ k = 28 ∨ k = 29 ∨ k = 30 ∨ k = 31 ∨ k = 32 ∨ k = 33 ∨ k = 34 ∨ k = 35 ∨ k = 36 ∨ k = 37 by omega) with rfl | rfl | rfl | rfl | rfl | rfl | rfl | rfl | rfl | rfl | rfl | rfl | rfl | rfl | rfl | rfl | rfl | rfl | rfl | rfl | rfl | rfl | rfl | rfl | rfl | rfl | rfl | rfl | rfl | rfl | rfl | rfl | rfl | rfl | rfl | rfl | rfl | rfl <;> kernel_rfl
set_option maxRecDepth 100000 in
set_option maxHeartbeats 4000000 in
theorem ordR_num (w : World) : Calls Tryd.prog 17 #[] w fun e w' => ∃ v, e = .returned v ∧ Num w' v L25 ∧ Below w.heap.size w w' := by
  have CS : Hid (∀ (M : Nat) (v : Value) (w : World), M < 16777216 ^ 11 → Num w v M → Calls Tryd.prog 63 #[v, .int .i64 10] w fun e w' => ∃ r, e = .returned r ∧ Num w' r (M * 10) ∧ Below w.heap.size w w') := fun M v w hM h => small_num M v 10 w h 11 hM (by omega) (by omega)
  have CI : Hid (∀ (n : Nat) (w : World), n ≤ 9 → Calls Tryd.prog 64 #[.int .i64 (n : Int)] w fun e w' => ∃ r, e = .returned r ∧ Num w' r n ∧ Below w.heap.size w w') := fun n w h => int_any n (by omega) w
  have CP : Hid (∀ w : World, Calls Tryd.prog 44 #[.int .i64 252] w fun e w' => ∃ r, e = .returned r ∧ Num w' r (2 ^ 252) ∧ Below w.heap.size w w') := fun w => power_any 252 w (by omega)
  have R0 : Hid (Num w (.slice none 0 0) (pre 0)) := num_none w
  have G0 : Hid (Below w.heap.size w w) := Below.refl _ _
  go_enter Tryd.func17, Tryd.ntmps17
  go_wp2_with fail
  go_loopw [2, 3] (fun v y wr => ∃ k : Nat, k ≤ 38 ∧ y = .int .i64 (k : Int) ∧ Hid (Num wr v (pre k)) ∧ Hid (Below w.heap.size w wr)) (fun _ y _ => (38 - intOf y).toNat)
  case atStart => exact ⟨0, by omega, rfl, R0, G0⟩
  case round =>
    obtain ⟨k, hk, rfl, hR, hG⟩ := hrel
    clear R0 G0
    obtain ⟨w1, hw1⟩ : ∃ w1, wr = w1 := ⟨_, rfl⟩
    subst hw1
    obtain ⟨za, zc, zd, rfl⟩ := hR.out.shape
    by_cases hlt : k < 38
    · have hlt' : (k : Int) < 38 := by omega
      have HI := idx_ord k hlt
      obtain ⟨d, hd⟩ : ∃ d, ordD k = d := ⟨_, rfl⟩
      have hd9 : d ≤ 9 := by rw [← hd]; exact ordD_le k
      have HP : Hid (pre (k + 1) = pre k * 10 + d) := by unfold Hid; rw [pre, hd]
      have HL : Hid (pre k < 16777216 ^ 11) := pre_low k hk
      rw [hd] at HI
      have c1 : IntKind.i64.wrap (48 + (d : Int)) = 48 + (d : Int) := by rw [IntKind.wrap_i64]; omega
      have c2 : IntKind.i64.wrap (48 + (d : Int) - 48) = (d : Int) := by rw [IntKind.wrap_i64]; omega
      have c4 : IntKind.i64.wrap (d : Int) = (d : Int) := by rw [IntKind.wrap_i64]; omega
      have c3 : (48 : Int) + (d : Int) - 48 = (d : Int) := by omega
      have R_1 := hid hR.out
      have G_1 := hid hG.out
      have hS12 : pre k * 10 < 16777216 ^ 12 := Nat.lt_of_lt_of_le (Nat.mul_lt_mul_of_pos_right HL.out (by omega)) (by decide +kernel)
      have hI12 : d < 16777216 ^ 12 := Nat.lt_of_le_of_lt hd9 (by decide +kernel)
      clear hd hR hG
      go_wp2_with fail
      refine wp_region_held_drew (S := fun w' => True) (by kernel_rfl) trivial (fun hHeld => ?_)
      refine h_take 0 (v := ?v0) rfl (by kernel_rfl) (by kernel_rfl) (by kernel_rfl) (fun _ _ _ h => h) (by rfl) ?hy0 (by assumption) ?_
      case hy0 =>
        intro w' hSw
        clear hSw
        go_simp
        try with_reducible rfl
      try simp only [Act.put, List.setIfInBounds_toArray, List.set_cons_zero, List.set_cons_succ]
      refine h_take 2 (v := ?v2) rfl (by kernel_rfl) (by kernel_rfl) (by kernel_rfl) (fun _ _ _ h => h) (by rfl) ?hy2 (by assumption) ?_
      case hy2 =>
        intro w' hSw
        clear hSw
        go_simp
        try with_reducible rfl
      try simp only [Act.put, List.setIfInBounds_toArray, List.set_cons_zero, List.set_cons_succ]
      refine h_take 3 (v := ?v3) rfl (by kernel_rfl) (by kernel_rfl) (by kernel_rfl) (fun _ _ _ h => h) (by rfl) ?hy3 (by assumption) ?_
      case hy3 =>
        intro w' hSw
        clear hSw
        go_simp
        try with_reducible rfl
      try simp only [Act.put, List.setIfInBounds_toArray, List.set_cons_zero, List.set_cons_succ]
      refine h_take 4 (v := ?v4) rfl (by kernel_rfl) (by kernel_rfl) (by kernel_rfl) (fun _ _ _ h => h) (by rfl) ?hy4 (by assumption) ?_
      case hy4 =>
        intro w' hSw
        clear hSw
        go_simp
        try with_reducible rfl
      try simp only [Act.put, List.setIfInBounds_toArray, List.set_cons_zero, List.set_cons_succ]
      refine h_take 5 (v := ?v5) rfl (by kernel_rfl) (by kernel_rfl) (by kernel_rfl) (fun _ _ _ h => h) (by rfl) ?hy5 (by assumption) ?_
      case hy5 =>
        intro w' hSw
        clear hSw
        go_simp
        try with_reducible rfl
      try simp only [Act.put, List.setIfInBounds_toArray, List.set_cons_zero, List.set_cons_succ]
      refine h_take 6 (v := ?v6) rfl (by kernel_rfl) (by kernel_rfl) (by kernel_rfl) (fun _ _ _ h => h) (by rfl) ?hy6 (by assumption) ?_
      case hy6 =>
        intro w' hSw
        clear hSw
        go_simp
        try with_reducible rfl
      try simp only [Act.put, List.setIfInBounds_toArray, List.set_cons_zero, List.set_cons_succ]
      refine h_call 1 rfl (by kernel_rfl) (by rfl) (fun Kk hK => ?_)
      go_simp
      (refine (CS.out _ _ _ HL.out (R_1.out.below (Below.refl _ _).drew)).mono ?_)
      rintro e w2 ⟨v, rfl, hn, g0⟩
      have g : Below wr.heap.size wr w2 := (Below.refl _ wr).drew.trans g0
      clear g0
      obtain ⟨Sa, Sc, Sd, rfl⟩ := hn.shape
      have S_2 := hid hn
      clear hn
      have G_2 := hid (G_1.out.trans (g.mono G_1.out.size))
      clear g
      go_wp2_with fail
      clear hHeld
      refine hK.out _ _ trivial (fun hHeld => ?_)
      clear hK Kk
      try simp only [Act.put, List.setIfInBounds_toArray, List.set_cons_zero, List.set_cons_succ]
      refine h_call 7 rfl (by kernel_rfl) (by rfl) (fun Kk hK => ?_)
      go_simp
      (refine (CI.out d _ hd9).mono ?_)
      rintro e w3 ⟨v, rfl, hn, g0⟩
      have g := g0
      clear g0
      obtain ⟨Ia, Ic, Id, rfl⟩ := hn.shape
      have I_3 := hid hn
      clear hn
      have S_3 := hid (S_2.out.below g)
      have G_3 := hid (G_2.out.trans (g.mono G_2.out.size))
      clear g
      go_wp2_with fail
      clear hHeld
      refine hK.out _ _ trivial (fun hHeld => ?_)
      clear hK Kk
      try simp only [Act.put, List.setIfInBounds_toArray, List.set_cons_zero, List.set_cons_succ]
      refine h_call 8 rfl (by kernel_rfl) (by rfl) (fun Kk hK => ?_)
      go_simp
      (refine (add_num _ _ _ _ _ S_3.out I_3.out 12 hS12 hI12 (by omega)).mono ?_)
      rintro e w4 ⟨v, rfl, hn, g0⟩
      have g := g0
      clear g0
      obtain ⟨Aa, Ac, Ad, rfl⟩ := hn.shape
      have A_4 := hid hn
      clear hn
      have G_4 := hid (G_3.out.trans (g.mono G_3.out.size))
      clear g
      go_wp2_with fail
      clear hHeld
      refine hK.out _ _ trivial (fun hHeld => ?_)
      clear hK Kk
      try simp only [Act.put, List.setIfInBounds_toArray, List.set_cons_zero, List.set_cons_succ]
      refine h_take 9 (v := ?v9) rfl (by kernel_rfl) (by kernel_rfl) (by kernel_rfl) (fun _ _ _ h => h) (by rfl) ?hy9 (by assumption) ?_
      case hy9 =>
        intro w' hSw
        clear hSw
        go_simp
        try with_reducible rfl
      try simp only [Act.put, List.setIfInBounds_toArray, List.set_cons_zero, List.set_cons_succ]
      refine wpAnyH_done (by kernel_rfl) ?_ _
      clear hHeld
      go_wp2_with fail
      go_roundw
      case rel => exact ⟨k + 1, by omega, by go_num, by rw [HP.out]; exact A_4, G_4⟩
      case measure => simp [intOf]; omega
    · obtain rfl : k = 38 := by omega
      obtain ⟨q, hq⟩ : ∃ q, pre 38 = q := ⟨_, rfl⟩
      have hq1 : Hid (q < 16777216 ^ 11) := by unfold Hid; rw [← hq]; exact pre_low 38 (by omega)
      obtain ⟨r, hr⟩ : ∃ r : Nat, r = 2 ^ 252 := ⟨_, rfl⟩
      have hr1 : Hid (r < 16777216 ^ 11) := by unfold Hid; rw [hr]; decide +kernel
      have hs : Hid (q + r = L25) := by unfold Hid; rw [← hq, hr]; exact pre_all
      have CP' : Hid (∀ w : World, Calls Tryd.prog 44 #[.int .i64 252] w fun e w' => ∃ v, e = .returned v ∧ Num w' v r ∧ Below w.heap.size w w') := by unfold Hid; rw [hr]; exact CP.out
      rw [hq] at hR
      clear hq hr CP CS CI
      go_wp2_with fail
      refine (CP'.out _).mono ?_
      rintro e w2 ⟨v, rfl, hn, g⟩
      have R2 := hid (hR.out.below g)
      have G2 := hid (hG.out.trans (g.mono hG.out.size))
      obtain ⟨pa, pc, pd, rfl⟩ := hn.shape
      have P2 := hid hn
      have KA : Hid (Calls Tryd.prog 58 #[.slice za zc zd, .slice pa pc pd] w2 fun e w' => ∃ v, e = .returned v ∧ Num w' v (q + r) ∧ Below w2.heap.size w2 w') := add_num _ _ _ _ w2 R2.out P2.out 11 hq1.out hr1.out (by omega)
      rw [hs.out] at KA
      clear hn g hR hG R2 P2
      go_wp2_with fail
      refine KA.out.mono ?_
      rintro e w3 ⟨v, rfl, hn, g⟩
      have R3 := hid hn
      have G3 := hid (G2.out.trans (g.mono G2.out.size))
      obtain ⟨pa, pc, pd, rfl⟩ := hn.shape
      clear hn g G2 KA
      go_wp2_with fail
      go_ret
      exact ⟨_, rfl, R3.out, G3.out⟩
end Go.Proofs.YtedhfimjcpbcpaaDoor.Ed

/-
  The document's own Mul of layer 10 (layer 11 asks it), of points of the curve. Conditions: the number is below 2^256.
-/
namespace Go.Proofs.YtedhfimjcpbcpaaDoor.Ed
open Go.RowKit
set_option linter.unusedVariables false
set_option linter.unusedSimpArgs false

theorem num_oth {w w' : World} {g : Nat} {T : TypeId} {L : List Value} {v : Value} {N : Nat} (h : Num w v N) (hA : At T w g L) (hL : ∀ x ∈ L, ∀ z, x ≠ .int .i64 z) (ho : Oth g w w') : Num w' v N := h.oth10 ho (off_none hA hL h)
theorem pm_oth {w w' : World} {g : Nat} {T : TypeId} {L : List Value} {v : Value} {P : Pt} (h : Pm w v P) (hA : At T w g L) (hL : ∀ x ∈ L, ∀ z, x ≠ .int .i64 z) (ho : Oth g w w') : Pm w' v P := by
  obtain ⟨vx, vy, vz, X, Y, Z, e, h1, h2, h3, h4⟩ := h
  exact ⟨vx, vy, vz, X, Y, Z, e, num_oth h1 hA hL ho, num_oth h2 hA hL ho, num_oth h3 hA hL ho, h4⟩
/-- A list of cells that fills a point of the document, without numbers. -/
structure Rw (L : List Value) : Prop where
  len : L.length = 4
  one : L.toArray.all (·.oneCell') = true
  no : ∀ x ∈ L, ∀ z, x ≠ .int .i64 z
theorem Rw.il {L : List Value} (h : Rw L) : (Tryd.prog.info? 37).map (·.size) = some L.length := by rw [h.len]; kernel_rfl
theorem Rw.is {L : List Value} (h : Rw L) : (Tryd.prog.info? 37).map (·.size) = some L.toArray.size := by rw [List.size_toArray]; exact h.il
theorem rw_of (a b c : Option Addr) (n1 n2 n3 c1 c2 c3 : Nat) (t : Bool) : Rw [.slice a n1 c1, .slice b n2 c2, .slice c n3 c3, .bool t] := ⟨rfl, by kernel_rfl, no_ints _ _ _ _ _ _ _ _ _ _⟩
theorem pm_row {W : World} {v : Value} {P : Pt} (h : Pm W v P) : ∃ M : List Value, v = .agg M.toArray ∧ Rw M := by
  obtain ⟨vx, vy, vz, X, Y, Z, rfl, hx, hy, hz, -⟩ := h
  obtain ⟨xa, xn, xc, rfl⟩ := hx.shape
  obtain ⟨ya, yn, yc, rfl⟩ := hy.shape
  obtain ⟨za, zn, zc, rfl⟩ := hz.shape
  exact ⟨[.slice xa xn xc, .slice ya yn yc, .slice za zn zc, .bool true], rfl, rw_of _ _ _ _ _ _ _ _ _ _⟩
theorem mul_double (t : Nat) (P : Pt) : Pt.mul (2 * t + 0) P = (Pt.mul t P).add (Pt.mul t P) := by rw [Nat.add_zero, Nat.two_mul, Pt.mul_two]
theorem mul_more (t : Nat) (P : Pt) : Pt.mul (2 * t + 1) P = ((Pt.mul t P).add (Pt.mul t P)).add P := by rw [Pt.mul_next, Nat.two_mul, Pt.mul_two]
set_option maxRecDepth 100000 in
set_option maxHeartbeats 4000000 in
theorem mulR_pt (P : Pt) (E : Nat) (hE1 : E < 2 ^ 256) (ve vp : Value) (w : World) (hE : Num w ve E) (hp : Pm w vp P) :
    Calls Tryd.prog 13 #[ve, vp] w fun e w' => ∃ u, e = .returned u ∧ Pm w' u (Pt.mul E P) ∧ Below w.heap.size w w' := by
  obtain ⟨ya, yc, yd, rfl⟩ := hE.shape
  obtain ⟨L, rfl, hLr⟩ := pm_row hp
  have hE11 : E < 16777216 ^ 11 := Nat.lt_trans hE1 (by decide +kernel)
  have CB : Hid (∀ w, Num w (.slice ya yc yd) E → Calls Tryd.prog 60 #[.slice ya yc yd] w fun e w' => e = .returned (.int .i64 (nbits E : Int)) ∧ Below w.heap.size w w') := fun w h => bits_num E _ w h 11 hE11 (by omega)
  have CI : Hid (∀ (i : Nat) w, i ≤ 264 → Num w (.slice ya yc yd) E → Calls Tryd.prog 42 #[.slice ya yc yd, .int .i64 (i : Int)] w fun e w' => e = .returned (.int .i64 ((E / 2 ^ i % 2 : Nat) : Int)) ∧ Below w.heap.size w w') := fun i w hi h => bit_num E _ i w h 11 hE11 (by omega) (by omega)
  have CD : Hid (∀ w, Calls Tryd.prog 20 #[] w fun e w' => ∃ v, e = .returned v ∧ Num w' v D25 ∧ Below w.heap.size w w') := fun w => dD_num w
  have CZ : Hid (∀ w, Calls Tryd.prog 24 #[] w fun e w' => ∃ u, e = .returned u ∧ Pm w' u Pt.zero ∧ Below w.heap.size w w') := fun w => zero_pt w
  have CA : Hid (∀ (A B : Pt) (v v' d : Value) (w : World), Pm w v A → Pm w v' B → Num w d D25 → Calls Tryd.prog 19 #[v, v', d] w fun e w' => ∃ u, e = .returned u ∧ Pm w' u (A.add B) ∧ Below w.heap.size w w') := fun A B v v' d w h h' hd => add_pt A B v v' d w h h' hd
  have hnb := nbits_le4 E hE1
  have HN := nbits_lt4 E
  obtain ⟨nb, hNB⟩ : ∃ nb, nbits E = nb := ⟨_, rfl⟩
  rw [hNB] at hnb CB HN
  have HNB : Hid (E < 2 ^ nb) := HN
  have hnb' : (nb : Int) ≤ 256 := by omega
  have Y0 : Hid (Num w (.slice ya yc yd) E) := hE
  have P0 : Hid (Pm w (.agg L.toArray) P) := hp
  clear hE hp hE1 hE11 HN hNB
  go_enter Tryd.func13, Tryd.ntmps13
  go_upto_region 1 with fail
  have g01 : Below w.heap.size w ((w.alloc (.cells L.toArray 37)).alloc (.cells #[.slice none 0 0, .slice none 0 0, .slice none 0 0, .bool false] 37)) := ((Below.refl _ _).alloc (Nat.le_refl _) _).alloc (by simp) _
  refine wp_cut (fun V => At 37 V w.heap.size L ∧ At 37 V (w.heap.size + 1) [.slice none 0 0, .slice none 0 0, .slice none 0 0, .bool false] ∧ Num V (.slice ya yc yd) E ∧ Pm V (.agg L.toArray) P ∧ Below w.heap.size w V)
    ⟨at_alloc (at_new2 _ _ _ _ rfl) _, at_new2 _ _ _ _ (by simp), Y0.out.below g01, P0.out.below g01, g01⟩ ?_
  clear g01
  rintro w1 ⟨k0, k1, k2, k3, k4⟩
  have A_1 := hid k0
  have B_1 := hid k1
  have Y_1 := hid k2
  have P_1 := hid k3
  have G_1 := hid k4
  clear k0 k1 k2 k3 k4 Y0 P0
  go_wp2_with fail
  refine (CD.out _).mono ?_
  rintro e w2 ⟨vD, rfl, hd, g⟩
  have D_2 := hid hd
  have A_2 := hid (A_1.out.below g)
  have B_2 := hid (B_1.out.below g)
  have Y_2 := hid (Y_1.out.below g)
  have P_2 := hid (P_1.out.below g)
  have G_2 := hid (G_1.out.trans (g.mono G_1.out.size))
  clear g hd A_1 B_1 Y_1 P_1 G_1
  go_wp2_with fail
  refine (CZ.out _).mono ?_
  rintro e w3 ⟨u, rfl, hz, g⟩
  obtain ⟨Z, rfl, hZr⟩ := pm_row hz
  have R_3 := hid hz
  have D_3 := hid (D_2.out.below g)
  have A_3 := hid (A_2.out.below g)
  have B_3 := hid (B_2.out.below g)
  have Y_3 := hid (Y_2.out.below g)
  have P_3 := hid (P_2.out.below g)
  have G_3 := hid (G_2.out.trans (g.mono G_2.out.size))
  clear g hz D_2 A_2 B_2 Y_2 P_2 G_2
  have lA : w.heap.size < w3.heap.size := A_3.out.lt
  have lB : w.heap.size + 1 < w3.heap.size := B_3.out.lt
  go_wp2_with (refine list_store_new rfl 37 _ _ rfl w3 Z [.slice none 0 0, .slice none 0 0, .slice none 0 0, .bool false] rfl rfl hZr.len hZr.is hZr.one (fun w4 hC g => ?_))
  have C_4 := hid hC
  have R_4 := hid (R_3.out.below g)
  have D_4 := hid (D_3.out.below g)
  have A_4 := hid (A_3.out.below g)
  have B_4 := hid (B_3.out.below g)
  have Y_4 := hid (Y_3.out.below g)
  have P_4 := hid (P_3.out.below g)
  have G_4 := hid (G_3.out.trans (g.mono G_3.out.size))
  clear g hC R_3 D_3 A_3 B_3 Y_3 P_3 G_3
  obtain ⟨o, ho⟩ : ∃ o, w3.heap.size = o := ⟨_, rfl⟩
  rw [ho] at C_4 lA lB ⊢
  refine (CB.out _ Y_4.out).mono ?_
  rintro e w5 ⟨rfl, g⟩
  have C_5 := hid (C_4.out.below g)
  have R_5 := hid (R_4.out.below g)
  have D_5 := hid (D_4.out.below g)
  have A_5 := hid (A_4.out.below g)
  have B_5 := hid (B_4.out.below g)
  have Y_5 := hid (Y_4.out.below g)
  have P_5 := hid (P_4.out.below g)
  have G_5 := hid (G_4.out.trans (g.mono G_4.out.size))
  clear g C_4 R_4 D_4 A_4 B_4 Y_4 P_4 G_4
  go_wp2_with fail
  go_loopw [7] (fun y wr => ∃ (k : Nat) (M : List Value), k ≤ nb ∧ y = .int .i64 ((nb : Int) - 1 - (k : Int)) ∧ Rw M ∧ Hid (At 37 wr o M) ∧ Hid (Pm wr (.agg M.toArray) (Pt.mul (E / 2 ^ (nb - k)) P)) ∧ Hid (Num wr vD D25) ∧ Hid (At 37 wr w.heap.size L) ∧ Hid (At 37 wr (w.heap.size + 1) [.slice none 0 0, .slice none 0 0, .slice none 0 0, .bool false]) ∧ Hid (Num wr (.slice ya yc yd) E) ∧ Hid (Pm wr (.agg L.toArray) P) ∧ Hid (Below w.heap.size w wr)) (fun y _ => (intOf y + 1).toNat)
  case atStart => exact ⟨0, Z, by omega, by go_num, hZr, C_5, by rw [Nat.sub_zero, Nat.div_eq_of_lt HNB.out, Pt.mul]; exact R_5, D_5, A_5, B_5, Y_5, P_5, G_5⟩
  case round =>
    obtain ⟨k, M, hk, rfl, hM, hC, hR, hD, hA, hB, hY, hP, hG⟩ := hrel
    clear C_5 R_5 D_5 A_5 B_5 Y_5 P_5 G_5
    obtain ⟨w6, hw6⟩ : ∃ w6, wr = w6 := ⟨_, rfl⟩
    subst hw6
    by_cases hlt : k < nb
    · obtain ⟨i, hi⟩ : ∃ i : Nat, (nb : Int) - 1 - (k : Int) = (i : Int) := ⟨nb - 1 - k, by omega⟩
      have Hi : Hid ((nb : Int) - 1 - (k : Int) = (i : Int)) := hi
      have hi3 : i ≤ 264 := by omega
      have e1 : nb - k = i + 1 := by omega
      have e2 : nb - (k + 1) = i := by omega
      rw [e1] at hR
      have HE : Hid (E / 2 ^ i = 2 * (E / 2 ^ (i + 1)) + E / 2 ^ i % 2) := half_up4 E i
      obtain ⟨t, ht⟩ : ∃ t, E / 2 ^ (i + 1) = t := ⟨_, rfl⟩
      obtain ⟨z, hz⟩ : ∃ z, E / 2 ^ i % 2 = z := ⟨_, rfl⟩
      have hz1 : z = 0 ∨ z = 1 := by omega
      rw [ht, hz] at HE
      rw [ht] at hR
      have CI' : Hid (∀ w, Num w (.slice ya yc yd) E → Calls Tryd.prog 42 #[.slice ya yc yd, .int .i64 (i : Int)] w fun e w' => e = .returned (.int .i64 (z : Int)) ∧ Below w.heap.size w w') := by
        intro w h; have := CI.out i w hi3 h; rwa [hz] at this
      have HE2 : Hid (E / 2 ^ (nb - (k + 1)) = 2 * t + z) := by unfold Hid; rw [e2]; exact HE.out
      have hi0 : (0 : Int) ≤ (i : Int) := by omega
      rw [hi]
      clear hi e1 e2 ht hz HE
      go_wp2_with (refine wpList_load_mid rfl 37 _ rfl o 0 rfl M _ (at_mid hC.out 0 _ (by simp)) Tryd.underlying37 rfl hM.il ?_)
      refine (CA.out _ _ _ _ _ _ hR.out hR.out hD.out).mono ?_
      rintro e w7 ⟨u, rfl, hu, g⟩
      obtain ⟨M', rfl, hM'⟩ := pm_row hu
      have R_7 := hid hu
      have C_7 := hid (hC.out.below g)
      have D_7 := hid (hD.out.below g)
      have A_7 := hid (hA.out.below g)
      have B_7 := hid (hB.out.below g)
      have Y_7 := hid (hY.out.below g)
      have P_7 := hid (hP.out.below g)
      have G_7 := hid (hG.out.trans (g.mono hG.out.size))
      clear g hu hR hC hD hA hB hY hP hG
      go_wp2_with (refine list_store_oth rfl 37 _ _ rfl o M' _ rfl rfl C_7.out (hM'.len.trans hM.len.symm) hM'.is hM'.one (fun w8 hC hO => ?_))
      have R_8 := hid (pm_oth R_7.out C_7.out hM.no hO)
      have C_8 := hid hC
      have D_8 := hid (num_oth D_7.out C_7.out hM.no hO)
      have A_8 := hid (hO.at A_7.out (by omega))
      have B_8 := hid (hO.at B_7.out (by omega))
      have Y_8 := hid (num_oth Y_7.out C_7.out hM.no hO)
      have P_8 := hid (pm_oth P_7.out C_7.out hM.no hO)
      have G_8 := hid (Oth.bel G_7.out hO (by omega))
      clear hC hO R_7 C_7 D_7 A_7 B_7 Y_7 P_7 G_7
      refine (CI'.out _ Y_8.out).mono ?_
      rintro e w9 ⟨rfl, g⟩
      have R_9 := hid (R_8.out.below g)
      have C_9 := hid (C_8.out.below g)
      have D_9 := hid (D_8.out.below g)
      have A_9 := hid (A_8.out.below g)
      have B_9 := hid (B_8.out.below g)
      have Y_9 := hid (Y_8.out.below g)
      have P_9 := hid (P_8.out.below g)
      have G_9 := hid (G_8.out.trans (g.mono G_8.out.size))
      clear g R_8 C_8 D_8 A_8 B_8 Y_8 P_8 G_8
      rcases hz1 with rfl | rfl
      · have F : Hid (Pm w9 (.agg M'.toArray) (Pt.mul (E / 2 ^ (nb - (k + 1))) P)) := by unfold Hid; rw [HE2.out, mul_double]; exact R_9.out
        clear HE2 R_9
        go_wp2_with fail
        go_roundw
        case rel => exact ⟨k + 1, M', by omega, by have := Hi.out; go_num, hM', C_9, F, D_9, A_9, B_9, Y_9, P_9, G_9⟩
        case measure => simp [intOf]
      · go_wp2_with (first | refine wpList_load_mid rfl 37 _ rfl o 0 rfl M' _ (at_mid C_9.out 0 _ (by simp)) Tryd.underlying37 rfl hM'.il ?_ | refine wpList_load_mid rfl 37 _ rfl w.heap.size 0 rfl L _ (at_mid A_9.out 0 _ (by simp)) Tryd.underlying37 rfl hLr.il ?_ | fail)
        refine (CA.out _ _ _ _ _ _ R_9.out P_9.out D_9.out).mono ?_
        rintro e w10 ⟨u, rfl, hu, g⟩
        obtain ⟨M2, rfl, hM2⟩ := pm_row hu
        have R_10 := hid hu
        have C_10 := hid (C_9.out.below g)
        have D_10 := hid (D_9.out.below g)
        have A_10 := hid (A_9.out.below g)
        have B_10 := hid (B_9.out.below g)
        have Y_10 := hid (Y_9.out.below g)
        have P_10 := hid (P_9.out.below g)
        have G_10 := hid (G_9.out.trans (g.mono G_9.out.size))
        clear g hu R_9 C_9 D_9 A_9 B_9 Y_9 P_9 G_9
        go_wp2_with (refine list_store_oth rfl 37 _ _ rfl o M2 _ rfl rfl C_10.out (hM2.len.trans hM'.len.symm) hM2.is hM2.one (fun w11 hC hO => ?_))
        have F : Hid (Pm w11 (.agg M2.toArray) (Pt.mul (E / 2 ^ (nb - (k + 1))) P)) := by unfold Hid; rw [HE2.out, mul_more]; exact pm_oth R_10.out C_10.out hM'.no hO
        have C_11 := hid hC
        have D_11 := hid (num_oth D_10.out C_10.out hM'.no hO)
        have A_11 := hid (hO.at A_10.out (by omega))
        have B_11 := hid (hO.at B_10.out (by omega))
        have Y_11 := hid (num_oth Y_10.out C_10.out hM'.no hO)
        have P_11 := hid (pm_oth P_10.out C_10.out hM'.no hO)
        have G_11 := hid (Oth.bel G_10.out hO (by omega))
        clear hC hO R_10 C_10 D_10 A_10 B_10 Y_10 P_10 G_10 HE2
        go_roundw
        case rel => exact ⟨k + 1, M2, by omega, by have := Hi.out; go_num, hM2, C_11, F, D_11, A_11, B_11, Y_11, P_11, G_11⟩
        case measure => simp [intOf]
    · obtain rfl : k = nb := by omega
      have hm1 : (k : Int) - 1 - (k : Int) = -1 := by omega
      rw [hm1]
      rw [Nat.sub_self, Nat.pow_zero, Nat.div_one] at hR
      go_wp2_with (first | refine wpList_load_mid rfl 37 _ rfl o 0 rfl M _ (at_mid hC.out 0 _ (by simp)) Tryd.underlying37 rfl hM.il ?_ | refine list_store_oth rfl 37 _ _ rfl (w.heap.size + 1) M _ rfl rfl hB.out (hM.len.trans rfl) hM.is hM.one (fun F hC2 hO => ?_) | fail)
      exact bodyPost_ret (v := .agg M.toArray) (results_mid (Tryd.results13) _ F (w.heap.size + 1) 0 M _ rfl hC2.range Tryd.underlying37 rfl hM.il) rfl ⟨_, rfl, pm_oth hR.out hB.out (no_ints none none none 0 0 0 0 0 0 false) hO, Oth.bel hG.out hO (by omega)⟩
end Go.Proofs.YtedhfimjcpbcpaaDoor.Ed

/-
  The law ComboMuls of layer 11 is true of any bytes and any number. Conditions: the package's variables are as the program lays them.
-/
namespace Go.Proofs.YtedhfimjcpbcpaaDoor.Ed
open Go.RowKit
set_option linter.unusedVariables false
set_option linter.unusedSimpArgs false

/-- What the program's Of makes of any bytes. -/
theorem ofF_any (l : List Nat) (hb : Bb l) : (∃ P, bytesOf P = l) ∨ ∃ c : P4, ∀ (v : Value) (w : World), SK .u8 w v l → Gd w → Gl w → Calls Tryd.prog 7 #[v] w fun e w' => e = .returned (.tuple #[.agg c.l.toArray, .bool false]) ∧ Below w.heap.size w w' := by
  by_cases h : ∃ P, bytesOf P = l
  · exact Or.inl h
  · exact Or.inr ⟨nilP, fun v w hs hD hZ => of_no_p l hb (fun P hP => h ⟨P, hP⟩) v w hs hD hZ⟩
theorem same_yes (p q : P4) (P Q : Pt) (hp : p.Is P) (hq : q.Is Q) (h : P = Q) : ∀ w : World, Calls Tryd.prog 18 #[.agg p.l.toArray, .agg q.l.toArray] w fun e w' => e = .returned (.bool true) ∧ Below w.heap.size w w' := by
  obtain ⟨b, hb, qb⟩ := same_p p q P Q hp hq
  rw [hb.2 h] at qb
  exact qb
theorem same_no (p q : P4) (P Q : Pt) (hp : p.Is P) (hq : q.Is Q) (h : ¬ P = Q) : ∀ w : World, Calls Tryd.prog 18 #[.agg p.l.toArray, .agg q.l.toArray] w fun e w' => e = .returned (.bool false) ∧ Below w.heap.size w w' := by
  obtain ⟨b, hb, qb⟩ := same_p p q P Q hp hq
  cases b with
  | true => exact absurd (hb.1 rfl) h
  | false => exact qb
theorem base_ne : ¬ baseP = Pt.zero := fun h => absurd ((S4.none_is _ _ base_is).2 h) (by decide +kernel)
theorem ws_3 : wv (ws 3) = [.int .u64 3, .int .u64 0, .int .u64 0, .int .u64 0] := by
  have h : ws 3 = [3, 0, 0, 0] := by decide +kernel
  rw [wv, h]
  rfl
theorem ws_0 : wv (ws 0) = [.int .u64 0, .int .u64 0, .int .u64 0, .int .u64 0] := by
  have h : ws 0 = [0, 0, 0, 0] := by decide +kernel
  rw [wv, h]
  rfl
theorem awake11 (w : World) (hE : Env w) : Calls Tryd.prog 6 #[] w fun e w' => e = .returned (.bool true) ∧ Below w.heap.size w w' := by
  obtain ⟨b, hb, qb⟩ := base_p
  obtain ⟨t, ht, qt⟩ := baseK_p 3 (by decide)
  obtain ⟨d, hd, qd⟩ := double_p b _ hb
  obtain ⟨s, hs, qs⟩ := add_p d b _ _ hd hb
  obtain ⟨m, hm, qm⟩ := mul_p b _ hb 0 (by decide)
  obtain ⟨z, hz, qz⟩ := zero_p
  rw [ws_3] at qt
  rw [ws_0] at qm
  have e3 : Pt.mul 3 baseP = (baseP.add baseP).add baseP := by rw [show (3 : Nat) = 2 + 1 from rfl, Pt.mul_next, mul_twice]
  exact awake11_w b.l t.l d.l s.l m.l z.l b.pl t.pl d.pl s.pl m.pl z.pl (fun w h => qb w h.u h.v) (fun w h => qt w h.u h.v h.t h.z.f) (fun w h => qd w h.z.f) (fun w h => qs w h.t h.z.f)
    (same_yes t s _ _ ht hs e3) (fun w h => qm w h.t h.z.f) qz (same_yes m z _ _ hm hz rfl) qz (same_no b z _ _ hb hz base_ne) w hE
theorem order_raw (w : World) : Calls Tryd.prog 15 #[] w fun e w' => e = .returned (.agg #[.int .u64 6346243789798364141, .int .u64 1503914060200516822, .int .u64 0, .int .u64 1152921504606846976]) ∧ Below w.heap.size w w' := by
  have h := order_any w
  rw [order_words] at h
  exact h
theorem orderR_four (v : Value) (w : World) (h : Num w v L25) : Calls Tryd.prog 16 #[v] w fun e w' => e = .returned (.agg #[.int .u64 6346243789798364141, .int .u64 1503914060200516822, .int .u64 0, .int .u64 1152921504606846976]) ∧ Below w.heap.size w w' := by
  have k := four_num L25 v w h 11 (Nat.lt_trans L25_lt (by decide +kernel)) (by omega)
  rw [Nat.mod_eq_of_lt L25_lt, four_ws L25 L25_lt, order_words] at k
  exact k
theorem ofN_ws (x : Nat) (hx : x < M4) (w : World) : Calls Tryd.prog 14 #[.agg (wv (ws x)).toArray] w fun e w' => ∃ v, e = .returned v ∧ Num w' v x ∧ Below w.heap.size w w' := by
  have h := of_ref_any x hx w
  rw [four_ws x hx] at h
  exact h
theorem M4_is : M4 = 2 ^ 256 := by decide +kernel
theorem mulR_any (x : Nat) (hx : x < M4) (P : Pt) (v v' : Value) (w : World) (h : Num w v x) (h' : Pm w v' P) : Calls Tryd.prog 13 #[v, v'] w fun e w' => ∃ u, e = .returned u ∧ Pm w' u (Pt.mul x P) ∧ Below w.heap.size w w' :=
  mulR_pt P x (by rw [← M4_is]; exact hx) v v' w h h'
theorem muls_all (v0 : Value) (l0 : List Nat) (x : Nat) (hx : x < M4) (W : World) (h : Gl W ∧ Gd W ∧ GtwiceD W ∧ GbaseX W ∧ GbaseY W) (h0 : SK .u8 W v0 l0) (b0 : Bb l0) :
    Calls Tryd.prog 3 #[v0, four x] W fun e w' => e = .returned (.bool true) ∧ Below W.heap.size W w' := by
  obtain ⟨a0, c0, rfl⟩ := h0.shape
  obtain ⟨hZ, hD, hT, hU, hV⟩ := h
  have hE : Env W := ⟨hD, hT, hU, hV, hZ⟩
  rw [four_ws x hx]
  rcases ofF_any l0 b0 with ⟨P, rfl⟩ | ⟨c, hc⟩
  · obtain ⟨p, hp, fp⟩ := of_yes_p P
    obtain ⟨m, hm, qm⟩ := mul_p p P hp x hx
    exact muls_yes_w _ p.l m.l (ws_wl x) p.pl m.pl a0 _ c0 _ P (Pt.mul x P) x (bytesOf (Pt.mul x P)) awake11 (fun v w s h => fp v w s h.d h.z) (fun v w h => of_pt P v w h) (fun w h => qm w h.t h.z.f) (bytes_p m _ hm)
      (ofN_ws x hx) (mulR_any x hx P) (fun v w h => bytes_pt _ v w h) (fun v v' w h h' => same_sk _ (by rw [bytes_length]; omega) v v' w h h') order_raw ordR_num orderR_four (fun w h => qm w h.t h.z.f)
      (same_yes m m _ _ hm hm rfl) W h0 hE
  · exact muls_no_w _ c.l (ws_wl x) c.pl a0 _ c0 l0 awake11 (fun v w s h => hc v w s h.d h.z) W h0 hE
end Go.Proofs.YtedhfimjcpbcpaaDoor.Ed
