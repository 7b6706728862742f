/-
  The program's over, of, Zero, Base, Neg of layer 10: the walk, given what each call answers. Conditions: as each theorem says.
-/
import Derived.Test.YtedhfimjcpbcpaaDoorKboe
namespace Go.Proofs.YtedhfimjcpbcpaaDoor.Ed
open Go.RowKit
set_option linter.unusedVariables false
set_option linter.unusedSimpArgs false

set_option maxRecDepth 100000 in
set_option maxHeartbeats 8000000 in
theorem over_w (ea ga ha fa ra rb rc rd : L5)
    (Q1 : Hid (∀ w : World, Calls Tryd.prog 66 #[.agg #[.int .u64 ea.l0, .int .u64 ea.l1, .int .u64 ea.l2, .int .u64 ea.l3, .int .u64 ea.l4], .agg #[.int .u64 fa.l0, .int .u64 fa.l1, .int .u64 fa.l2, .int .u64 fa.l3, .int .u64 fa.l4]] w fun e w' => e = .returned (.agg #[.int .u64 ra.l0, .int .u64 ra.l1, .int .u64 ra.l2, .int .u64 ra.l3, .int .u64 ra.l4]) ∧ Below w.heap.size w w'))
    (Q2 : Hid (∀ w : World, Calls Tryd.prog 66 #[.agg #[.int .u64 ga.l0, .int .u64 ga.l1, .int .u64 ga.l2, .int .u64 ga.l3, .int .u64 ga.l4], .agg #[.int .u64 ha.l0, .int .u64 ha.l1, .int .u64 ha.l2, .int .u64 ha.l3, .int .u64 ha.l4]] w fun e w' => e = .returned (.agg #[.int .u64 rb.l0, .int .u64 rb.l1, .int .u64 rb.l2, .int .u64 rb.l3, .int .u64 rb.l4]) ∧ Below w.heap.size w w'))
    (Q3 : Hid (∀ w : World, Calls Tryd.prog 66 #[.agg #[.int .u64 fa.l0, .int .u64 fa.l1, .int .u64 fa.l2, .int .u64 fa.l3, .int .u64 fa.l4], .agg #[.int .u64 ga.l0, .int .u64 ga.l1, .int .u64 ga.l2, .int .u64 ga.l3, .int .u64 ga.l4]] w fun e w' => e = .returned (.agg #[.int .u64 rc.l0, .int .u64 rc.l1, .int .u64 rc.l2, .int .u64 rc.l3, .int .u64 rc.l4]) ∧ Below w.heap.size w w'))
    (Q4 : Hid (∀ w : World, Calls Tryd.prog 66 #[.agg #[.int .u64 ea.l0, .int .u64 ea.l1, .int .u64 ea.l2, .int .u64 ea.l3, .int .u64 ea.l4], .agg #[.int .u64 ha.l0, .int .u64 ha.l1, .int .u64 ha.l2, .int .u64 ha.l3, .int .u64 ha.l4]] w fun e w' => e = .returned (.agg #[.int .u64 rd.l0, .int .u64 rd.l1, .int .u64 rd.l2, .int .u64 rd.l3, .int .u64 rd.l4]) ∧ Below w.heap.size w w'))
    (w : World) :
    Calls Tryd.prog 72 #[.agg #[.int .u64 ea.l0, .int .u64 ea.l1, .int .u64 ea.l2, .int .u64 ea.l3, .int .u64 ea.l4], .agg #[.int .u64 ga.l0, .int .u64 ga.l1, .int .u64 ga.l2, .int .u64 ga.l3, .int .u64 ga.l4], .agg #[.int .u64 ha.l0, .int .u64 ha.l1, .int .u64 ha.l2, .int .u64 ha.l3, .int .u64 ha.l4], .agg #[.int .u64 fa.l0, .int .u64 fa.l1, .int .u64 fa.l2, .int .u64 fa.l3, .int .u64 fa.l4]] w fun e w' => e = .returned (.agg #[.int .u64 ra.l0, .int .u64 ra.l1, .int .u64 ra.l2, .int .u64 ra.l3, .int .u64 ra.l4, .int .u64 rb.l0, .int .u64 rb.l1, .int .u64 rb.l2, .int .u64 rb.l3, .int .u64 rb.l4, .int .u64 rc.l0, .int .u64 rc.l1, .int .u64 rc.l2, .int .u64 rc.l3, .int .u64 rc.l4, .int .u64 rd.l0, .int .u64 rd.l1, .int .u64 rd.l2, .int .u64 rd.l3, .int .u64 rd.l4]) ∧ Below w.heap.size w w' := by
  obtain ⟨ea0, ea1, ea2, ea3, ea4⟩ := ea
  obtain ⟨ga0, ga1, ga2, ga3, ga4⟩ := ga
  obtain ⟨ha0, ha1, ha2, ha3, ha4⟩ := ha
  obtain ⟨fa0, fa1, fa2, fa3, fa4⟩ := fa
  obtain ⟨ra0, ra1, ra2, ra3, ra4⟩ := ra
  obtain ⟨rb0, rb1, rb2, rb3, rb4⟩ := rb
  obtain ⟨rc0, rc1, rc2, rc3, rc4⟩ := rc
  obtain ⟨rd0, rd1, rd2, rd3, rd4⟩ := rd
  dsimp only at Q1 Q2 Q3 Q4 ⊢
  go_enter Tryd.func72, Tryd.ntmps72
  go_upto_region 1 with fail
  refine wp_cut (fun V => At 28 V w.heap.size [.int .u64 ea0, .int .u64 ea1, .int .u64 ea2, .int .u64 ea3, .int .u64 ea4] ∧ At 28 V (w.heap.size + 1) [.int .u64 ga0, .int .u64 ga1, .int .u64 ga2, .int .u64 ga3, .int .u64 ga4] ∧ At 28 V (w.heap.size + 1 + 1) [.int .u64 ha0, .int .u64 ha1, .int .u64 ha2, .int .u64 ha3, .int .u64 ha4] ∧ At 28 V (w.heap.size + 1 + 1 + 1) [.int .u64 fa0, .int .u64 fa1, .int .u64 fa2, .int .u64 fa3, .int .u64 fa4] ∧ At 32 V (w.heap.size + 1 + 1 + 1 + 1) [.int .u64 0, .int .u64 0, .int .u64 0, .int .u64 0, .int .u64 0, .int .u64 0, .int .u64 0, .int .u64 0, .int .u64 0, .int .u64 0, .int .u64 0, .int .u64 0, .int .u64 0, .int .u64 0, .int .u64 0, .int .u64 0, .int .u64 0, .int .u64 0, .int .u64 0, .int .u64 0] ∧ Below w.heap.size w V) ⟨?_, ?_, ?_, ?_, ?_, ?_⟩ ?_
  · (repeat (first | refine At.drew ?_ | refine At.drewN ?_ _ | (refine at_new2 _ _ _ _ ?_; simp; done) | refine at_alloc ?_ _))
  · (repeat (first | refine At.drew ?_ | refine At.drewN ?_ _ | (refine at_new2 _ _ _ _ ?_; simp; done) | refine at_alloc ?_ _))
  · (repeat (first | refine At.drew ?_ | refine At.drewN ?_ _ | (refine at_new2 _ _ _ _ ?_; simp; done) | refine at_alloc ?_ _))
  · (repeat (first | refine At.drew ?_ | refine At.drewN ?_ _ | (refine at_new2 _ _ _ _ ?_; simp; done) | refine at_alloc ?_ _))
  · (repeat (first | refine At.drew ?_ | refine At.drewN ?_ _ | (refine at_new2 _ _ _ _ ?_; simp; done) | refine at_alloc ?_ _))
  · (repeat (first | exact Below.refl _ _ | refine Below.drew ?_ | refine below_drewN ?_ _ | refine Below.alloc ?_ (by simp <;> omega) _))
  rintro w1 ⟨k0, k1, k2, k3, k4, k5⟩
  have B4_1 := hid k0
  have B5_1 := hid k1
  have B6_1 := hid k2
  have B7_1 := hid k3
  have B8_1 := hid k4
  have G_1 := hid k5
  clear k0 k1 k2 k3 k4 k5
  have K1 : At 28 w1.drew w.heap.size [.int .u64 ea0, .int .u64 ea1, .int .u64 ea2, .int .u64 ea3, .int .u64 ea4] ∧ At 28 w1.drew (w.heap.size + 1 + 1 + 1) [.int .u64 fa0, .int .u64 fa1, .int .u64 fa2, .int .u64 fa3, .int .u64 fa4] ∧ At 28 w1.drew (w.heap.size + 1) [.int .u64 ga0, .int .u64 ga1, .int .u64 ga2, .int .u64 ga3, .int .u64 ga4] ∧ At 28 w1.drew (w.heap.size + 1 + 1) [.int .u64 ha0, .int .u64 ha1, .int .u64 ha2, .int .u64 ha3, .int .u64 ha4] := And.intro B4_1.out.drew (And.intro B7_1.out.drew (And.intro B5_1.out.drew (B6_1.out.drew)))
  refine wp_region_late (L := 14) (S := fun w' => At 28 w' w.heap.size [.int .u64 ea0, .int .u64 ea1, .int .u64 ea2, .int .u64 ea3, .int .u64 ea4] ∧ At 28 w' (w.heap.size + 1 + 1 + 1) [.int .u64 fa0, .int .u64 fa1, .int .u64 fa2, .int .u64 fa3, .int .u64 fa4] ∧ At 28 w' (w.heap.size + 1) [.int .u64 ga0, .int .u64 ga1, .int .u64 ga2, .int .u64 ga3, .int .u64 ga4] ∧ At 28 w' (w.heap.size + 1 + 1) [.int .u64 ha0, .int .u64 ha1, .int .u64 ha2, .int .u64 ha3, .int .u64 ha4]) (by kernel_rfl) K1 (fun hHeld => ?_)
  clear K1
  refine l_take 0 (v := .agg #[.int .u64 ea0, .int .u64 ea1, .int .u64 ea2, .int .u64 ea3, .int .u64 ea4]) rfl (by kernel_rfl) (by kernel_rfl) (by kernel_rfl) (by kernel_rfl) (fun _ _ _ h => h) (by rfl) ?hyr0_0 (by assumption) ?_
  case hyr0_0 =>
    intro w' hSw
    exact load_run 28 _ rfl _ 0 rfl _ _ (at_mid hSw.1 0 _ rfl) Tryd.underlying28 rfl (by kernel_rfl)
  try simp only [Act.put, List.setIfInBounds_toArray, List.set_cons_zero, List.set_cons_succ]
  refine l_take 1 (v := .agg #[.int .u64 fa0, .int .u64 fa1, .int .u64 fa2, .int .u64 fa3, .int .u64 fa4]) rfl (by kernel_rfl) (by kernel_rfl) (by kernel_rfl) (by kernel_rfl) (fun _ _ _ h => h) (by rfl) ?hyr0_1 (by assumption) ?_
  case hyr0_1 =>
    intro w' hSw
    exact load_run 28 _ rfl _ 0 rfl _ _ (at_mid hSw.2.1 0 _ rfl) Tryd.underlying28 rfl (by kernel_rfl)
  try simp only [Act.put, List.setIfInBounds_toArray, List.set_cons_zero, List.set_cons_succ]
  refine l_take 3 (v := .agg #[.int .u64 ga0, .int .u64 ga1, .int .u64 ga2, .int .u64 ga3, .int .u64 ga4]) rfl (by kernel_rfl) (by kernel_rfl) (by kernel_rfl) (by kernel_rfl) (fun _ _ _ h => h) (by rfl) ?hyr0_3 (by assumption) ?_
  case hyr0_3 =>
    intro w' hSw
    exact load_run 28 _ rfl _ 0 rfl _ _ (at_mid hSw.2.2.1 0 _ rfl) Tryd.underlying28 rfl (by kernel_rfl)
  try simp only [Act.put, List.setIfInBounds_toArray, List.set_cons_zero, List.set_cons_succ]
  refine l_take 4 (v := .agg #[.int .u64 ha0, .int .u64 ha1, .int .u64 ha2, .int .u64 ha3, .int .u64 ha4]) rfl (by kernel_rfl) (by kernel_rfl) (by kernel_rfl) (by kernel_rfl) (fun _ _ _ h => h) (by rfl) ?hyr0_4 (by assumption) ?_
  case hyr0_4 =>
    intro w' hSw
    exact load_run 28 _ rfl _ 0 rfl _ _ (at_mid hSw.2.2.2 0 _ rfl) Tryd.underlying28 rfl (by kernel_rfl)
  try simp only [Act.put, List.setIfInBounds_toArray, List.set_cons_zero, List.set_cons_succ]
  refine l_take 6 (v := .agg #[.int .u64 fa0, .int .u64 fa1, .int .u64 fa2, .int .u64 fa3, .int .u64 fa4]) rfl (by kernel_rfl) (by kernel_rfl) (by kernel_rfl) (by kernel_rfl) (fun _ _ _ h => h) (by rfl) ?hyr0_6 (by assumption) ?_
  case hyr0_6 =>
    intro w' hSw
    exact load_run 28 _ rfl _ 0 rfl _ _ (at_mid hSw.2.1 0 _ rfl) Tryd.underlying28 rfl (by kernel_rfl)
  try simp only [Act.put, List.setIfInBounds_toArray, List.set_cons_zero, List.set_cons_succ]
  refine l_take 7 (v := .agg #[.int .u64 ga0, .int .u64 ga1, .int .u64 ga2, .int .u64 ga3, .int .u64 ga4]) rfl (by kernel_rfl) (by kernel_rfl) (by kernel_rfl) (by kernel_rfl) (fun _ _ _ h => h) (by rfl) ?hyr0_7 (by assumption) ?_
  case hyr0_7 =>
    intro w' hSw
    exact load_run 28 _ rfl _ 0 rfl _ _ (at_mid hSw.2.2.1 0 _ rfl) Tryd.underlying28 rfl (by kernel_rfl)
  try simp only [Act.put, List.setIfInBounds_toArray, List.set_cons_zero, List.set_cons_succ]
  refine l_take 10 (v := .agg #[.int .u64 ea0, .int .u64 ea1, .int .u64 ea2, .int .u64 ea3, .int .u64 ea4]) rfl (by kernel_rfl) (by kernel_rfl) (by kernel_rfl) (by kernel_rfl) (fun _ _ _ h => h) (by rfl) ?hyr0_10 (by assumption) ?_
  case hyr0_10 =>
    intro w' hSw
    exact load_run 28 _ rfl _ 0 rfl _ _ (at_mid hSw.1 0 _ rfl) Tryd.underlying28 rfl (by kernel_rfl)
  try simp only [Act.put, List.setIfInBounds_toArray, List.set_cons_zero, List.set_cons_succ]
  refine l_take 11 (v := .agg #[.int .u64 ha0, .int .u64 ha1, .int .u64 ha2, .int .u64 ha3, .int .u64 ha4]) rfl (by kernel_rfl) (by kernel_rfl) (by kernel_rfl) (by kernel_rfl) (fun _ _ _ h => h) (by rfl) ?hyr0_11 (by assumption) ?_
  case hyr0_11 =>
    intro w' hSw
    exact load_run 28 _ rfl _ 0 rfl _ _ (at_mid hSw.2.2.2 0 _ rfl) Tryd.underlying28 rfl (by kernel_rfl)
  try simp only [Act.put, List.setIfInBounds_toArray, List.set_cons_zero, List.set_cons_succ]
  refine l_call 2 rfl (by kernel_rfl) (by rfl) (fun Kk hK => ?_)
  go_simp
  (refine (Q1.out _).mono ?_)
  rintro e w2 ⟨rfl, g0⟩
  have g : Below w1.heap.size w1 w2 := (Below.refl _ w1).drew.trans g0
  clear g0
  have B4_2 := hid (B4_1.out.below g)
  have B5_2 := hid (B5_1.out.below g)
  have B6_2 := hid (B6_1.out.below g)
  have B7_2 := hid (B7_1.out.below g)
  have B8_2 := hid (B8_1.out.below g)
  have G_2 := hid (G_1.out.trans (g.mono G_1.out.size))
  clear g B4_1 B5_1 B6_1 B7_1 B8_1 G_1
  have K2 := And.intro B4_2.out (And.intro B7_2.out (And.intro B5_2.out (B6_2.out)))
  clear hHeld
  refine hK.out _ _ (Or.inr K2) ?_
  have hHeld := K2
  clear hK Kk K2
  try simp only [Act.put, List.setIfInBounds_toArray, List.set_cons_zero, List.set_cons_succ]
  refine l_call 5 rfl (by kernel_rfl) (by rfl) (fun Kk hK => ?_)
  go_simp
  (refine (Q2.out _).mono ?_)
  rintro e w3 ⟨rfl, g0⟩
  have g := g0
  clear g0
  have B4_3 := hid (B4_2.out.below g)
  have B5_3 := hid (B5_2.out.below g)
  have B6_3 := hid (B6_2.out.below g)
  have B7_3 := hid (B7_2.out.below g)
  have B8_3 := hid (B8_2.out.below g)
  have G_3 := hid (G_2.out.trans (g.mono G_2.out.size))
  clear g B4_2 B5_2 B6_2 B7_2 B8_2 G_2
  have K3 := And.intro B4_3.out (And.intro B7_3.out (And.intro B5_3.out (B6_3.out)))
  clear hHeld
  refine hK.out _ _ (Or.inr K3) ?_
  have hHeld := K3
  clear hK Kk K3
  try simp only [Act.put, List.setIfInBounds_toArray, List.set_cons_zero, List.set_cons_succ]
  refine l_call 8 rfl (by kernel_rfl) (by rfl) (fun Kk hK => ?_)
  go_simp
  (refine (Q3.out _).mono ?_)
  rintro e w4 ⟨rfl, g0⟩
  have g := g0
  clear g0
  have B4_4 := hid (B4_3.out.below g)
  have B5_4 := hid (B5_3.out.below g)
  have B6_4 := hid (B6_3.out.below g)
  have B7_4 := hid (B7_3.out.below g)
  have B8_4 := hid (B8_3.out.below g)
  have G_4 := hid (G_3.out.trans (g.mono G_3.out.size))
  clear g B4_3 B5_3 B6_3 B7_3 B8_3 G_3
  have K4 := And.intro B4_4.out (And.intro B7_4.out (And.intro B5_4.out (B6_4.out)))
  clear hHeld
  refine hK.out _ _ (Or.inr K4) ?_
  have hHeld := K4
  clear hK Kk K4
  try simp only [Act.put, List.setIfInBounds_toArray, List.set_cons_zero, List.set_cons_succ]
  refine l_take 9 (v := .agg #[.int .u64 ra0, .int .u64 ra1, .int .u64 ra2, .int .u64 ra3, .int .u64 ra4, .int .u64 rb0, .int .u64 rb1, .int .u64 rb2, .int .u64 rb3, .int .u64 rb4, .int .u64 rc0, .int .u64 rc1, .int .u64 rc2, .int .u64 rc3, .int .u64 rc4]) rfl (by kernel_rfl) (by kernel_rfl) (by kernel_rfl) (by kernel_rfl) (fun _ _ _ h => h) (by rfl) ?hyr0_9 (by assumption) ?_
  case hyr0_9 =>
    intro w' hSw
    clear hSw
    go_simp
  try simp only [Act.put, List.setIfInBounds_toArray, List.set_cons_zero, List.set_cons_succ]
  refine l_call 12 rfl (by kernel_rfl) (by rfl) (fun Kk hK => ?_)
  go_simp
  (refine (Q4.out _).mono ?_)
  rintro e w5 ⟨rfl, g0⟩
  have g := g0
  clear g0
  have B4_5 := hid (B4_4.out.below g)
  have B5_5 := hid (B5_4.out.below g)
  have B6_5 := hid (B6_4.out.below g)
  have B7_5 := hid (B7_4.out.below g)
  have B8_5 := hid (B8_4.out.below g)
  have G_5 := hid (G_4.out.trans (g.mono G_4.out.size))
  clear g B4_4 B5_4 B6_4 B7_4 B8_4 G_4
  have K5 := And.intro B4_5.out (And.intro B7_5.out (And.intro B5_5.out (B6_5.out)))
  clear hHeld
  refine hK.out _ _ (Or.inr K5) ?_
  have hHeld := K5
  clear hK Kk K5
  try simp only [Act.put, List.setIfInBounds_toArray, List.set_cons_zero, List.set_cons_succ]
  refine l_take 13 (v := .agg #[.int .u64 ra0, .int .u64 ra1, .int .u64 ra2, .int .u64 ra3, .int .u64 ra4, .int .u64 rb0, .int .u64 rb1, .int .u64 rb2, .int .u64 rb3, .int .u64 rb4, .int .u64 rc0, .int .u64 rc1, .int .u64 rc2, .int .u64 rc3, .int .u64 rc4, .int .u64 rd0, .int .u64 rd1, .int .u64 rd2, .int .u64 rd3, .int .u64 rd4]) rfl (by kernel_rfl) (by kernel_rfl) (by kernel_rfl) (by kernel_rfl) (fun _ _ _ h => h) (by rfl) ?hyr0_13 (by assumption) ?_
  case hyr0_13 =>
    intro w' hSw
    clear hSw
    go_simp
  try simp only [Act.put, List.setIfInBounds_toArray, List.set_cons_zero, List.set_cons_succ]
  refine l_call 14 rfl (by kernel_rfl) (by rfl) (fun Kk hK => ?_)
  refine store_whole 32 _ _ rfl (w.heap.size + 1 + 1 + 1 + 1) [.int .u64 ra0, .int .u64 ra1, .int .u64 ra2, .int .u64 ra3, .int .u64 ra4, .int .u64 rb0, .int .u64 rb1, .int .u64 rb2, .int .u64 rb3, .int .u64 rb4, .int .u64 rc0, .int .u64 rc1, .int .u64 rc2, .int .u64 rc3, .int .u64 rc4, .int .u64 rd0, .int .u64 rd1, .int .u64 rd2, .int .u64 rd3, .int .u64 rd4] _ rfl rfl B8_5.out rfl (by kernel_rfl) (by kernel_rfl) w.heap.size w G_5.out (by omega) (fun F hC hB => ?_)
  refine hK.out _ _ (Or.inl rfl) ?_
  clear hK Kk
  try simp only [Act.put, List.setIfInBounds_toArray, List.set_cons_zero, List.set_cons_succ]
  refine l_done (by kernel_rfl) ?_ _
  go_wp2_with fail
  exact bodyPost_ret (v := .agg #[.int .u64 ra0, .int .u64 ra1, .int .u64 ra2, .int .u64 ra3, .int .u64 ra4, .int .u64 rb0, .int .u64 rb1, .int .u64 rb2, .int .u64 rb3, .int .u64 rb4, .int .u64 rc0, .int .u64 rc1, .int .u64 rc2, .int .u64 rc3, .int .u64 rc4, .int .u64 rd0, .int .u64 rd1, .int .u64 rd2, .int .u64 rd3, .int .u64 rd4]) (results_mid (Tryd.results72) _ F (w.heap.size + 1 + 1 + 1 + 1) 0 [.int .u64 ra0, .int .u64 ra1, .int .u64 ra2, .int .u64 ra3, .int .u64 ra4, .int .u64 rb0, .int .u64 rb1, .int .u64 rb2, .int .u64 rb3, .int .u64 rb4, .int .u64 rc0, .int .u64 rc1, .int .u64 rc2, .int .u64 rc3, .int .u64 rc4, .int .u64 rd0, .int .u64 rd1, .int .u64 rd2, .int .u64 rd3, .int .u64 rd4] _ rfl hC.range Tryd.underlying32 rfl (by kernel_rfl)) rfl ⟨rfl, hB⟩
set_option maxRecDepth 100000 in
set_option maxHeartbeats 8000000 in
theorem of_w (xa ya ta : L5)
    (Q1 : Hid (∀ w : World, Calls Tryd.prog 79 #[.int .u32 1] w fun e w' => e = .returned (.agg #[.int .u64 1, .int .u64 0, .int .u64 0, .int .u64 0, .int .u64 0]) ∧ Below w.heap.size w w'))
    (Q2 : Hid (∀ w : World, Calls Tryd.prog 66 #[.agg #[.int .u64 xa.l0, .int .u64 xa.l1, .int .u64 xa.l2, .int .u64 xa.l3, .int .u64 xa.l4], .agg #[.int .u64 ya.l0, .int .u64 ya.l1, .int .u64 ya.l2, .int .u64 ya.l3, .int .u64 ya.l4]] w fun e w' => e = .returned (.agg #[.int .u64 ta.l0, .int .u64 ta.l1, .int .u64 ta.l2, .int .u64 ta.l3, .int .u64 ta.l4]) ∧ Below w.heap.size w w'))
    (w : World) :
    Calls Tryd.prog 40 #[.agg #[.int .u64 xa.l0, .int .u64 xa.l1, .int .u64 xa.l2, .int .u64 xa.l3, .int .u64 xa.l4], .agg #[.int .u64 ya.l0, .int .u64 ya.l1, .int .u64 ya.l2, .int .u64 ya.l3, .int .u64 ya.l4]] w fun e w' => e = .returned (.agg #[.int .u64 xa.l0, .int .u64 xa.l1, .int .u64 xa.l2, .int .u64 xa.l3, .int .u64 xa.l4, .int .u64 ya.l0, .int .u64 ya.l1, .int .u64 ya.l2, .int .u64 ya.l3, .int .u64 ya.l4, .int .u64 1, .int .u64 0, .int .u64 0, .int .u64 0, .int .u64 0, .int .u64 ta.l0, .int .u64 ta.l1, .int .u64 ta.l2, .int .u64 ta.l3, .int .u64 ta.l4]) ∧ Below w.heap.size w w' := by
  obtain ⟨xa0, xa1, xa2, xa3, xa4⟩ := xa
  obtain ⟨ya0, ya1, ya2, ya3, ya4⟩ := ya
  obtain ⟨ta0, ta1, ta2, ta3, ta4⟩ := ta
  dsimp only at Q1 Q2 ⊢
  go_enter Tryd.func40, Tryd.ntmps40
  go_upto_region 1 with fail
  refine wp_cut (fun V => At 28 V w.heap.size [.int .u64 xa0, .int .u64 xa1, .int .u64 xa2, .int .u64 xa3, .int .u64 xa4] ∧ At 28 V (w.heap.size + 1) [.int .u64 ya0, .int .u64 ya1, .int .u64 ya2, .int .u64 ya3, .int .u64 ya4] ∧ At 32 V (w.heap.size + 1 + 1) [.int .u64 0, .int .u64 0, .int .u64 0, .int .u64 0, .int .u64 0, .int .u64 0, .int .u64 0, .int .u64 0, .int .u64 0, .int .u64 0, .int .u64 0, .int .u64 0, .int .u64 0, .int .u64 0, .int .u64 0, .int .u64 0, .int .u64 0, .int .u64 0, .int .u64 0, .int .u64 0] ∧ Below w.heap.size w V) ⟨?_, ?_, ?_, ?_⟩ ?_
  · (repeat (first | refine At.drew ?_ | refine At.drewN ?_ _ | (refine at_new2 _ _ _ _ ?_; simp; done) | refine at_alloc ?_ _))
  · (repeat (first | refine At.drew ?_ | refine At.drewN ?_ _ | (refine at_new2 _ _ _ _ ?_; simp; done) | refine at_alloc ?_ _))
  · (repeat (first | refine At.drew ?_ | refine At.drewN ?_ _ | (refine at_new2 _ _ _ _ ?_; simp; done) | refine at_alloc ?_ _))
  · (repeat (first | exact Below.refl _ _ | refine Below.drew ?_ | refine below_drewN ?_ _ | refine Below.alloc ?_ (by simp <;> omega) _))
  rintro w1 ⟨k0, k1, k2, k3⟩
  have B2_1 := hid k0
  have B3_1 := hid k1
  have B4_1 := hid k2
  have G_1 := hid k3
  clear k0 k1 k2 k3
  have K1 : At 28 w1.drew w.heap.size [.int .u64 xa0, .int .u64 xa1, .int .u64 xa2, .int .u64 xa3, .int .u64 xa4] ∧ At 28 w1.drew (w.heap.size + 1) [.int .u64 ya0, .int .u64 ya1, .int .u64 ya2, .int .u64 ya3, .int .u64 ya4] := And.intro B2_1.out.drew (B3_1.out.drew)
  refine wp_region_late (L := 8) (S := fun w' => At 28 w' w.heap.size [.int .u64 xa0, .int .u64 xa1, .int .u64 xa2, .int .u64 xa3, .int .u64 xa4] ∧ At 28 w' (w.heap.size + 1) [.int .u64 ya0, .int .u64 ya1, .int .u64 ya2, .int .u64 ya3, .int .u64 ya4]) (by kernel_rfl) K1 (fun hHeld => ?_)
  clear K1
  refine l_take 0 (v := .agg #[.int .u64 xa0, .int .u64 xa1, .int .u64 xa2, .int .u64 xa3, .int .u64 xa4]) rfl (by kernel_rfl) (by kernel_rfl) (by kernel_rfl) (by kernel_rfl) (fun _ _ _ h => h) (by rfl) ?hyr0_0 (by assumption) ?_
  case hyr0_0 =>
    intro w' hSw
    exact load_run 28 _ rfl _ 0 rfl _ _ (at_mid hSw.1 0 _ rfl) Tryd.underlying28 rfl (by kernel_rfl)
  try simp only [Act.put, List.setIfInBounds_toArray, List.set_cons_zero, List.set_cons_succ]
  refine l_take 1 (v := .agg #[.int .u64 ya0, .int .u64 ya1, .int .u64 ya2, .int .u64 ya3, .int .u64 ya4]) rfl (by kernel_rfl) (by kernel_rfl) (by kernel_rfl) (by kernel_rfl) (fun _ _ _ h => h) (by rfl) ?hyr0_1 (by assumption) ?_
  case hyr0_1 =>
    intro w' hSw
    exact load_run 28 _ rfl _ 0 rfl _ _ (at_mid hSw.2 0 _ rfl) Tryd.underlying28 rfl (by kernel_rfl)
  try simp only [Act.put, List.setIfInBounds_toArray, List.set_cons_zero, List.set_cons_succ]
  refine l_take 4 (v := .agg #[.int .u64 xa0, .int .u64 xa1, .int .u64 xa2, .int .u64 xa3, .int .u64 xa4]) rfl (by kernel_rfl) (by kernel_rfl) (by kernel_rfl) (by kernel_rfl) (fun _ _ _ h => h) (by rfl) ?hyr0_4 (by assumption) ?_
  case hyr0_4 =>
    intro w' hSw
    exact load_run 28 _ rfl _ 0 rfl _ _ (at_mid hSw.1 0 _ rfl) Tryd.underlying28 rfl (by kernel_rfl)
  try simp only [Act.put, List.setIfInBounds_toArray, List.set_cons_zero, List.set_cons_succ]
  refine l_take 5 (v := .agg #[.int .u64 ya0, .int .u64 ya1, .int .u64 ya2, .int .u64 ya3, .int .u64 ya4]) rfl (by kernel_rfl) (by kernel_rfl) (by kernel_rfl) (by kernel_rfl) (fun _ _ _ h => h) (by rfl) ?hyr0_5 (by assumption) ?_
  case hyr0_5 =>
    intro w' hSw
    exact load_run 28 _ rfl _ 0 rfl _ _ (at_mid hSw.2 0 _ rfl) Tryd.underlying28 rfl (by kernel_rfl)
  try simp only [Act.put, List.setIfInBounds_toArray, List.set_cons_zero, List.set_cons_succ]
  refine l_call 2 rfl (by kernel_rfl) (by rfl) (fun Kk hK => ?_)
  go_simp
  (refine (Q1.out _).mono ?_)
  rintro e w2 ⟨rfl, g0⟩
  have g : Below w1.heap.size w1 w2 := (Below.refl _ w1).drew.trans g0
  clear g0
  have B2_2 := hid (B2_1.out.below g)
  have B3_2 := hid (B3_1.out.below g)
  have B4_2 := hid (B4_1.out.below g)
  have G_2 := hid (G_1.out.trans (g.mono G_1.out.size))
  clear g B2_1 B3_1 B4_1 G_1
  have K2 := And.intro B2_2.out (B3_2.out)
  clear hHeld
  refine hK.out _ _ (Or.inr K2) ?_
  have hHeld := K2
  clear hK Kk K2
  try simp only [Act.put, List.setIfInBounds_toArray, List.set_cons_zero, List.set_cons_succ]
  refine l_take 3 (v := .agg #[.int .u64 xa0, .int .u64 xa1, .int .u64 xa2, .int .u64 xa3, .int .u64 xa4, .int .u64 ya0, .int .u64 ya1, .int .u64 ya2, .int .u64 ya3, .int .u64 ya4, .int .u64 1, .int .u64 0, .int .u64 0, .int .u64 0, .int .u64 0]) rfl (by kernel_rfl) (by kernel_rfl) (by kernel_rfl) (by kernel_rfl) (fun _ _ _ h => h) (by rfl) ?hyr0_3 (by assumption) ?_
  case hyr0_3 =>
    intro w' hSw
    clear hSw
    go_simp
  try simp only [Act.put, List.setIfInBounds_toArray, List.set_cons_zero, List.set_cons_succ]
  refine l_call 6 rfl (by kernel_rfl) (by rfl) (fun Kk hK => ?_)
  go_simp
  (refine (Q2.out _).mono ?_)
  rintro e w3 ⟨rfl, g0⟩
  have g := g0
  clear g0
  have B2_3 := hid (B2_2.out.below g)
  have B3_3 := hid (B3_2.out.below g)
  have B4_3 := hid (B4_2.out.below g)
  have G_3 := hid (G_2.out.trans (g.mono G_2.out.size))
  clear g B2_2 B3_2 B4_2 G_2
  have K3 := And.intro B2_3.out (B3_3.out)
  clear hHeld
  refine hK.out _ _ (Or.inr K3) ?_
  have hHeld := K3
  clear hK Kk K3
  try simp only [Act.put, List.setIfInBounds_toArray, List.set_cons_zero, List.set_cons_succ]
  refine l_take 7 (v := .agg #[.int .u64 xa0, .int .u64 xa1, .int .u64 xa2, .int .u64 xa3, .int .u64 xa4, .int .u64 ya0, .int .u64 ya1, .int .u64 ya2, .int .u64 ya3, .int .u64 ya4, .int .u64 1, .int .u64 0, .int .u64 0, .int .u64 0, .int .u64 0, .int .u64 ta0, .int .u64 ta1, .int .u64 ta2, .int .u64 ta3, .int .u64 ta4]) rfl (by kernel_rfl) (by kernel_rfl) (by kernel_rfl) (by kernel_rfl) (fun _ _ _ h => h) (by rfl) ?hyr0_7 (by assumption) ?_
  case hyr0_7 =>
    intro w' hSw
    clear hSw
    go_simp
  try simp only [Act.put, List.setIfInBounds_toArray, List.set_cons_zero, List.set_cons_succ]
  refine l_call 8 rfl (by kernel_rfl) (by rfl) (fun Kk hK => ?_)
  refine store_whole 32 _ _ rfl (w.heap.size + 1 + 1) [.int .u64 xa0, .int .u64 xa1, .int .u64 xa2, .int .u64 xa3, .int .u64 xa4, .int .u64 ya0, .int .u64 ya1, .int .u64 ya2, .int .u64 ya3, .int .u64 ya4, .int .u64 1, .int .u64 0, .int .u64 0, .int .u64 0, .int .u64 0, .int .u64 ta0, .int .u64 ta1, .int .u64 ta2, .int .u64 ta3, .int .u64 ta4] _ rfl rfl B4_3.out rfl (by kernel_rfl) (by kernel_rfl) w.heap.size w G_3.out (by omega) (fun F hC hB => ?_)
  refine hK.out _ _ (Or.inl rfl) ?_
  clear hK Kk
  try simp only [Act.put, List.setIfInBounds_toArray, List.set_cons_zero, List.set_cons_succ]
  refine l_done (by kernel_rfl) ?_ _
  go_wp2_with fail
  exact bodyPost_ret (v := .agg #[.int .u64 xa0, .int .u64 xa1, .int .u64 xa2, .int .u64 xa3, .int .u64 xa4, .int .u64 ya0, .int .u64 ya1, .int .u64 ya2, .int .u64 ya3, .int .u64 ya4, .int .u64 1, .int .u64 0, .int .u64 0, .int .u64 0, .int .u64 0, .int .u64 ta0, .int .u64 ta1, .int .u64 ta2, .int .u64 ta3, .int .u64 ta4]) (results_mid (Tryd.results40) _ F (w.heap.size + 1 + 1) 0 [.int .u64 xa0, .int .u64 xa1, .int .u64 xa2, .int .u64 xa3, .int .u64 xa4, .int .u64 ya0, .int .u64 ya1, .int .u64 ya2, .int .u64 ya3, .int .u64 ya4, .int .u64 1, .int .u64 0, .int .u64 0, .int .u64 0, .int .u64 0, .int .u64 ta0, .int .u64 ta1, .int .u64 ta2, .int .u64 ta3, .int .u64 ta4] _ rfl hC.range Tryd.underlying32 rfl (by kernel_rfl)) rfl ⟨rfl, hB⟩
set_option maxRecDepth 100000 in
set_option maxHeartbeats 8000000 in
theorem zero_w (cx cy cz ct : L5)
    (Q1 : Hid (∀ w : World, Calls Tryd.prog 79 #[.int .u32 0] w fun e w' => e = .returned (.agg #[.int .u64 0, .int .u64 0, .int .u64 0, .int .u64 0, .int .u64 0]) ∧ Below w.heap.size w w'))
    (Q2 : Hid (∀ w : World, Calls Tryd.prog 79 #[.int .u32 1] w fun e w' => e = .returned (.agg #[.int .u64 1, .int .u64 0, .int .u64 0, .int .u64 0, .int .u64 0]) ∧ Below w.heap.size w w'))
    (Q3 : Hid (∀ w : World, Calls Tryd.prog 40 #[.agg #[.int .u64 0, .int .u64 0, .int .u64 0, .int .u64 0, .int .u64 0], .agg #[.int .u64 1, .int .u64 0, .int .u64 0, .int .u64 0, .int .u64 0]] w fun e w' => e = .returned (.agg #[.int .u64 cx.l0, .int .u64 cx.l1, .int .u64 cx.l2, .int .u64 cx.l3, .int .u64 cx.l4, .int .u64 cy.l0, .int .u64 cy.l1, .int .u64 cy.l2, .int .u64 cy.l3, .int .u64 cy.l4, .int .u64 cz.l0, .int .u64 cz.l1, .int .u64 cz.l2, .int .u64 cz.l3, .int .u64 cz.l4, .int .u64 ct.l0, .int .u64 ct.l1, .int .u64 ct.l2, .int .u64 ct.l3, .int .u64 ct.l4]) ∧ Below w.heap.size w w'))
    (w : World) :
    Calls Tryd.prog 33 #[] w fun e w' => e = .returned (.agg #[.int .u64 cx.l0, .int .u64 cx.l1, .int .u64 cx.l2, .int .u64 cx.l3, .int .u64 cx.l4, .int .u64 cy.l0, .int .u64 cy.l1, .int .u64 cy.l2, .int .u64 cy.l3, .int .u64 cy.l4, .int .u64 cz.l0, .int .u64 cz.l1, .int .u64 cz.l2, .int .u64 cz.l3, .int .u64 cz.l4, .int .u64 ct.l0, .int .u64 ct.l1, .int .u64 ct.l2, .int .u64 ct.l3, .int .u64 ct.l4]) ∧ Below w.heap.size w w' := by
  obtain ⟨cx0, cx1, cx2, cx3, cx4⟩ := cx
  obtain ⟨cy0, cy1, cy2, cy3, cy4⟩ := cy
  obtain ⟨cz0, cz1, cz2, cz3, cz4⟩ := cz
  obtain ⟨ct0, ct1, ct2, ct3, ct4⟩ := ct
  dsimp only at Q1 Q2 Q3 ⊢
  go_enter Tryd.func33, Tryd.ntmps33
  go_upto_region 1 with fail
  refine wp_cut (fun V => At 32 V w.heap.size [.int .u64 0, .int .u64 0, .int .u64 0, .int .u64 0, .int .u64 0, .int .u64 0, .int .u64 0, .int .u64 0, .int .u64 0, .int .u64 0, .int .u64 0, .int .u64 0, .int .u64 0, .int .u64 0, .int .u64 0, .int .u64 0, .int .u64 0, .int .u64 0, .int .u64 0, .int .u64 0] ∧ Below w.heap.size w V) ⟨?_, ?_⟩ ?_
  · (repeat (first | refine At.drew ?_ | refine At.drewN ?_ _ | (refine at_new2 _ _ _ _ ?_; simp; done) | refine at_alloc ?_ _))
  · (repeat (first | exact Below.refl _ _ | refine Below.drew ?_ | refine below_drewN ?_ _ | refine Below.alloc ?_ (by simp <;> omega) _))
  rintro w1 ⟨k0, k1⟩
  have B0_1 := hid k0
  have G_1 := hid k1
  clear k0 k1
  go_wp2_with (fail)
  refine (Q1.out _).mono ?_
  rintro e w2 ⟨rfl, g0⟩
  have g := g0
  clear g0
  have B0_2 := hid (B0_1.out.below g)
  have G_2 := hid (G_1.out.trans (g.mono G_1.out.size))
  clear g B0_1 G_1
  go_wp2_with (fail)
  refine (Q2.out _).mono ?_
  rintro e w3 ⟨rfl, g0⟩
  have g := g0
  clear g0
  have B0_3 := hid (B0_2.out.below g)
  have G_3 := hid (G_2.out.trans (g.mono G_2.out.size))
  clear g B0_2 G_2
  go_wp2_with (fail)
  refine (Q3.out _).mono ?_
  rintro e w4 ⟨rfl, g0⟩
  have g := g0
  clear g0
  have B0_4 := hid (B0_3.out.below g)
  have G_4 := hid (G_3.out.trans (g.mono G_3.out.size))
  clear g B0_3 G_3
  go_wp2_with (first | (refine list_store_whole rfl 32 _ _ rfl w.heap.size [.int .u64 cx0, .int .u64 cx1, .int .u64 cx2, .int .u64 cx3, .int .u64 cx4, .int .u64 cy0, .int .u64 cy1, .int .u64 cy2, .int .u64 cy3, .int .u64 cy4, .int .u64 cz0, .int .u64 cz1, .int .u64 cz2, .int .u64 cz3, .int .u64 cz4, .int .u64 ct0, .int .u64 ct1, .int .u64 ct2, .int .u64 ct3, .int .u64 ct4] _ rfl rfl B0_4.out rfl (by kernel_rfl) (by kernel_rfl) w.heap.size w G_4.out (by omega) (fun F hC hB => ?_)) | fail)
  exact bodyPost_ret (v := .agg #[.int .u64 cx0, .int .u64 cx1, .int .u64 cx2, .int .u64 cx3, .int .u64 cx4, .int .u64 cy0, .int .u64 cy1, .int .u64 cy2, .int .u64 cy3, .int .u64 cy4, .int .u64 cz0, .int .u64 cz1, .int .u64 cz2, .int .u64 cz3, .int .u64 cz4, .int .u64 ct0, .int .u64 ct1, .int .u64 ct2, .int .u64 ct3, .int .u64 ct4]) (results_mid (Tryd.results33) _ F w.heap.size 0 [.int .u64 cx0, .int .u64 cx1, .int .u64 cx2, .int .u64 cx3, .int .u64 cx4, .int .u64 cy0, .int .u64 cy1, .int .u64 cy2, .int .u64 cy3, .int .u64 cy4, .int .u64 cz0, .int .u64 cz1, .int .u64 cz2, .int .u64 cz3, .int .u64 cz4, .int .u64 ct0, .int .u64 ct1, .int .u64 ct2, .int .u64 ct3, .int .u64 ct4] _ rfl hC.range Tryd.underlying32 rfl (by kernel_rfl)) rfl ⟨rfl, hB⟩
set_option maxRecDepth 100000 in
set_option maxHeartbeats 8000000 in
theorem base_w (cx cy cz ct : L5)
    (Q1 : Hid (∀ w : World, Calls Tryd.prog 40 #[.agg #[.int .u64 1738742601995546, .int .u64 1146398526822698, .int .u64 2070867633025821, .int .u64 562264141797630, .int .u64 587772402128613], .agg #[.int .u64 1801439850948184, .int .u64 1351079888211148, .int .u64 450359962737049, .int .u64 900719925474099, .int .u64 1801439850948198]] w fun e w' => e = .returned (.agg #[.int .u64 cx.l0, .int .u64 cx.l1, .int .u64 cx.l2, .int .u64 cx.l3, .int .u64 cx.l4, .int .u64 cy.l0, .int .u64 cy.l1, .int .u64 cy.l2, .int .u64 cy.l3, .int .u64 cy.l4, .int .u64 cz.l0, .int .u64 cz.l1, .int .u64 cz.l2, .int .u64 cz.l3, .int .u64 cz.l4, .int .u64 ct.l0, .int .u64 ct.l1, .int .u64 ct.l2, .int .u64 ct.l3, .int .u64 ct.l4]) ∧ Below w.heap.size w w'))
    (w : World) (U_0 : Hid (GbaseX w)) (V_0 : Hid (GbaseY w)) :
    Calls Tryd.prog 25 #[] w fun e w' => e = .returned (.agg #[.int .u64 cx.l0, .int .u64 cx.l1, .int .u64 cx.l2, .int .u64 cx.l3, .int .u64 cx.l4, .int .u64 cy.l0, .int .u64 cy.l1, .int .u64 cy.l2, .int .u64 cy.l3, .int .u64 cy.l4, .int .u64 cz.l0, .int .u64 cz.l1, .int .u64 cz.l2, .int .u64 cz.l3, .int .u64 cz.l4, .int .u64 ct.l0, .int .u64 ct.l1, .int .u64 ct.l2, .int .u64 ct.l3, .int .u64 ct.l4]) ∧ Below w.heap.size w w' := by
  obtain ⟨cx0, cx1, cx2, cx3, cx4⟩ := cx
  obtain ⟨cy0, cy1, cy2, cy3, cy4⟩ := cy
  obtain ⟨cz0, cz1, cz2, cz3, cz4⟩ := cz
  obtain ⟨ct0, ct1, ct2, ct3, ct4⟩ := ct
  dsimp only at Q1 ⊢
  go_enter Tryd.func25, Tryd.ntmps25
  go_upto_region 1 with fail
  have HU := U_0.out.lt
  have HV := V_0.out.lt
  refine wp_cut (fun V => At 32 V w.heap.size [.int .u64 0, .int .u64 0, .int .u64 0, .int .u64 0, .int .u64 0, .int .u64 0, .int .u64 0, .int .u64 0, .int .u64 0, .int .u64 0, .int .u64 0, .int .u64 0, .int .u64 0, .int .u64 0, .int .u64 0, .int .u64 0, .int .u64 0, .int .u64 0, .int .u64 0, .int .u64 0] ∧ GbaseX V ∧ GbaseY V ∧ Below w.heap.size w V) ⟨?_, ?_, ?_, ?_⟩ ?_
  · (repeat (first | refine At.drew ?_ | refine At.drewN ?_ _ | (refine at_new2 _ _ _ _ ?_; simp; done) | refine at_alloc ?_ _))
  · refine U_0.out.grown ?_
    (repeat (first | exact Below.refl _ _ | refine Below.drew ?_ | refine below_drewN ?_ _ | refine Below.alloc ?_ (by simp <;> omega) _))
  · refine V_0.out.grown ?_
    (repeat (first | exact Below.refl _ _ | refine Below.drew ?_ | refine below_drewN ?_ _ | refine Below.alloc ?_ (by simp <;> omega) _))
  · (repeat (first | exact Below.refl _ _ | refine Below.drew ?_ | refine below_drewN ?_ _ | refine Below.alloc ?_ (by simp <;> omega) _))
  rintro w1 ⟨k0, k1, k2, k3⟩
  have B0_1 := hid k0
  have U_1 := hid k1
  have V_1 := hid k2
  have G_1 := hid k3
  clear k0 k1 k2 k3 U_0 V_0
  go_wp2_with (first | (refine wpList_load_mid rfl 28 _ rfl 0 0 rfl [.int .u64 1738742601995546, .int .u64 1146398526822698, .int .u64 2070867633025821, .int .u64 562264141797630, .int .u64 587772402128613] _ U_1.out.range Tryd.underlying28 rfl (by kernel_rfl) ?_) | (refine wpList_load_mid rfl 28 _ rfl 1 0 rfl [.int .u64 1801439850948184, .int .u64 1351079888211148, .int .u64 450359962737049, .int .u64 900719925474099, .int .u64 1801439850948198] _ V_1.out.range Tryd.underlying28 rfl (by kernel_rfl) ?_) | fail)
  refine (Q1.out _).mono ?_
  rintro e w2 ⟨rfl, g0⟩
  have g := g0
  clear g0
  have B0_2 := hid (B0_1.out.below g)
  have U_2 := hid (U_1.out.grown g)
  have V_2 := hid (V_1.out.grown g)
  have G_2 := hid (G_1.out.trans (g.mono G_1.out.size))
  clear g B0_1 U_1 V_1 G_1
  go_wp2_with (first | (refine list_store_whole rfl 32 _ _ rfl w.heap.size [.int .u64 cx0, .int .u64 cx1, .int .u64 cx2, .int .u64 cx3, .int .u64 cx4, .int .u64 cy0, .int .u64 cy1, .int .u64 cy2, .int .u64 cy3, .int .u64 cy4, .int .u64 cz0, .int .u64 cz1, .int .u64 cz2, .int .u64 cz3, .int .u64 cz4, .int .u64 ct0, .int .u64 ct1, .int .u64 ct2, .int .u64 ct3, .int .u64 ct4] _ rfl rfl B0_2.out rfl (by kernel_rfl) (by kernel_rfl) w.heap.size w G_2.out (by omega) (fun F hC hB => ?_)) | fail)
  exact bodyPost_ret (v := .agg #[.int .u64 cx0, .int .u64 cx1, .int .u64 cx2, .int .u64 cx3, .int .u64 cx4, .int .u64 cy0, .int .u64 cy1, .int .u64 cy2, .int .u64 cy3, .int .u64 cy4, .int .u64 cz0, .int .u64 cz1, .int .u64 cz2, .int .u64 cz3, .int .u64 cz4, .int .u64 ct0, .int .u64 ct1, .int .u64 ct2, .int .u64 ct3, .int .u64 ct4]) (results_mid (Tryd.results25) _ F w.heap.size 0 [.int .u64 cx0, .int .u64 cx1, .int .u64 cx2, .int .u64 cx3, .int .u64 cx4, .int .u64 cy0, .int .u64 cy1, .int .u64 cy2, .int .u64 cy3, .int .u64 cy4, .int .u64 cz0, .int .u64 cz1, .int .u64 cz2, .int .u64 cz3, .int .u64 cz4, .int .u64 ct0, .int .u64 ct1, .int .u64 ct2, .int .u64 ct3, .int .u64 ct4] _ rfl hC.range Tryd.underlying32 rfl (by kernel_rfl)) rfl ⟨rfl, hB⟩
end Go.Proofs.YtedhfimjcpbcpaaDoor.Ed

/-
  The program's Add of layer 10: the walk, given what each call answers. Conditions: as each theorem says.
-/
namespace Go.Proofs.YtedhfimjcpbcpaaDoor.Ed
open Go.RowKit
set_option linter.unusedVariables false
set_option linter.unusedSimpArgs false

set_option maxRecDepth 100000 in
set_option maxHeartbeats 8000000 in
theorem add_w (px py pz pt qx qy qz qt da db dn ua ub up ca cr ba bo ea ga ha fa cx cy cz ct : L5)
    (Q1 : Hid (∀ w : World, Gf w → Calls Tryd.prog 70 #[.agg #[.int .u64 py.l0, .int .u64 py.l1, .int .u64 py.l2, .int .u64 py.l3, .int .u64 py.l4], .agg #[.int .u64 px.l0, .int .u64 px.l1, .int .u64 px.l2, .int .u64 px.l3, .int .u64 px.l4]] w fun e w' => e = .returned (.agg #[.int .u64 da.l0, .int .u64 da.l1, .int .u64 da.l2, .int .u64 da.l3, .int .u64 da.l4]) ∧ Below w.heap.size w w'))
    (Q2 : Hid (∀ w : World, Gf w → Calls Tryd.prog 70 #[.agg #[.int .u64 qy.l0, .int .u64 qy.l1, .int .u64 qy.l2, .int .u64 qy.l3, .int .u64 qy.l4], .agg #[.int .u64 qx.l0, .int .u64 qx.l1, .int .u64 qx.l2, .int .u64 qx.l3, .int .u64 qx.l4]] w fun e w' => e = .returned (.agg #[.int .u64 db.l0, .int .u64 db.l1, .int .u64 db.l2, .int .u64 db.l3, .int .u64 db.l4]) ∧ Below w.heap.size w w'))
    (Q3 : Hid (∀ w : World, Calls Tryd.prog 66 #[.agg #[.int .u64 da.l0, .int .u64 da.l1, .int .u64 da.l2, .int .u64 da.l3, .int .u64 da.l4], .agg #[.int .u64 db.l0, .int .u64 db.l1, .int .u64 db.l2, .int .u64 db.l3, .int .u64 db.l4]] w fun e w' => e = .returned (.agg #[.int .u64 dn.l0, .int .u64 dn.l1, .int .u64 dn.l2, .int .u64 dn.l3, .int .u64 dn.l4]) ∧ Below w.heap.size w w'))
    (Q4 : Hid (∀ w : World, Calls Tryd.prog 71 #[.agg #[.int .u64 py.l0, .int .u64 py.l1, .int .u64 py.l2, .int .u64 py.l3, .int .u64 py.l4], .agg #[.int .u64 px.l0, .int .u64 px.l1, .int .u64 px.l2, .int .u64 px.l3, .int .u64 px.l4]] w fun e w' => e = .returned (.agg #[.int .u64 ua.l0, .int .u64 ua.l1, .int .u64 ua.l2, .int .u64 ua.l3, .int .u64 ua.l4]) ∧ Below w.heap.size w w'))
    (Q5 : Hid (∀ w : World, Calls Tryd.prog 71 #[.agg #[.int .u64 qy.l0, .int .u64 qy.l1, .int .u64 qy.l2, .int .u64 qy.l3, .int .u64 qy.l4], .agg #[.int .u64 qx.l0, .int .u64 qx.l1, .int .u64 qx.l2, .int .u64 qx.l3, .int .u64 qx.l4]] w fun e w' => e = .returned (.agg #[.int .u64 ub.l0, .int .u64 ub.l1, .int .u64 ub.l2, .int .u64 ub.l3, .int .u64 ub.l4]) ∧ Below w.heap.size w w'))
    (Q6 : Hid (∀ w : World, Calls Tryd.prog 66 #[.agg #[.int .u64 ua.l0, .int .u64 ua.l1, .int .u64 ua.l2, .int .u64 ua.l3, .int .u64 ua.l4], .agg #[.int .u64 ub.l0, .int .u64 ub.l1, .int .u64 ub.l2, .int .u64 ub.l3, .int .u64 ub.l4]] w fun e w' => e = .returned (.agg #[.int .u64 up.l0, .int .u64 up.l1, .int .u64 up.l2, .int .u64 up.l3, .int .u64 up.l4]) ∧ Below w.heap.size w w'))
    (Q7 : Hid (∀ w : World, Calls Tryd.prog 66 #[.agg #[.int .u64 pt.l0, .int .u64 pt.l1, .int .u64 pt.l2, .int .u64 pt.l3, .int .u64 pt.l4], .agg #[.int .u64 1859910466990425, .int .u64 932731440258426, .int .u64 1072319116312658, .int .u64 1815898335770999, .int .u64 633789495995903]] w fun e w' => e = .returned (.agg #[.int .u64 ca.l0, .int .u64 ca.l1, .int .u64 ca.l2, .int .u64 ca.l3, .int .u64 ca.l4]) ∧ Below w.heap.size w w'))
    (Q8 : Hid (∀ w : World, Calls Tryd.prog 66 #[.agg #[.int .u64 ca.l0, .int .u64 ca.l1, .int .u64 ca.l2, .int .u64 ca.l3, .int .u64 ca.l4], .agg #[.int .u64 qt.l0, .int .u64 qt.l1, .int .u64 qt.l2, .int .u64 qt.l3, .int .u64 qt.l4]] w fun e w' => e = .returned (.agg #[.int .u64 cr.l0, .int .u64 cr.l1, .int .u64 cr.l2, .int .u64 cr.l3, .int .u64 cr.l4]) ∧ Below w.heap.size w w'))
    (Q9 : Hid (∀ w : World, Calls Tryd.prog 71 #[.agg #[.int .u64 pz.l0, .int .u64 pz.l1, .int .u64 pz.l2, .int .u64 pz.l3, .int .u64 pz.l4], .agg #[.int .u64 pz.l0, .int .u64 pz.l1, .int .u64 pz.l2, .int .u64 pz.l3, .int .u64 pz.l4]] w fun e w' => e = .returned (.agg #[.int .u64 ba.l0, .int .u64 ba.l1, .int .u64 ba.l2, .int .u64 ba.l3, .int .u64 ba.l4]) ∧ Below w.heap.size w w'))
    (Q10 : Hid (∀ w : World, Calls Tryd.prog 66 #[.agg #[.int .u64 ba.l0, .int .u64 ba.l1, .int .u64 ba.l2, .int .u64 ba.l3, .int .u64 ba.l4], .agg #[.int .u64 qz.l0, .int .u64 qz.l1, .int .u64 qz.l2, .int .u64 qz.l3, .int .u64 qz.l4]] w fun e w' => e = .returned (.agg #[.int .u64 bo.l0, .int .u64 bo.l1, .int .u64 bo.l2, .int .u64 bo.l3, .int .u64 bo.l4]) ∧ Below w.heap.size w w'))
    (Q11 : Hid (∀ w : World, Gf w → Calls Tryd.prog 70 #[.agg #[.int .u64 up.l0, .int .u64 up.l1, .int .u64 up.l2, .int .u64 up.l3, .int .u64 up.l4], .agg #[.int .u64 dn.l0, .int .u64 dn.l1, .int .u64 dn.l2, .int .u64 dn.l3, .int .u64 dn.l4]] w fun e w' => e = .returned (.agg #[.int .u64 ea.l0, .int .u64 ea.l1, .int .u64 ea.l2, .int .u64 ea.l3, .int .u64 ea.l4]) ∧ Below w.heap.size w w'))
    (Q12 : Hid (∀ w : World, Calls Tryd.prog 71 #[.agg #[.int .u64 bo.l0, .int .u64 bo.l1, .int .u64 bo.l2, .int .u64 bo.l3, .int .u64 bo.l4], .agg #[.int .u64 cr.l0, .int .u64 cr.l1, .int .u64 cr.l2, .int .u64 cr.l3, .int .u64 cr.l4]] w fun e w' => e = .returned (.agg #[.int .u64 ga.l0, .int .u64 ga.l1, .int .u64 ga.l2, .int .u64 ga.l3, .int .u64 ga.l4]) ∧ Below w.heap.size w w'))
    (Q13 : Hid (∀ w : World, Calls Tryd.prog 71 #[.agg #[.int .u64 up.l0, .int .u64 up.l1, .int .u64 up.l2, .int .u64 up.l3, .int .u64 up.l4], .agg #[.int .u64 dn.l0, .int .u64 dn.l1, .int .u64 dn.l2, .int .u64 dn.l3, .int .u64 dn.l4]] w fun e w' => e = .returned (.agg #[.int .u64 ha.l0, .int .u64 ha.l1, .int .u64 ha.l2, .int .u64 ha.l3, .int .u64 ha.l4]) ∧ Below w.heap.size w w'))
    (Q14 : Hid (∀ w : World, Gf w → Calls Tryd.prog 70 #[.agg #[.int .u64 bo.l0, .int .u64 bo.l1, .int .u64 bo.l2, .int .u64 bo.l3, .int .u64 bo.l4], .agg #[.int .u64 cr.l0, .int .u64 cr.l1, .int .u64 cr.l2, .int .u64 cr.l3, .int .u64 cr.l4]] w fun e w' => e = .returned (.agg #[.int .u64 fa.l0, .int .u64 fa.l1, .int .u64 fa.l2, .int .u64 fa.l3, .int .u64 fa.l4]) ∧ Below w.heap.size w w'))
    (Q15 : Hid (∀ w : World, Calls Tryd.prog 72 #[.agg #[.int .u64 ea.l0, .int .u64 ea.l1, .int .u64 ea.l2, .int .u64 ea.l3, .int .u64 ea.l4], .agg #[.int .u64 ga.l0, .int .u64 ga.l1, .int .u64 ga.l2, .int .u64 ga.l3, .int .u64 ga.l4], .agg #[.int .u64 ha.l0, .int .u64 ha.l1, .int .u64 ha.l2, .int .u64 ha.l3, .int .u64 ha.l4], .agg #[.int .u64 fa.l0, .int .u64 fa.l1, .int .u64 fa.l2, .int .u64 fa.l3, .int .u64 fa.l4]] w fun e w' => e = .returned (.agg #[.int .u64 cx.l0, .int .u64 cx.l1, .int .u64 cx.l2, .int .u64 cx.l3, .int .u64 cx.l4, .int .u64 cy.l0, .int .u64 cy.l1, .int .u64 cy.l2, .int .u64 cy.l3, .int .u64 cy.l4, .int .u64 cz.l0, .int .u64 cz.l1, .int .u64 cz.l2, .int .u64 cz.l3, .int .u64 cz.l4, .int .u64 ct.l0, .int .u64 ct.l1, .int .u64 ct.l2, .int .u64 ct.l3, .int .u64 ct.l4]) ∧ Below w.heap.size w w'))
    (w : World) (T_0 : Hid (GtwiceD w)) (Z_0 : Hid (Gf w)) :
    Calls Tryd.prog 28 #[.agg #[.int .u64 px.l0, .int .u64 px.l1, .int .u64 px.l2, .int .u64 px.l3, .int .u64 px.l4, .int .u64 py.l0, .int .u64 py.l1, .int .u64 py.l2, .int .u64 py.l3, .int .u64 py.l4, .int .u64 pz.l0, .int .u64 pz.l1, .int .u64 pz.l2, .int .u64 pz.l3, .int .u64 pz.l4, .int .u64 pt.l0, .int .u64 pt.l1, .int .u64 pt.l2, .int .u64 pt.l3, .int .u64 pt.l4], .agg #[.int .u64 qx.l0, .int .u64 qx.l1, .int .u64 qx.l2, .int .u64 qx.l3, .int .u64 qx.l4, .int .u64 qy.l0, .int .u64 qy.l1, .int .u64 qy.l2, .int .u64 qy.l3, .int .u64 qy.l4, .int .u64 qz.l0, .int .u64 qz.l1, .int .u64 qz.l2, .int .u64 qz.l3, .int .u64 qz.l4, .int .u64 qt.l0, .int .u64 qt.l1, .int .u64 qt.l2, .int .u64 qt.l3, .int .u64 qt.l4]] w fun e w' => e = .returned (.agg #[.int .u64 cx.l0, .int .u64 cx.l1, .int .u64 cx.l2, .int .u64 cx.l3, .int .u64 cx.l4, .int .u64 cy.l0, .int .u64 cy.l1, .int .u64 cy.l2, .int .u64 cy.l3, .int .u64 cy.l4, .int .u64 cz.l0, .int .u64 cz.l1, .int .u64 cz.l2, .int .u64 cz.l3, .int .u64 cz.l4, .int .u64 ct.l0, .int .u64 ct.l1, .int .u64 ct.l2, .int .u64 ct.l3, .int .u64 ct.l4]) ∧ Below w.heap.size w w' := by
  obtain ⟨px0, px1, px2, px3, px4⟩ := px
  obtain ⟨py0, py1, py2, py3, py4⟩ := py
  obtain ⟨pz0, pz1, pz2, pz3, pz4⟩ := pz
  obtain ⟨pt0, pt1, pt2, pt3, pt4⟩ := pt
  obtain ⟨qx0, qx1, qx2, qx3, qx4⟩ := qx
  obtain ⟨qy0, qy1, qy2, qy3, qy4⟩ := qy
  obtain ⟨qz0, qz1, qz2, qz3, qz4⟩ := qz
  obtain ⟨qt0, qt1, qt2, qt3, qt4⟩ := qt
  obtain ⟨da0, da1, da2, da3, da4⟩ := da
  obtain ⟨db0, db1, db2, db3, db4⟩ := db
  obtain ⟨dn0, dn1, dn2, dn3, dn4⟩ := dn
  obtain ⟨ua0, ua1, ua2, ua3, ua4⟩ := ua
  obtain ⟨ub0, ub1, ub2, ub3, ub4⟩ := ub
  obtain ⟨up0, up1, up2, up3, up4⟩ := up
  obtain ⟨ca0, ca1, ca2, ca3, ca4⟩ := ca
  obtain ⟨cr0, cr1, cr2, cr3, cr4⟩ := cr
  obtain ⟨ba0, ba1, ba2, ba3, ba4⟩ := ba
  obtain ⟨bo0, bo1, bo2, bo3, bo4⟩ := bo
  obtain ⟨ea0, ea1, ea2, ea3, ea4⟩ := ea
  obtain ⟨ga0, ga1, ga2, ga3, ga4⟩ := ga
  obtain ⟨ha0, ha1, ha2, ha3, ha4⟩ := ha
  obtain ⟨fa0, fa1, fa2, fa3, fa4⟩ := fa
  obtain ⟨cx0, cx1, cx2, cx3, cx4⟩ := cx
  obtain ⟨cy0, cy1, cy2, cy3, cy4⟩ := cy
  obtain ⟨cz0, cz1, cz2, cz3, cz4⟩ := cz
  obtain ⟨ct0, ct1, ct2, ct3, ct4⟩ := ct
  dsimp only at Q1 Q2 Q3 Q4 Q5 Q6 Q7 Q8 Q9 Q10 Q11 Q12 Q13 Q14 Q15 ⊢
  go_enter Tryd.func28, Tryd.ntmps28
  go_upto_region 1 with fail
  have HT := T_0.out.lt
  have HZ := Z_0.out.lt
  refine wp_cut (fun V => At 32 V w.heap.size [.int .u64 px0, .int .u64 px1, .int .u64 px2, .int .u64 px3, .int .u64 px4, .int .u64 py0, .int .u64 py1, .int .u64 py2, .int .u64 py3, .int .u64 py4, .int .u64 pz0, .int .u64 pz1, .int .u64 pz2, .int .u64 pz3, .int .u64 pz4, .int .u64 pt0, .int .u64 pt1, .int .u64 pt2, .int .u64 pt3, .int .u64 pt4] ∧ At 32 V (w.heap.size + 1) [.int .u64 qx0, .int .u64 qx1, .int .u64 qx2, .int .u64 qx3, .int .u64 qx4, .int .u64 qy0, .int .u64 qy1, .int .u64 qy2, .int .u64 qy3, .int .u64 qy4, .int .u64 qz0, .int .u64 qz1, .int .u64 qz2, .int .u64 qz3, .int .u64 qz4, .int .u64 qt0, .int .u64 qt1, .int .u64 qt2, .int .u64 qt3, .int .u64 qt4] ∧ At 32 V (w.heap.size + 1 + 1) [.int .u64 0, .int .u64 0, .int .u64 0, .int .u64 0, .int .u64 0, .int .u64 0, .int .u64 0, .int .u64 0, .int .u64 0, .int .u64 0, .int .u64 0, .int .u64 0, .int .u64 0, .int .u64 0, .int .u64 0, .int .u64 0, .int .u64 0, .int .u64 0, .int .u64 0, .int .u64 0] ∧ GtwiceD V ∧ Gf V ∧ Below w.heap.size w V) ⟨?_, ?_, ?_, ?_, ?_, ?_⟩ ?_
  · (repeat (first | refine At.drew ?_ | refine At.drewN ?_ _ | (refine at_new2 _ _ _ _ ?_; simp; done) | refine at_alloc ?_ _))
  · (repeat (first | refine At.drew ?_ | refine At.drewN ?_ _ | (refine at_new2 _ _ _ _ ?_; simp; done) | refine at_alloc ?_ _))
  · (repeat (first | refine At.drew ?_ | refine At.drewN ?_ _ | (refine at_new2 _ _ _ _ ?_; simp; done) | refine at_alloc ?_ _))
  · refine T_0.out.grown ?_
    (repeat (first | exact Below.refl _ _ | refine Below.drew ?_ | refine below_drewN ?_ _ | refine Below.alloc ?_ (by simp <;> omega) _))
  · refine Z_0.out.grown ?_
    (repeat (first | exact Below.refl _ _ | refine Below.drew ?_ | refine below_drewN ?_ _ | refine Below.alloc ?_ (by simp <;> omega) _))
  · (repeat (first | exact Below.refl _ _ | refine Below.drew ?_ | refine below_drewN ?_ _ | refine Below.alloc ?_ (by simp <;> omega) _))
  rintro w1 ⟨k0, k1, k2, k3, k4, k5⟩
  have B2_1 := hid k0
  have B3_1 := hid k1
  have B4_1 := hid k2
  have T_1 := hid k3
  have Z_1 := hid k4
  have G_1 := hid k5
  clear k0 k1 k2 k3 k4 k5 T_0 Z_0
  refine wp_region_grow (ob := (fun k => if k = 15 then some (.cells #[.int .u64 0, .int .u64 0, .int .u64 0, .int .u64 0, .int .u64 0] 28) else none)) (st := (fun k => if k = 16 then some (15, .cells #[.int .u64 dn0, .int .u64 dn1, .int .u64 dn2, .int .u64 dn3, .int .u64 dn4] 28) else none)) (by kernel_rfl) ?_
  simp only [List.size_toArray, List.length_cons, List.length_nil, Nat.reduceAdd, Array.replicate_succ, Array.replicate_zero, List.push_toArray, List.nil_append, List.cons_append]
  refine g_first 0 _ (.pointer (some ⟨w.heap.size, 0, none⟩)) rfl rfl rfl (by kernel_rfl) (by kernel_rfl) (by kernel_rfl) ?_ ?_
  · refine Or.inl ⟨by rfl, fun w' hw' => ?_⟩
    unfold Oper.quietAt
    go_simp
  try simp only [List.getElem_toArray, List.getElem_cons_zero, List.getElem_cons_succ, Act.put, List.setIfInBounds_toArray, List.set_cons_zero, List.set_cons_succ]
  refine g_first 1 _ (.pointer (some ⟨w.heap.size, 5, none⟩)) rfl rfl rfl (by kernel_rfl) (by kernel_rfl) (by kernel_rfl) ?_ ?_
  · refine Or.inl ⟨by rfl, fun w' hw' => ?_⟩
    unfold Oper.quietAt
    go_simp
  try simp only [List.getElem_toArray, List.getElem_cons_zero, List.getElem_cons_succ, Act.put, List.setIfInBounds_toArray, List.set_cons_zero, List.set_cons_succ]
  refine g_first 2 _ (.agg #[.int .u64 py0, .int .u64 py1, .int .u64 py2, .int .u64 py3, .int .u64 py4]) rfl rfl rfl (by kernel_rfl) (by kernel_rfl) (by kernel_rfl) ?_ ?_
  · refine Or.inl ⟨by rfl, fun w' hw' => ?_⟩
    exact quiet_load 28 _ rfl _ 5 rfl _ _ (at_mid (B2_1.out.below hw') 5 _ rfl) Tryd.underlying28 rfl (by kernel_rfl)
  try simp only [List.getElem_toArray, List.getElem_cons_zero, List.getElem_cons_succ, Act.put, List.setIfInBounds_toArray, List.set_cons_zero, List.set_cons_succ]
  refine g_first 3 _ (.pointer (some ⟨w.heap.size, 0, none⟩)) rfl rfl rfl (by kernel_rfl) (by kernel_rfl) (by kernel_rfl) ?_ ?_
  · refine Or.inl ⟨by rfl, fun w' hw' => ?_⟩
    unfold Oper.quietAt
    go_simp
  try simp only [List.getElem_toArray, List.getElem_cons_zero, List.getElem_cons_succ, Act.put, List.setIfInBounds_toArray, List.set_cons_zero, List.set_cons_succ]
  refine g_first 4 _ (.pointer (some ⟨w.heap.size, 0, none⟩)) rfl rfl rfl (by kernel_rfl) (by kernel_rfl) (by kernel_rfl) ?_ ?_
  · refine Or.inl ⟨by rfl, fun w' hw' => ?_⟩
    unfold Oper.quietAt
    go_simp
  try simp only [List.getElem_toArray, List.getElem_cons_zero, List.getElem_cons_succ, Act.put, List.setIfInBounds_toArray, List.set_cons_zero, List.set_cons_succ]
  refine g_first 5 _ (.agg #[.int .u64 px0, .int .u64 px1, .int .u64 px2, .int .u64 px3, .int .u64 px4]) rfl rfl rfl (by kernel_rfl) (by kernel_rfl) (by kernel_rfl) ?_ ?_
  · refine Or.inl ⟨by rfl, fun w' hw' => ?_⟩
    exact quiet_load 28 _ rfl _ 0 rfl _ _ (at_mid (B2_1.out.below hw') 0 _ rfl) Tryd.underlying28 rfl (by kernel_rfl)
  try simp only [List.getElem_toArray, List.getElem_cons_zero, List.getElem_cons_succ, Act.put, List.setIfInBounds_toArray, List.set_cons_zero, List.set_cons_succ]
  refine g_first 6 _ (.agg #[.int .u64 da0, .int .u64 da1, .int .u64 da2, .int .u64 da3, .int .u64 da4]) rfl rfl rfl (by kernel_rfl) (by kernel_rfl) (by kernel_rfl) ?_ ?_
  · refine Or.inl ⟨by rfl, fun w' hw' => ?_⟩
    refine quiet_call (by go_simp) (Q1.out _ (Z_1.out.grown hw'))
  try simp only [List.getElem_toArray, List.getElem_cons_zero, List.getElem_cons_succ, Act.put, List.setIfInBounds_toArray, List.set_cons_zero, List.set_cons_succ]
  refine g_first 7 _ (.pointer (some ⟨(w.heap.size + 1), 0, none⟩)) rfl rfl rfl (by kernel_rfl) (by kernel_rfl) (by kernel_rfl) ?_ ?_
  · refine Or.inl ⟨by rfl, fun w' hw' => ?_⟩
    unfold Oper.quietAt
    go_simp
  try simp only [List.getElem_toArray, List.getElem_cons_zero, List.getElem_cons_succ, Act.put, List.setIfInBounds_toArray, List.set_cons_zero, List.set_cons_succ]
  refine g_first 8 _ (.pointer (some ⟨(w.heap.size + 1), 5, none⟩)) rfl rfl rfl (by kernel_rfl) (by kernel_rfl) (by kernel_rfl) ?_ ?_
  · refine Or.inl ⟨by rfl, fun w' hw' => ?_⟩
    unfold Oper.quietAt
    go_simp
  try simp only [List.getElem_toArray, List.getElem_cons_zero, List.getElem_cons_succ, Act.put, List.setIfInBounds_toArray, List.set_cons_zero, List.set_cons_succ]
  refine g_first 9 _ (.agg #[.int .u64 qy0, .int .u64 qy1, .int .u64 qy2, .int .u64 qy3, .int .u64 qy4]) rfl rfl rfl (by kernel_rfl) (by kernel_rfl) (by kernel_rfl) ?_ ?_
  · refine Or.inl ⟨by rfl, fun w' hw' => ?_⟩
    exact quiet_load 28 _ rfl _ 5 rfl _ _ (at_mid (B3_1.out.below hw') 5 _ rfl) Tryd.underlying28 rfl (by kernel_rfl)
  try simp only [List.getElem_toArray, List.getElem_cons_zero, List.getElem_cons_succ, Act.put, List.setIfInBounds_toArray, List.set_cons_zero, List.set_cons_succ]
  refine g_first 10 _ (.pointer (some ⟨(w.heap.size + 1), 0, none⟩)) rfl rfl rfl (by kernel_rfl) (by kernel_rfl) (by kernel_rfl) ?_ ?_
  · refine Or.inl ⟨by rfl, fun w' hw' => ?_⟩
    unfold Oper.quietAt
    go_simp
  try simp only [List.getElem_toArray, List.getElem_cons_zero, List.getElem_cons_succ, Act.put, List.setIfInBounds_toArray, List.set_cons_zero, List.set_cons_succ]
  refine g_first 11 _ (.pointer (some ⟨(w.heap.size + 1), 0, none⟩)) rfl rfl rfl (by kernel_rfl) (by kernel_rfl) (by kernel_rfl) ?_ ?_
  · refine Or.inl ⟨by rfl, fun w' hw' => ?_⟩
    unfold Oper.quietAt
    go_simp
  try simp only [List.getElem_toArray, List.getElem_cons_zero, List.getElem_cons_succ, Act.put, List.setIfInBounds_toArray, List.set_cons_zero, List.set_cons_succ]
  refine g_first 12 _ (.agg #[.int .u64 qx0, .int .u64 qx1, .int .u64 qx2, .int .u64 qx3, .int .u64 qx4]) rfl rfl rfl (by kernel_rfl) (by kernel_rfl) (by kernel_rfl) ?_ ?_
  · refine Or.inl ⟨by rfl, fun w' hw' => ?_⟩
    exact quiet_load 28 _ rfl _ 0 rfl _ _ (at_mid (B3_1.out.below hw') 0 _ rfl) Tryd.underlying28 rfl (by kernel_rfl)
  try simp only [List.getElem_toArray, List.getElem_cons_zero, List.getElem_cons_succ, Act.put, List.setIfInBounds_toArray, List.set_cons_zero, List.set_cons_succ]
  refine g_first 13 _ (.agg #[.int .u64 db0, .int .u64 db1, .int .u64 db2, .int .u64 db3, .int .u64 db4]) rfl rfl rfl (by kernel_rfl) (by kernel_rfl) (by kernel_rfl) ?_ ?_
  · refine Or.inl ⟨by rfl, fun w' hw' => ?_⟩
    refine quiet_call (by go_simp) (Q2.out _ (Z_1.out.grown hw'))
  try simp only [List.getElem_toArray, List.getElem_cons_zero, List.getElem_cons_succ, Act.put, List.setIfInBounds_toArray, List.set_cons_zero, List.set_cons_succ]
  refine g_first 14 _ (.agg #[.int .u64 dn0, .int .u64 dn1, .int .u64 dn2, .int .u64 dn3, .int .u64 dn4]) rfl rfl rfl (by kernel_rfl) (by kernel_rfl) (by kernel_rfl) ?_ ?_
  · refine Or.inl ⟨by rfl, fun w' hw' => ?_⟩
    refine quiet_call (by go_simp) (Q3.out _)
  try simp only [List.getElem_toArray, List.getElem_cons_zero, List.getElem_cons_succ, Act.put, List.setIfInBounds_toArray, List.set_cons_zero, List.set_cons_succ]
  refine g_make 15 _ (.cells #[.int .u64 0, .int .u64 0, .int .u64 0, .int .u64 0, .int .u64 0] 28) (fun k => (decide (15 ≤ k ∧ k ≤ 15)) || (decide (16 ≤ k ∧ k ≤ 16) && k != 16)) rfl rfl rfl rfl ?_ ?_ (by kernel_rfl) (by kernel_rfl) (by kernel_rfl) (by kernel_rfl) (fun g5 => ?_)
  · intro a w
    go_simp
  · intro j hj
    simp only [Bool.or_eq_true, Bool.and_eq_true, decide_eq_true_eq, bne_iff_ne] at hj
    rcases hj with hj | ⟨hj, hne⟩
    · left
      rcases (show j = 15 by omega) with rfl <;> simp
    · right
      rcases (show j = 16 by omega) with rfl <;> first | exact ⟨_, _, rfl, by decide⟩ | omega
  try simp only [List.getElem_toArray, List.getElem_cons_zero, List.getElem_cons_succ, Act.put, List.setIfInBounds_toArray, List.set_cons_zero, List.set_cons_succ]
  refine g_store 16 15 _ (.cells #[.int .u64 dn0, .int .u64 dn1, .int .u64 dn2, .int .u64 dn3, .int .u64 dn4] 28) g5 (.cells #[.int .u64 0, .int .u64 0, .int .u64 0, .int .u64 0, .int .u64 0] 28) (fun k => decide (16 ≤ k ∧ k ≤ 16) && k != 16) rfl rfl rfl rfl ?_ (by kernel_rfl) (by kernel_rfl) (by kernel_rfl) (by kernel_rfl) (by simp [upd]) ?_ ?_
  · intro j hj
    simp only [Bool.and_eq_true, decide_eq_true_eq, bne_iff_ne] at hj
    rcases (show j = 16 by omega) with rfl <;> first | exact ⟨_, _, rfl, by decide⟩ | omega
  · exact stores_whole 28 _ _ rfl g5 [.int .u64 dn0, .int .u64 dn1, .int .u64 dn2, .int .u64 dn3, .int .u64 dn4] [.int .u64 0, .int .u64 0, .int .u64 0, .int .u64 0, .int .u64 0] rfl rfl rfl (by kernel_rfl) (by kernel_rfl)
  try simp only [List.getElem_toArray, List.getElem_cons_zero, List.getElem_cons_succ, Act.put, List.setIfInBounds_toArray, List.set_cons_zero, List.set_cons_succ]
  refine ⟨by kernel_rfl, fun w2 hV => ?_⟩
  have own5 := hV.own 15 _ (by simp [upd]; rfl)
  have B5_2 : Hid (At 28 w2 g5 [.int .u64 dn0, .int .u64 dn1, .int .u64 dn2, .int .u64 dn3, .int .u64 dn4]) := own5.2.2
  have szB5 : w.heap.size ≤ g5 := by have h1 := own5.1; have h2 := G_1.out.size; dsimp only at h1; omega
  have nlB2B5 : w.heap.size < g5 := by have h1 := own5.1; have h2 := B2_1.out.lt; dsimp only at h1; omega
  have nlB3B5 : (w.heap.size + 1) < g5 := by have h1 := own5.1; have h2 := B3_1.out.lt; dsimp only at h1; omega
  have nlB4B5 : (w.heap.size + 1 + 1) < g5 := by have h1 := own5.1; have h2 := B4_1.out.lt; dsimp only at h1; omega
  have g := hV.bel
  have B2_2 := hid (B2_1.out.below g)
  have B3_2 := hid (B3_1.out.below g)
  have B4_2 := hid (B4_1.out.below g)
  have T_2 := hid (T_1.out.grown g)
  have Z_2 := hid (Z_1.out.grown g)
  have G_2 := hid (G_1.out.trans (g.mono G_1.out.size))
  clear hV g own5 B2_1 B3_1 B4_1 T_1 Z_1 G_1
  go_wp2_with fail
  refine wp_region_grow (ob := (fun k => if k = 15 then some (.cells #[.int .u64 0, .int .u64 0, .int .u64 0, .int .u64 0, .int .u64 0] 28) else none)) (st := (fun k => if k = 16 then some (15, .cells #[.int .u64 up0, .int .u64 up1, .int .u64 up2, .int .u64 up3, .int .u64 up4] 28) else none)) (by kernel_rfl) ?_
  simp only [List.size_toArray, List.length_cons, List.length_nil, Nat.reduceAdd, Array.replicate_succ, Array.replicate_zero, List.push_toArray, List.nil_append, List.cons_append]
  refine g_first 0 _ (.pointer (some ⟨w.heap.size, 0, none⟩)) rfl rfl rfl (by kernel_rfl) (by kernel_rfl) (by kernel_rfl) ?_ ?_
  · refine Or.inl ⟨by rfl, fun w' hw' => ?_⟩
    unfold Oper.quietAt
    go_simp
  try simp only [List.getElem_toArray, List.getElem_cons_zero, List.getElem_cons_succ, Act.put, List.setIfInBounds_toArray, List.set_cons_zero, List.set_cons_succ]
  refine g_first 1 _ (.pointer (some ⟨w.heap.size, 5, none⟩)) rfl rfl rfl (by kernel_rfl) (by kernel_rfl) (by kernel_rfl) ?_ ?_
  · refine Or.inl ⟨by rfl, fun w' hw' => ?_⟩
    unfold Oper.quietAt
    go_simp
  try simp only [List.getElem_toArray, List.getElem_cons_zero, List.getElem_cons_succ, Act.put, List.setIfInBounds_toArray, List.set_cons_zero, List.set_cons_succ]
  refine g_first 2 _ (.agg #[.int .u64 py0, .int .u64 py1, .int .u64 py2, .int .u64 py3, .int .u64 py4]) rfl rfl rfl (by kernel_rfl) (by kernel_rfl) (by kernel_rfl) ?_ ?_
  · refine Or.inl ⟨by rfl, fun w' hw' => ?_⟩
    exact quiet_load 28 _ rfl _ 5 rfl _ _ (at_mid (B2_2.out.below hw') 5 _ rfl) Tryd.underlying28 rfl (by kernel_rfl)
  try simp only [List.getElem_toArray, List.getElem_cons_zero, List.getElem_cons_succ, Act.put, List.setIfInBounds_toArray, List.set_cons_zero, List.set_cons_succ]
  refine g_first 3 _ (.pointer (some ⟨w.heap.size, 0, none⟩)) rfl rfl rfl (by kernel_rfl) (by kernel_rfl) (by kernel_rfl) ?_ ?_
  · refine Or.inl ⟨by rfl, fun w' hw' => ?_⟩
    unfold Oper.quietAt
    go_simp
  try simp only [List.getElem_toArray, List.getElem_cons_zero, List.getElem_cons_succ, Act.put, List.setIfInBounds_toArray, List.set_cons_zero, List.set_cons_succ]
  refine g_first 4 _ (.pointer (some ⟨w.heap.size, 0, none⟩)) rfl rfl rfl (by kernel_rfl) (by kernel_rfl) (by kernel_rfl) ?_ ?_
  · refine Or.inl ⟨by rfl, fun w' hw' => ?_⟩
    unfold Oper.quietAt
    go_simp
  try simp only [List.getElem_toArray, List.getElem_cons_zero, List.getElem_cons_succ, Act.put, List.setIfInBounds_toArray, List.set_cons_zero, List.set_cons_succ]
  refine g_first 5 _ (.agg #[.int .u64 px0, .int .u64 px1, .int .u64 px2, .int .u64 px3, .int .u64 px4]) rfl rfl rfl (by kernel_rfl) (by kernel_rfl) (by kernel_rfl) ?_ ?_
  · refine Or.inl ⟨by rfl, fun w' hw' => ?_⟩
    exact quiet_load 28 _ rfl _ 0 rfl _ _ (at_mid (B2_2.out.below hw') 0 _ rfl) Tryd.underlying28 rfl (by kernel_rfl)
  try simp only [List.getElem_toArray, List.getElem_cons_zero, List.getElem_cons_succ, Act.put, List.setIfInBounds_toArray, List.set_cons_zero, List.set_cons_succ]
  refine g_first 6 _ (.agg #[.int .u64 ua0, .int .u64 ua1, .int .u64 ua2, .int .u64 ua3, .int .u64 ua4]) rfl rfl rfl (by kernel_rfl) (by kernel_rfl) (by kernel_rfl) ?_ ?_
  · refine Or.inl ⟨by rfl, fun w' hw' => ?_⟩
    refine quiet_call (by go_simp) (Q4.out _)
  try simp only [List.getElem_toArray, List.getElem_cons_zero, List.getElem_cons_succ, Act.put, List.setIfInBounds_toArray, List.set_cons_zero, List.set_cons_succ]
  refine g_first 7 _ (.pointer (some ⟨(w.heap.size + 1), 0, none⟩)) rfl rfl rfl (by kernel_rfl) (by kernel_rfl) (by kernel_rfl) ?_ ?_
  · refine Or.inl ⟨by rfl, fun w' hw' => ?_⟩
    unfold Oper.quietAt
    go_simp
  try simp only [List.getElem_toArray, List.getElem_cons_zero, List.getElem_cons_succ, Act.put, List.setIfInBounds_toArray, List.set_cons_zero, List.set_cons_succ]
  refine g_first 8 _ (.pointer (some ⟨(w.heap.size + 1), 5, none⟩)) rfl rfl rfl (by kernel_rfl) (by kernel_rfl) (by kernel_rfl) ?_ ?_
  · refine Or.inl ⟨by rfl, fun w' hw' => ?_⟩
    unfold Oper.quietAt
    go_simp
  try simp only [List.getElem_toArray, List.getElem_cons_zero, List.getElem_cons_succ, Act.put, List.setIfInBounds_toArray, List.set_cons_zero, List.set_cons_succ]
  refine g_first 9 _ (.agg #[.int .u64 qy0, .int .u64 qy1, .int .u64 qy2, .int .u64 qy3, .int .u64 qy4]) rfl rfl rfl (by kernel_rfl) (by kernel_rfl) (by kernel_rfl) ?_ ?_
  · refine Or.inl ⟨by rfl, fun w' hw' => ?_⟩
    exact quiet_load 28 _ rfl _ 5 rfl _ _ (at_mid (B3_2.out.below hw') 5 _ rfl) Tryd.underlying28 rfl (by kernel_rfl)
  try simp only [List.getElem_toArray, List.getElem_cons_zero, List.getElem_cons_succ, Act.put, List.setIfInBounds_toArray, List.set_cons_zero, List.set_cons_succ]
  refine g_first 10 _ (.pointer (some ⟨(w.heap.size + 1), 0, none⟩)) rfl rfl rfl (by kernel_rfl) (by kernel_rfl) (by kernel_rfl) ?_ ?_
  · refine Or.inl ⟨by rfl, fun w' hw' => ?_⟩
    unfold Oper.quietAt
    go_simp
  try simp only [List.getElem_toArray, List.getElem_cons_zero, List.getElem_cons_succ, Act.put, List.setIfInBounds_toArray, List.set_cons_zero, List.set_cons_succ]
  refine g_first 11 _ (.pointer (some ⟨(w.heap.size + 1), 0, none⟩)) rfl rfl rfl (by kernel_rfl) (by kernel_rfl) (by kernel_rfl) ?_ ?_
  · refine Or.inl ⟨by rfl, fun w' hw' => ?_⟩
    unfold Oper.quietAt
    go_simp
  try simp only [List.getElem_toArray, List.getElem_cons_zero, List.getElem_cons_succ, Act.put, List.setIfInBounds_toArray, List.set_cons_zero, List.set_cons_succ]
  refine g_first 12 _ (.agg #[.int .u64 qx0, .int .u64 qx1, .int .u64 qx2, .int .u64 qx3, .int .u64 qx4]) rfl rfl rfl (by kernel_rfl) (by kernel_rfl) (by kernel_rfl) ?_ ?_
  · refine Or.inl ⟨by rfl, fun w' hw' => ?_⟩
    exact quiet_load 28 _ rfl _ 0 rfl _ _ (at_mid (B3_2.out.below hw') 0 _ rfl) Tryd.underlying28 rfl (by kernel_rfl)
  try simp only [List.getElem_toArray, List.getElem_cons_zero, List.getElem_cons_succ, Act.put, List.setIfInBounds_toArray, List.set_cons_zero, List.set_cons_succ]
  refine g_first 13 _ (.agg #[.int .u64 ub0, .int .u64 ub1, .int .u64 ub2, .int .u64 ub3, .int .u64 ub4]) rfl rfl rfl (by kernel_rfl) (by kernel_rfl) (by kernel_rfl) ?_ ?_
  · refine Or.inl ⟨by rfl, fun w' hw' => ?_⟩
    refine quiet_call (by go_simp) (Q5.out _)
  try simp only [List.getElem_toArray, List.getElem_cons_zero, List.getElem_cons_succ, Act.put, List.setIfInBounds_toArray, List.set_cons_zero, List.set_cons_succ]
  refine g_first 14 _ (.agg #[.int .u64 up0, .int .u64 up1, .int .u64 up2, .int .u64 up3, .int .u64 up4]) rfl rfl rfl (by kernel_rfl) (by kernel_rfl) (by kernel_rfl) ?_ ?_
  · refine Or.inl ⟨by rfl, fun w' hw' => ?_⟩
    refine quiet_call (by go_simp) (Q6.out _)
  try simp only [List.getElem_toArray, List.getElem_cons_zero, List.getElem_cons_succ, Act.put, List.setIfInBounds_toArray, List.set_cons_zero, List.set_cons_succ]
  refine g_make 15 _ (.cells #[.int .u64 0, .int .u64 0, .int .u64 0, .int .u64 0, .int .u64 0] 28) (fun k => (decide (15 ≤ k ∧ k ≤ 15)) || (decide (16 ≤ k ∧ k ≤ 16) && k != 16)) rfl rfl rfl rfl ?_ ?_ (by kernel_rfl) (by kernel_rfl) (by kernel_rfl) (by kernel_rfl) (fun g6 => ?_)
  · intro a w
    go_simp
  · intro j hj
    simp only [Bool.or_eq_true, Bool.and_eq_true, decide_eq_true_eq, bne_iff_ne] at hj
    rcases hj with hj | ⟨hj, hne⟩
    · left
      rcases (show j = 15 by omega) with rfl <;> simp
    · right
      rcases (show j = 16 by omega) with rfl <;> first | exact ⟨_, _, rfl, by decide⟩ | omega
  try simp only [List.getElem_toArray, List.getElem_cons_zero, List.getElem_cons_succ, Act.put, List.setIfInBounds_toArray, List.set_cons_zero, List.set_cons_succ]
  refine g_store 16 15 _ (.cells #[.int .u64 up0, .int .u64 up1, .int .u64 up2, .int .u64 up3, .int .u64 up4] 28) g6 (.cells #[.int .u64 0, .int .u64 0, .int .u64 0, .int .u64 0, .int .u64 0] 28) (fun k => decide (16 ≤ k ∧ k ≤ 16) && k != 16) rfl rfl rfl rfl ?_ (by kernel_rfl) (by kernel_rfl) (by kernel_rfl) (by kernel_rfl) (by simp [upd]) ?_ ?_
  · intro j hj
    simp only [Bool.and_eq_true, decide_eq_true_eq, bne_iff_ne] at hj
    rcases (show j = 16 by omega) with rfl <;> first | exact ⟨_, _, rfl, by decide⟩ | omega
  · exact stores_whole 28 _ _ rfl g6 [.int .u64 up0, .int .u64 up1, .int .u64 up2, .int .u64 up3, .int .u64 up4] [.int .u64 0, .int .u64 0, .int .u64 0, .int .u64 0, .int .u64 0] rfl rfl rfl (by kernel_rfl) (by kernel_rfl)
  try simp only [List.getElem_toArray, List.getElem_cons_zero, List.getElem_cons_succ, Act.put, List.setIfInBounds_toArray, List.set_cons_zero, List.set_cons_succ]
  refine ⟨by kernel_rfl, fun w3 hV => ?_⟩
  have own6 := hV.own 15 _ (by simp [upd]; rfl)
  have B6_3 : Hid (At 28 w3 g6 [.int .u64 up0, .int .u64 up1, .int .u64 up2, .int .u64 up3, .int .u64 up4]) := own6.2.2
  have szB6 : w.heap.size ≤ g6 := by have h1 := own6.1; have h2 := G_2.out.size; dsimp only at h1; omega
  have nlB2B6 : w.heap.size < g6 := by have h1 := own6.1; have h2 := B2_2.out.lt; dsimp only at h1; omega
  have nlB3B6 : (w.heap.size + 1) < g6 := by have h1 := own6.1; have h2 := B3_2.out.lt; dsimp only at h1; omega
  have nlB4B6 : (w.heap.size + 1 + 1) < g6 := by have h1 := own6.1; have h2 := B4_2.out.lt; dsimp only at h1; omega
  have nlB5B6 : g5 < g6 := by have h1 := own6.1; have h2 := B5_2.out.lt; dsimp only at h1; omega
  have g := hV.bel
  have B2_3 := hid (B2_2.out.below g)
  have B3_3 := hid (B3_2.out.below g)
  have B4_3 := hid (B4_2.out.below g)
  have B5_3 := hid (B5_2.out.below g)
  have T_3 := hid (T_2.out.grown g)
  have Z_3 := hid (Z_2.out.grown g)
  have G_3 := hid (G_2.out.trans (g.mono G_2.out.size))
  clear hV g own6 B2_2 B3_2 B4_2 B5_2 T_2 Z_2 G_2
  go_wp2_with fail
  refine wp_region_grow (ob := (fun k => if k = 7 then some (.cells #[.int .u64 0, .int .u64 0, .int .u64 0, .int .u64 0, .int .u64 0] 28) else none)) (st := (fun k => if k = 8 then some (7, .cells #[.int .u64 cr0, .int .u64 cr1, .int .u64 cr2, .int .u64 cr3, .int .u64 cr4] 28) else none)) (by kernel_rfl) ?_
  simp only [List.size_toArray, List.length_cons, List.length_nil, Nat.reduceAdd, Array.replicate_succ, Array.replicate_zero, List.push_toArray, List.nil_append, List.cons_append]
  refine g_first 0 _ (.pointer (some ⟨w.heap.size, 15, none⟩)) rfl rfl rfl (by kernel_rfl) (by kernel_rfl) (by kernel_rfl) ?_ ?_
  · refine Or.inl ⟨by rfl, fun w' hw' => ?_⟩
    unfold Oper.quietAt
    go_simp
  try simp only [List.getElem_toArray, List.getElem_cons_zero, List.getElem_cons_succ, Act.put, List.setIfInBounds_toArray, List.set_cons_zero, List.set_cons_succ]
  refine g_first 1 _ (.agg #[.int .u64 pt0, .int .u64 pt1, .int .u64 pt2, .int .u64 pt3, .int .u64 pt4]) rfl rfl rfl (by kernel_rfl) (by kernel_rfl) (by kernel_rfl) ?_ ?_
  · refine Or.inl ⟨by rfl, fun w' hw' => ?_⟩
    exact quiet_load 28 _ rfl _ 15 rfl _ _ (at_mid (B2_3.out.below hw') 15 _ rfl) Tryd.underlying28 rfl (by kernel_rfl)
  try simp only [List.getElem_toArray, List.getElem_cons_zero, List.getElem_cons_succ, Act.put, List.setIfInBounds_toArray, List.set_cons_zero, List.set_cons_succ]
  refine g_first 2 _ (.agg #[.int .u64 1859910466990425, .int .u64 932731440258426, .int .u64 1072319116312658, .int .u64 1815898335770999, .int .u64 633789495995903]) rfl rfl rfl (by kernel_rfl) (by kernel_rfl) (by kernel_rfl) ?_ ?_
  · refine Or.inl ⟨by rfl, fun w' hw' => ?_⟩
    exact quiet_load 28 _ rfl 2 0 rfl _ _ (T_3.out.grown hw').range Tryd.underlying28 rfl (by kernel_rfl)
  try simp only [List.getElem_toArray, List.getElem_cons_zero, List.getElem_cons_succ, Act.put, List.setIfInBounds_toArray, List.set_cons_zero, List.set_cons_succ]
  refine g_first 3 _ (.agg #[.int .u64 ca0, .int .u64 ca1, .int .u64 ca2, .int .u64 ca3, .int .u64 ca4]) rfl rfl rfl (by kernel_rfl) (by kernel_rfl) (by kernel_rfl) ?_ ?_
  · refine Or.inl ⟨by rfl, fun w' hw' => ?_⟩
    refine quiet_call (by go_simp) (Q7.out _)
  try simp only [List.getElem_toArray, List.getElem_cons_zero, List.getElem_cons_succ, Act.put, List.setIfInBounds_toArray, List.set_cons_zero, List.set_cons_succ]
  refine g_first 4 _ (.pointer (some ⟨(w.heap.size + 1), 15, none⟩)) rfl rfl rfl (by kernel_rfl) (by kernel_rfl) (by kernel_rfl) ?_ ?_
  · refine Or.inl ⟨by rfl, fun w' hw' => ?_⟩
    unfold Oper.quietAt
    go_simp
  try simp only [List.getElem_toArray, List.getElem_cons_zero, List.getElem_cons_succ, Act.put, List.setIfInBounds_toArray, List.set_cons_zero, List.set_cons_succ]
  refine g_first 5 _ (.agg #[.int .u64 qt0, .int .u64 qt1, .int .u64 qt2, .int .u64 qt3, .int .u64 qt4]) rfl rfl rfl (by kernel_rfl) (by kernel_rfl) (by kernel_rfl) ?_ ?_
  · refine Or.inl ⟨by rfl, fun w' hw' => ?_⟩
    exact quiet_load 28 _ rfl _ 15 rfl _ _ (at_mid (B3_3.out.below hw') 15 _ rfl) Tryd.underlying28 rfl (by kernel_rfl)
  try simp only [List.getElem_toArray, List.getElem_cons_zero, List.getElem_cons_succ, Act.put, List.setIfInBounds_toArray, List.set_cons_zero, List.set_cons_succ]
  refine g_first 6 _ (.agg #[.int .u64 cr0, .int .u64 cr1, .int .u64 cr2, .int .u64 cr3, .int .u64 cr4]) rfl rfl rfl (by kernel_rfl) (by kernel_rfl) (by kernel_rfl) ?_ ?_
  · refine Or.inl ⟨by rfl, fun w' hw' => ?_⟩
    refine quiet_call (by go_simp) (Q8.out _)
  try simp only [List.getElem_toArray, List.getElem_cons_zero, List.getElem_cons_succ, Act.put, List.setIfInBounds_toArray, List.set_cons_zero, List.set_cons_succ]
  refine g_make 7 _ (.cells #[.int .u64 0, .int .u64 0, .int .u64 0, .int .u64 0, .int .u64 0] 28) (fun k => (decide (7 ≤ k ∧ k ≤ 7)) || (decide (8 ≤ k ∧ k ≤ 8) && k != 8)) rfl rfl rfl rfl ?_ ?_ (by kernel_rfl) (by kernel_rfl) (by kernel_rfl) (by kernel_rfl) (fun g7 => ?_)
  · intro a w
    go_simp
  · intro j hj
    simp only [Bool.or_eq_true, Bool.and_eq_true, decide_eq_true_eq, bne_iff_ne] at hj
    rcases hj with hj | ⟨hj, hne⟩
    · left
      rcases (show j = 7 by omega) with rfl <;> simp
    · right
      rcases (show j = 8 by omega) with rfl <;> first | exact ⟨_, _, rfl, by decide⟩ | omega
  try simp only [List.getElem_toArray, List.getElem_cons_zero, List.getElem_cons_succ, Act.put, List.setIfInBounds_toArray, List.set_cons_zero, List.set_cons_succ]
  refine g_store 8 7 _ (.cells #[.int .u64 cr0, .int .u64 cr1, .int .u64 cr2, .int .u64 cr3, .int .u64 cr4] 28) g7 (.cells #[.int .u64 0, .int .u64 0, .int .u64 0, .int .u64 0, .int .u64 0] 28) (fun k => decide (8 ≤ k ∧ k ≤ 8) && k != 8) rfl rfl rfl rfl ?_ (by kernel_rfl) (by kernel_rfl) (by kernel_rfl) (by kernel_rfl) (by simp [upd]) ?_ ?_
  · intro j hj
    simp only [Bool.and_eq_true, decide_eq_true_eq, bne_iff_ne] at hj
    rcases (show j = 8 by omega) with rfl <;> first | exact ⟨_, _, rfl, by decide⟩ | omega
  · exact stores_whole 28 _ _ rfl g7 [.int .u64 cr0, .int .u64 cr1, .int .u64 cr2, .int .u64 cr3, .int .u64 cr4] [.int .u64 0, .int .u64 0, .int .u64 0, .int .u64 0, .int .u64 0] rfl rfl rfl (by kernel_rfl) (by kernel_rfl)
  try simp only [List.getElem_toArray, List.getElem_cons_zero, List.getElem_cons_succ, Act.put, List.setIfInBounds_toArray, List.set_cons_zero, List.set_cons_succ]
  refine ⟨by kernel_rfl, fun w4 hV => ?_⟩
  have own7 := hV.own 7 _ (by simp [upd]; rfl)
  have B7_4 : Hid (At 28 w4 g7 [.int .u64 cr0, .int .u64 cr1, .int .u64 cr2, .int .u64 cr3, .int .u64 cr4]) := own7.2.2
  have szB7 : w.heap.size ≤ g7 := by have h1 := own7.1; have h2 := G_3.out.size; dsimp only at h1; omega
  have nlB2B7 : w.heap.size < g7 := by have h1 := own7.1; have h2 := B2_3.out.lt; dsimp only at h1; omega
  have nlB3B7 : (w.heap.size + 1) < g7 := by have h1 := own7.1; have h2 := B3_3.out.lt; dsimp only at h1; omega
  have nlB4B7 : (w.heap.size + 1 + 1) < g7 := by have h1 := own7.1; have h2 := B4_3.out.lt; dsimp only at h1; omega
  have nlB5B7 : g5 < g7 := by have h1 := own7.1; have h2 := B5_3.out.lt; dsimp only at h1; omega
  have nlB6B7 : g6 < g7 := by have h1 := own7.1; have h2 := B6_3.out.lt; dsimp only at h1; omega
  have g := hV.bel
  have B2_4 := hid (B2_3.out.below g)
  have B3_4 := hid (B3_3.out.below g)
  have B4_4 := hid (B4_3.out.below g)
  have B5_4 := hid (B5_3.out.below g)
  have B6_4 := hid (B6_3.out.below g)
  have T_4 := hid (T_3.out.grown g)
  have Z_4 := hid (Z_3.out.grown g)
  have G_4 := hid (G_3.out.trans (g.mono G_3.out.size))
  clear hV g own7 B2_3 B3_3 B4_3 B5_3 B6_3 T_3 Z_3 G_3
  go_wp2_with fail
  refine wp_region_grow (ob := (fun k => if k = 11 then some (.cells #[.int .u64 0, .int .u64 0, .int .u64 0, .int .u64 0, .int .u64 0] 28) else none)) (st := (fun k => if k = 12 then some (11, .cells #[.int .u64 bo0, .int .u64 bo1, .int .u64 bo2, .int .u64 bo3, .int .u64 bo4] 28) else none)) (by kernel_rfl) ?_
  simp only [List.size_toArray, List.length_cons, List.length_nil, Nat.reduceAdd, Array.replicate_succ, Array.replicate_zero, List.push_toArray, List.nil_append, List.cons_append]
  refine g_first 0 _ (.pointer (some ⟨w.heap.size, 0, none⟩)) rfl rfl rfl (by kernel_rfl) (by kernel_rfl) (by kernel_rfl) ?_ ?_
  · refine Or.inl ⟨by rfl, fun w' hw' => ?_⟩
    unfold Oper.quietAt
    go_simp
  try simp only [List.getElem_toArray, List.getElem_cons_zero, List.getElem_cons_succ, Act.put, List.setIfInBounds_toArray, List.set_cons_zero, List.set_cons_succ]
  refine g_first 1 _ (.pointer (some ⟨w.heap.size, 10, none⟩)) rfl rfl rfl (by kernel_rfl) (by kernel_rfl) (by kernel_rfl) ?_ ?_
  · refine Or.inl ⟨by rfl, fun w' hw' => ?_⟩
    unfold Oper.quietAt
    go_simp
  try simp only [List.getElem_toArray, List.getElem_cons_zero, List.getElem_cons_succ, Act.put, List.setIfInBounds_toArray, List.set_cons_zero, List.set_cons_succ]
  refine g_first 2 _ (.agg #[.int .u64 pz0, .int .u64 pz1, .int .u64 pz2, .int .u64 pz3, .int .u64 pz4]) rfl rfl rfl (by kernel_rfl) (by kernel_rfl) (by kernel_rfl) ?_ ?_
  · refine Or.inl ⟨by rfl, fun w' hw' => ?_⟩
    exact quiet_load 28 _ rfl _ 10 rfl _ _ (at_mid (B2_4.out.below hw') 10 _ rfl) Tryd.underlying28 rfl (by kernel_rfl)
  try simp only [List.getElem_toArray, List.getElem_cons_zero, List.getElem_cons_succ, Act.put, List.setIfInBounds_toArray, List.set_cons_zero, List.set_cons_succ]
  refine g_first 3 _ (.pointer (some ⟨w.heap.size, 0, none⟩)) rfl rfl rfl (by kernel_rfl) (by kernel_rfl) (by kernel_rfl) ?_ ?_
  · refine Or.inl ⟨by rfl, fun w' hw' => ?_⟩
    unfold Oper.quietAt
    go_simp
  try simp only [List.getElem_toArray, List.getElem_cons_zero, List.getElem_cons_succ, Act.put, List.setIfInBounds_toArray, List.set_cons_zero, List.set_cons_succ]
  refine g_first 4 _ (.pointer (some ⟨w.heap.size, 10, none⟩)) rfl rfl rfl (by kernel_rfl) (by kernel_rfl) (by kernel_rfl) ?_ ?_
  · refine Or.inl ⟨by rfl, fun w' hw' => ?_⟩
    unfold Oper.quietAt
    go_simp
  try simp only [List.getElem_toArray, List.getElem_cons_zero, List.getElem_cons_succ, Act.put, List.setIfInBounds_toArray, List.set_cons_zero, List.set_cons_succ]
  refine g_first 5 _ (.agg #[.int .u64 pz0, .int .u64 pz1, .int .u64 pz2, .int .u64 pz3, .int .u64 pz4]) rfl rfl rfl (by kernel_rfl) (by kernel_rfl) (by kernel_rfl) ?_ ?_
  · refine Or.inl ⟨by rfl, fun w' hw' => ?_⟩
    exact quiet_load 28 _ rfl _ 10 rfl _ _ (at_mid (B2_4.out.below hw') 10 _ rfl) Tryd.underlying28 rfl (by kernel_rfl)
  try simp only [List.getElem_toArray, List.getElem_cons_zero, List.getElem_cons_succ, Act.put, List.setIfInBounds_toArray, List.set_cons_zero, List.set_cons_succ]
  refine g_first 6 _ (.agg #[.int .u64 ba0, .int .u64 ba1, .int .u64 ba2, .int .u64 ba3, .int .u64 ba4]) rfl rfl rfl (by kernel_rfl) (by kernel_rfl) (by kernel_rfl) ?_ ?_
  · refine Or.inl ⟨by rfl, fun w' hw' => ?_⟩
    refine quiet_call (by go_simp) (Q9.out _)
  try simp only [List.getElem_toArray, List.getElem_cons_zero, List.getElem_cons_succ, Act.put, List.setIfInBounds_toArray, List.set_cons_zero, List.set_cons_succ]
  refine g_first 7 _ (.pointer (some ⟨(w.heap.size + 1), 0, none⟩)) rfl rfl rfl (by kernel_rfl) (by kernel_rfl) (by kernel_rfl) ?_ ?_
  · refine Or.inl ⟨by rfl, fun w' hw' => ?_⟩
    unfold Oper.quietAt
    go_simp
  try simp only [List.getElem_toArray, List.getElem_cons_zero, List.getElem_cons_succ, Act.put, List.setIfInBounds_toArray, List.set_cons_zero, List.set_cons_succ]
  refine g_first 8 _ (.pointer (some ⟨(w.heap.size + 1), 10, none⟩)) rfl rfl rfl (by kernel_rfl) (by kernel_rfl) (by kernel_rfl) ?_ ?_
  · refine Or.inl ⟨by rfl, fun w' hw' => ?_⟩
    unfold Oper.quietAt
    go_simp
  try simp only [List.getElem_toArray, List.getElem_cons_zero, List.getElem_cons_succ, Act.put, List.setIfInBounds_toArray, List.set_cons_zero, List.set_cons_succ]
  refine g_first 9 _ (.agg #[.int .u64 qz0, .int .u64 qz1, .int .u64 qz2, .int .u64 qz3, .int .u64 qz4]) rfl rfl rfl (by kernel_rfl) (by kernel_rfl) (by kernel_rfl) ?_ ?_
  · refine Or.inl ⟨by rfl, fun w' hw' => ?_⟩
    exact quiet_load 28 _ rfl _ 10 rfl _ _ (at_mid (B3_4.out.below hw') 10 _ rfl) Tryd.underlying28 rfl (by kernel_rfl)
  try simp only [List.getElem_toArray, List.getElem_cons_zero, List.getElem_cons_succ, Act.put, List.setIfInBounds_toArray, List.set_cons_zero, List.set_cons_succ]
  refine g_first 10 _ (.agg #[.int .u64 bo0, .int .u64 bo1, .int .u64 bo2, .int .u64 bo3, .int .u64 bo4]) rfl rfl rfl (by kernel_rfl) (by kernel_rfl) (by kernel_rfl) ?_ ?_
  · refine Or.inl ⟨by rfl, fun w' hw' => ?_⟩
    refine quiet_call (by go_simp) (Q10.out _)
  try simp only [List.getElem_toArray, List.getElem_cons_zero, List.getElem_cons_succ, Act.put, List.setIfInBounds_toArray, List.set_cons_zero, List.set_cons_succ]
  refine g_make 11 _ (.cells #[.int .u64 0, .int .u64 0, .int .u64 0, .int .u64 0, .int .u64 0] 28) (fun k => (decide (11 ≤ k ∧ k ≤ 11)) || (decide (12 ≤ k ∧ k ≤ 12) && k != 12)) rfl rfl rfl rfl ?_ ?_ (by kernel_rfl) (by kernel_rfl) (by kernel_rfl) (by kernel_rfl) (fun g8 => ?_)
  · intro a w
    go_simp
  · intro j hj
    simp only [Bool.or_eq_true, Bool.and_eq_true, decide_eq_true_eq, bne_iff_ne] at hj
    rcases hj with hj | ⟨hj, hne⟩
    · left
      rcases (show j = 11 by omega) with rfl <;> simp
    · right
      rcases (show j = 12 by omega) with rfl <;> first | exact ⟨_, _, rfl, by decide⟩ | omega
  try simp only [List.getElem_toArray, List.getElem_cons_zero, List.getElem_cons_succ, Act.put, List.setIfInBounds_toArray, List.set_cons_zero, List.set_cons_succ]
  refine g_store 12 11 _ (.cells #[.int .u64 bo0, .int .u64 bo1, .int .u64 bo2, .int .u64 bo3, .int .u64 bo4] 28) g8 (.cells #[.int .u64 0, .int .u64 0, .int .u64 0, .int .u64 0, .int .u64 0] 28) (fun k => decide (12 ≤ k ∧ k ≤ 12) && k != 12) rfl rfl rfl rfl ?_ (by kernel_rfl) (by kernel_rfl) (by kernel_rfl) (by kernel_rfl) (by simp [upd]) ?_ ?_
  · intro j hj
    simp only [Bool.and_eq_true, decide_eq_true_eq, bne_iff_ne] at hj
    rcases (show j = 12 by omega) with rfl <;> first | exact ⟨_, _, rfl, by decide⟩ | omega
  · exact stores_whole 28 _ _ rfl g8 [.int .u64 bo0, .int .u64 bo1, .int .u64 bo2, .int .u64 bo3, .int .u64 bo4] [.int .u64 0, .int .u64 0, .int .u64 0, .int .u64 0, .int .u64 0] rfl rfl rfl (by kernel_rfl) (by kernel_rfl)
  try simp only [List.getElem_toArray, List.getElem_cons_zero, List.getElem_cons_succ, Act.put, List.setIfInBounds_toArray, List.set_cons_zero, List.set_cons_succ]
  refine ⟨by kernel_rfl, fun w5 hV => ?_⟩
  have own8 := hV.own 11 _ (by simp [upd]; rfl)
  have B8_5 : Hid (At 28 w5 g8 [.int .u64 bo0, .int .u64 bo1, .int .u64 bo2, .int .u64 bo3, .int .u64 bo4]) := own8.2.2
  have szB8 : w.heap.size ≤ g8 := by have h1 := own8.1; have h2 := G_4.out.size; dsimp only at h1; omega
  have nlB2B8 : w.heap.size < g8 := by have h1 := own8.1; have h2 := B2_4.out.lt; dsimp only at h1; omega
  have nlB3B8 : (w.heap.size + 1) < g8 := by have h1 := own8.1; have h2 := B3_4.out.lt; dsimp only at h1; omega
  have nlB4B8 : (w.heap.size + 1 + 1) < g8 := by have h1 := own8.1; have h2 := B4_4.out.lt; dsimp only at h1; omega
  have nlB5B8 : g5 < g8 := by have h1 := own8.1; have h2 := B5_4.out.lt; dsimp only at h1; omega
  have nlB6B8 : g6 < g8 := by have h1 := own8.1; have h2 := B6_4.out.lt; dsimp only at h1; omega
  have nlB7B8 : g7 < g8 := by have h1 := own8.1; have h2 := B7_4.out.lt; dsimp only at h1; omega
  have g := hV.bel
  have B2_5 := hid (B2_4.out.below g)
  have B3_5 := hid (B3_4.out.below g)
  have B4_5 := hid (B4_4.out.below g)
  have B5_5 := hid (B5_4.out.below g)
  have B6_5 := hid (B6_4.out.below g)
  have B7_5 := hid (B7_4.out.below g)
  have T_5 := hid (T_4.out.grown g)
  have Z_5 := hid (Z_4.out.grown g)
  have G_5 := hid (G_4.out.trans (g.mono G_4.out.size))
  clear hV g own8 B2_4 B3_4 B4_4 B5_4 B6_4 B7_4 T_4 Z_4 G_4
  go_wp2_with fail
  have T_5' := hid (T_5.out.grown (Below.refl _ w5).drew)
  have Z_5' := hid (Z_5.out.grown (Below.refl _ w5).drew)
  have K5 : At 28 w5.drew g6 [.int .u64 up0, .int .u64 up1, .int .u64 up2, .int .u64 up3, .int .u64 up4] ∧ At 28 w5.drew g5 [.int .u64 dn0, .int .u64 dn1, .int .u64 dn2, .int .u64 dn3, .int .u64 dn4] ∧ At 28 w5.drew g8 [.int .u64 bo0, .int .u64 bo1, .int .u64 bo2, .int .u64 bo3, .int .u64 bo4] ∧ At 28 w5.drew g7 [.int .u64 cr0, .int .u64 cr1, .int .u64 cr2, .int .u64 cr3, .int .u64 cr4] := And.intro B6_5.out.drew (And.intro B5_5.out.drew (And.intro B8_5.out.drew (B7_5.out.drew)))
  refine wp_region_late (L := 13) (S := fun w' => At 28 w' g6 [.int .u64 up0, .int .u64 up1, .int .u64 up2, .int .u64 up3, .int .u64 up4] ∧ At 28 w' g5 [.int .u64 dn0, .int .u64 dn1, .int .u64 dn2, .int .u64 dn3, .int .u64 dn4] ∧ At 28 w' g8 [.int .u64 bo0, .int .u64 bo1, .int .u64 bo2, .int .u64 bo3, .int .u64 bo4] ∧ At 28 w' g7 [.int .u64 cr0, .int .u64 cr1, .int .u64 cr2, .int .u64 cr3, .int .u64 cr4]) (by kernel_rfl) K5 (fun hHeld => ?_)
  clear K5
  refine l_take 0 (v := .agg #[.int .u64 up0, .int .u64 up1, .int .u64 up2, .int .u64 up3, .int .u64 up4]) rfl (by kernel_rfl) (by kernel_rfl) (by kernel_rfl) (by kernel_rfl) (fun _ _ _ h => h) (by rfl) ?hyr4_0 (by assumption) ?_
  case hyr4_0 =>
    intro w' hSw
    exact load_run 28 _ rfl _ 0 rfl _ _ (at_mid hSw.1 0 _ rfl) Tryd.underlying28 rfl (by kernel_rfl)
  try simp only [Act.put, List.setIfInBounds_toArray, List.set_cons_zero, List.set_cons_succ]
  refine l_take 1 (v := .agg #[.int .u64 dn0, .int .u64 dn1, .int .u64 dn2, .int .u64 dn3, .int .u64 dn4]) rfl (by kernel_rfl) (by kernel_rfl) (by kernel_rfl) (by kernel_rfl) (fun _ _ _ h => h) (by rfl) ?hyr4_1 (by assumption) ?_
  case hyr4_1 =>
    intro w' hSw
    exact load_run 28 _ rfl _ 0 rfl _ _ (at_mid hSw.2.1 0 _ rfl) Tryd.underlying28 rfl (by kernel_rfl)
  try simp only [Act.put, List.setIfInBounds_toArray, List.set_cons_zero, List.set_cons_succ]
  refine l_take 3 (v := .agg #[.int .u64 bo0, .int .u64 bo1, .int .u64 bo2, .int .u64 bo3, .int .u64 bo4]) rfl (by kernel_rfl) (by kernel_rfl) (by kernel_rfl) (by kernel_rfl) (fun _ _ _ h => h) (by rfl) ?hyr4_3 (by assumption) ?_
  case hyr4_3 =>
    intro w' hSw
    exact load_run 28 _ rfl _ 0 rfl _ _ (at_mid hSw.2.2.1 0 _ rfl) Tryd.underlying28 rfl (by kernel_rfl)
  try simp only [Act.put, List.setIfInBounds_toArray, List.set_cons_zero, List.set_cons_succ]
  refine l_take 4 (v := .agg #[.int .u64 cr0, .int .u64 cr1, .int .u64 cr2, .int .u64 cr3, .int .u64 cr4]) rfl (by kernel_rfl) (by kernel_rfl) (by kernel_rfl) (by kernel_rfl) (fun _ _ _ h => h) (by rfl) ?hyr4_4 (by assumption) ?_
  case hyr4_4 =>
    intro w' hSw
    exact load_run 28 _ rfl _ 0 rfl _ _ (at_mid hSw.2.2.2 0 _ rfl) Tryd.underlying28 rfl (by kernel_rfl)
  try simp only [Act.put, List.setIfInBounds_toArray, List.set_cons_zero, List.set_cons_succ]
  refine l_take 6 (v := .agg #[.int .u64 up0, .int .u64 up1, .int .u64 up2, .int .u64 up3, .int .u64 up4]) rfl (by kernel_rfl) (by kernel_rfl) (by kernel_rfl) (by kernel_rfl) (fun _ _ _ h => h) (by rfl) ?hyr4_6 (by assumption) ?_
  case hyr4_6 =>
    intro w' hSw
    exact load_run 28 _ rfl _ 0 rfl _ _ (at_mid hSw.1 0 _ rfl) Tryd.underlying28 rfl (by kernel_rfl)
  try simp only [Act.put, List.setIfInBounds_toArray, List.set_cons_zero, List.set_cons_succ]
  refine l_take 7 (v := .agg #[.int .u64 dn0, .int .u64 dn1, .int .u64 dn2, .int .u64 dn3, .int .u64 dn4]) rfl (by kernel_rfl) (by kernel_rfl) (by kernel_rfl) (by kernel_rfl) (fun _ _ _ h => h) (by rfl) ?hyr4_7 (by assumption) ?_
  case hyr4_7 =>
    intro w' hSw
    exact load_run 28 _ rfl _ 0 rfl _ _ (at_mid hSw.2.1 0 _ rfl) Tryd.underlying28 rfl (by kernel_rfl)
  try simp only [Act.put, List.setIfInBounds_toArray, List.set_cons_zero, List.set_cons_succ]
  refine l_take 9 (v := .agg #[.int .u64 bo0, .int .u64 bo1, .int .u64 bo2, .int .u64 bo3, .int .u64 bo4]) rfl (by kernel_rfl) (by kernel_rfl) (by kernel_rfl) (by kernel_rfl) (fun _ _ _ h => h) (by rfl) ?hyr4_9 (by assumption) ?_
  case hyr4_9 =>
    intro w' hSw
    exact load_run 28 _ rfl _ 0 rfl _ _ (at_mid hSw.2.2.1 0 _ rfl) Tryd.underlying28 rfl (by kernel_rfl)
  try simp only [Act.put, List.setIfInBounds_toArray, List.set_cons_zero, List.set_cons_succ]
  refine l_take 10 (v := .agg #[.int .u64 cr0, .int .u64 cr1, .int .u64 cr2, .int .u64 cr3, .int .u64 cr4]) rfl (by kernel_rfl) (by kernel_rfl) (by kernel_rfl) (by kernel_rfl) (fun _ _ _ h => h) (by rfl) ?hyr4_10 (by assumption) ?_
  case hyr4_10 =>
    intro w' hSw
    exact load_run 28 _ rfl _ 0 rfl _ _ (at_mid hSw.2.2.2 0 _ rfl) Tryd.underlying28 rfl (by kernel_rfl)
  try simp only [Act.put, List.setIfInBounds_toArray, List.set_cons_zero, List.set_cons_succ]
  refine l_call 2 rfl (by kernel_rfl) (by rfl) (fun Kk hK => ?_)
  go_simp
  (refine (Q11.out _ Z_5'.out).mono ?_)
  rintro e w6 ⟨rfl, g0⟩
  have g : Below w5.heap.size w5 w6 := (Below.refl _ w5).drew.trans g0
  clear g0
  have B2_6 := hid (B2_5.out.below g)
  have B3_6 := hid (B3_5.out.below g)
  have B4_6 := hid (B4_5.out.below g)
  have B5_6 := hid (B5_5.out.below g)
  have B6_6 := hid (B6_5.out.below g)
  have B7_6 := hid (B7_5.out.below g)
  have B8_6 := hid (B8_5.out.below g)
  have T_6 := hid (T_5.out.grown g)
  have Z_6 := hid (Z_5.out.grown g)
  have G_6 := hid (G_5.out.trans (g.mono G_5.out.size))
  clear g B2_5 B3_5 B4_5 B5_5 B6_5 B7_5 B8_5 T_5 Z_5 G_5
  clear T_5' Z_5'
  have K6 := And.intro B6_6.out (And.intro B5_6.out (And.intro B8_6.out (B7_6.out)))
  clear hHeld
  refine hK.out _ _ (Or.inr K6) ?_
  have hHeld := K6
  clear hK Kk K6
  try simp only [Act.put, List.setIfInBounds_toArray, List.set_cons_zero, List.set_cons_succ]
  refine l_call 5 rfl (by kernel_rfl) (by rfl) (fun Kk hK => ?_)
  go_simp
  (refine (Q12.out _).mono ?_)
  rintro e w7 ⟨rfl, g0⟩
  have g := g0
  clear g0
  have B2_7 := hid (B2_6.out.below g)
  have B3_7 := hid (B3_6.out.below g)
  have B4_7 := hid (B4_6.out.below g)
  have B5_7 := hid (B5_6.out.below g)
  have B6_7 := hid (B6_6.out.below g)
  have B7_7 := hid (B7_6.out.below g)
  have B8_7 := hid (B8_6.out.below g)
  have T_7 := hid (T_6.out.grown g)
  have Z_7 := hid (Z_6.out.grown g)
  have G_7 := hid (G_6.out.trans (g.mono G_6.out.size))
  clear g B2_6 B3_6 B4_6 B5_6 B6_6 B7_6 B8_6 T_6 Z_6 G_6
  have K7 := And.intro B6_7.out (And.intro B5_7.out (And.intro B8_7.out (B7_7.out)))
  clear hHeld
  refine hK.out _ _ (Or.inr K7) ?_
  have hHeld := K7
  clear hK Kk K7
  try simp only [Act.put, List.setIfInBounds_toArray, List.set_cons_zero, List.set_cons_succ]
  refine l_call 8 rfl (by kernel_rfl) (by rfl) (fun Kk hK => ?_)
  go_simp
  (refine (Q13.out _).mono ?_)
  rintro e w8 ⟨rfl, g0⟩
  have g := g0
  clear g0
  have B2_8 := hid (B2_7.out.below g)
  have B3_8 := hid (B3_7.out.below g)
  have B4_8 := hid (B4_7.out.below g)
  have B5_8 := hid (B5_7.out.below g)
  have B6_8 := hid (B6_7.out.below g)
  have B7_8 := hid (B7_7.out.below g)
  have B8_8 := hid (B8_7.out.below g)
  have T_8 := hid (T_7.out.grown g)
  have Z_8 := hid (Z_7.out.grown g)
  have G_8 := hid (G_7.out.trans (g.mono G_7.out.size))
  clear g B2_7 B3_7 B4_7 B5_7 B6_7 B7_7 B8_7 T_7 Z_7 G_7
  have K8 := And.intro B6_8.out (And.intro B5_8.out (And.intro B8_8.out (B7_8.out)))
  clear hHeld
  refine hK.out _ _ (Or.inr K8) ?_
  have hHeld := K8
  clear hK Kk K8
  try simp only [Act.put, List.setIfInBounds_toArray, List.set_cons_zero, List.set_cons_succ]
  refine l_call 11 rfl (by kernel_rfl) (by rfl) (fun Kk hK => ?_)
  go_simp
  (refine (Q14.out _ Z_8.out).mono ?_)
  rintro e w9 ⟨rfl, g0⟩
  have g := g0
  clear g0
  have B2_9 := hid (B2_8.out.below g)
  have B3_9 := hid (B3_8.out.below g)
  have B4_9 := hid (B4_8.out.below g)
  have B5_9 := hid (B5_8.out.below g)
  have B6_9 := hid (B6_8.out.below g)
  have B7_9 := hid (B7_8.out.below g)
  have B8_9 := hid (B8_8.out.below g)
  have T_9 := hid (T_8.out.grown g)
  have Z_9 := hid (Z_8.out.grown g)
  have G_9 := hid (G_8.out.trans (g.mono G_8.out.size))
  clear g B2_8 B3_8 B4_8 B5_8 B6_8 B7_8 B8_8 T_8 Z_8 G_8
  have K9 := And.intro B6_9.out (And.intro B5_9.out (And.intro B8_9.out (B7_9.out)))
  clear hHeld
  refine hK.out _ _ (Or.inr K9) ?_
  have hHeld := K9
  clear hK Kk K9
  try simp only [Act.put, List.setIfInBounds_toArray, List.set_cons_zero, List.set_cons_succ]
  refine l_call 12 rfl (by kernel_rfl) (by rfl) (fun Kk hK => ?_)
  go_simp
  (refine (Q15.out _).mono ?_)
  rintro e w10 ⟨rfl, g0⟩
  have g := g0
  clear g0
  have B2_10 := hid (B2_9.out.below g)
  have B3_10 := hid (B3_9.out.below g)
  have B4_10 := hid (B4_9.out.below g)
  have B5_10 := hid (B5_9.out.below g)
  have B6_10 := hid (B6_9.out.below g)
  have B7_10 := hid (B7_9.out.below g)
  have B8_10 := hid (B8_9.out.below g)
  have T_10 := hid (T_9.out.grown g)
  have Z_10 := hid (Z_9.out.grown g)
  have G_10 := hid (G_9.out.trans (g.mono G_9.out.size))
  clear g B2_9 B3_9 B4_9 B5_9 B6_9 B7_9 B8_9 T_9 Z_9 G_9
  have K10 := And.intro B6_10.out (And.intro B5_10.out (And.intro B8_10.out (B7_10.out)))
  clear hHeld
  refine hK.out _ _ (Or.inr K10) ?_
  have hHeld := K10
  clear hK Kk K10
  try simp only [Act.put, List.setIfInBounds_toArray, List.set_cons_zero, List.set_cons_succ]
  refine l_call 13 rfl (by kernel_rfl) (by rfl) (fun Kk hK => ?_)
  refine store_whole 32 _ _ rfl (w.heap.size + 1 + 1) [.int .u64 cx0, .int .u64 cx1, .int .u64 cx2, .int .u64 cx3, .int .u64 cx4, .int .u64 cy0, .int .u64 cy1, .int .u64 cy2, .int .u64 cy3, .int .u64 cy4, .int .u64 cz0, .int .u64 cz1, .int .u64 cz2, .int .u64 cz3, .int .u64 cz4, .int .u64 ct0, .int .u64 ct1, .int .u64 ct2, .int .u64 ct3, .int .u64 ct4] _ rfl rfl B4_10.out rfl (by kernel_rfl) (by kernel_rfl) w.heap.size w G_10.out (by omega) (fun F hC hB => ?_)
  refine hK.out _ _ (Or.inl rfl) ?_
  clear hK Kk
  try simp only [Act.put, List.setIfInBounds_toArray, List.set_cons_zero, List.set_cons_succ]
  refine l_done (by kernel_rfl) ?_ _
  go_wp2_with fail
  exact bodyPost_ret (v := .agg #[.int .u64 cx0, .int .u64 cx1, .int .u64 cx2, .int .u64 cx3, .int .u64 cx4, .int .u64 cy0, .int .u64 cy1, .int .u64 cy2, .int .u64 cy3, .int .u64 cy4, .int .u64 cz0, .int .u64 cz1, .int .u64 cz2, .int .u64 cz3, .int .u64 cz4, .int .u64 ct0, .int .u64 ct1, .int .u64 ct2, .int .u64 ct3, .int .u64 ct4]) (results_mid (Tryd.results28) _ F (w.heap.size + 1 + 1) 0 [.int .u64 cx0, .int .u64 cx1, .int .u64 cx2, .int .u64 cx3, .int .u64 cx4, .int .u64 cy0, .int .u64 cy1, .int .u64 cy2, .int .u64 cy3, .int .u64 cy4, .int .u64 cz0, .int .u64 cz1, .int .u64 cz2, .int .u64 cz3, .int .u64 cz4, .int .u64 ct0, .int .u64 ct1, .int .u64 ct2, .int .u64 ct3, .int .u64 ct4] _ rfl hC.range Tryd.underlying32 rfl (by kernel_rfl)) rfl ⟨rfl, hB⟩
end Go.Proofs.YtedhfimjcpbcpaaDoor.Ed

/-
  The program's Double and Eight of layer 10: the walk, given what each call answers. Conditions: as each theorem says.
-/
namespace Go.Proofs.YtedhfimjcpbcpaaDoor.Ed
open Go.RowKit
set_option linter.unusedVariables false
set_option linter.unusedSimpArgs false

set_option maxRecDepth 100000 in
set_option maxHeartbeats 8000000 in
theorem double_w (px py pz pt sx sy sz su xy sq tw re zz fa cx cy cz ct : L5)
    (Q1 : Hid (∀ w : World, Calls Tryd.prog 80 #[.agg #[.int .u64 px.l0, .int .u64 px.l1, .int .u64 px.l2, .int .u64 px.l3, .int .u64 px.l4], .int .i64 1] w fun e w' => e = .returned (.agg #[.int .u64 sx.l0, .int .u64 sx.l1, .int .u64 sx.l2, .int .u64 sx.l3, .int .u64 sx.l4]) ∧ Below w.heap.size w w'))
    (Q2 : Hid (∀ w : World, Calls Tryd.prog 80 #[.agg #[.int .u64 py.l0, .int .u64 py.l1, .int .u64 py.l2, .int .u64 py.l3, .int .u64 py.l4], .int .i64 1] w fun e w' => e = .returned (.agg #[.int .u64 sy.l0, .int .u64 sy.l1, .int .u64 sy.l2, .int .u64 sy.l3, .int .u64 sy.l4]) ∧ Below w.heap.size w w'))
    (Q3 : Hid (∀ w : World, Calls Tryd.prog 80 #[.agg #[.int .u64 pz.l0, .int .u64 pz.l1, .int .u64 pz.l2, .int .u64 pz.l3, .int .u64 pz.l4], .int .i64 1] w fun e w' => e = .returned (.agg #[.int .u64 sz.l0, .int .u64 sz.l1, .int .u64 sz.l2, .int .u64 sz.l3, .int .u64 sz.l4]) ∧ Below w.heap.size w w'))
    (Q4 : Hid (∀ w : World, Calls Tryd.prog 71 #[.agg #[.int .u64 sx.l0, .int .u64 sx.l1, .int .u64 sx.l2, .int .u64 sx.l3, .int .u64 sx.l4], .agg #[.int .u64 sy.l0, .int .u64 sy.l1, .int .u64 sy.l2, .int .u64 sy.l3, .int .u64 sy.l4]] w fun e w' => e = .returned (.agg #[.int .u64 su.l0, .int .u64 su.l1, .int .u64 su.l2, .int .u64 su.l3, .int .u64 su.l4]) ∧ Below w.heap.size w w'))
    (Q5 : Hid (∀ w : World, Calls Tryd.prog 71 #[.agg #[.int .u64 px.l0, .int .u64 px.l1, .int .u64 px.l2, .int .u64 px.l3, .int .u64 px.l4], .agg #[.int .u64 py.l0, .int .u64 py.l1, .int .u64 py.l2, .int .u64 py.l3, .int .u64 py.l4]] w fun e w' => e = .returned (.agg #[.int .u64 xy.l0, .int .u64 xy.l1, .int .u64 xy.l2, .int .u64 xy.l3, .int .u64 xy.l4]) ∧ Below w.heap.size w w'))
    (Q6 : Hid (∀ w : World, Calls Tryd.prog 80 #[.agg #[.int .u64 xy.l0, .int .u64 xy.l1, .int .u64 xy.l2, .int .u64 xy.l3, .int .u64 xy.l4], .int .i64 1] w fun e w' => e = .returned (.agg #[.int .u64 sq.l0, .int .u64 sq.l1, .int .u64 sq.l2, .int .u64 sq.l3, .int .u64 sq.l4]) ∧ Below w.heap.size w w'))
    (Q7 : Hid (∀ w : World, Gf w → Calls Tryd.prog 70 #[.agg #[.int .u64 sq.l0, .int .u64 sq.l1, .int .u64 sq.l2, .int .u64 sq.l3, .int .u64 sq.l4], .agg #[.int .u64 su.l0, .int .u64 su.l1, .int .u64 su.l2, .int .u64 su.l3, .int .u64 su.l4]] w fun e w' => e = .returned (.agg #[.int .u64 tw.l0, .int .u64 tw.l1, .int .u64 tw.l2, .int .u64 tw.l3, .int .u64 tw.l4]) ∧ Below w.heap.size w w'))
    (Q8 : Hid (∀ w : World, Gf w → Calls Tryd.prog 70 #[.agg #[.int .u64 sy.l0, .int .u64 sy.l1, .int .u64 sy.l2, .int .u64 sy.l3, .int .u64 sy.l4], .agg #[.int .u64 sx.l0, .int .u64 sx.l1, .int .u64 sx.l2, .int .u64 sx.l3, .int .u64 sx.l4]] w fun e w' => e = .returned (.agg #[.int .u64 re.l0, .int .u64 re.l1, .int .u64 re.l2, .int .u64 re.l3, .int .u64 re.l4]) ∧ Below w.heap.size w w'))
    (Q9 : Hid (∀ w : World, Calls Tryd.prog 71 #[.agg #[.int .u64 sz.l0, .int .u64 sz.l1, .int .u64 sz.l2, .int .u64 sz.l3, .int .u64 sz.l4], .agg #[.int .u64 sz.l0, .int .u64 sz.l1, .int .u64 sz.l2, .int .u64 sz.l3, .int .u64 sz.l4]] w fun e w' => e = .returned (.agg #[.int .u64 zz.l0, .int .u64 zz.l1, .int .u64 zz.l2, .int .u64 zz.l3, .int .u64 zz.l4]) ∧ Below w.heap.size w w'))
    (Q10 : Hid (∀ w : World, Gf w → Calls Tryd.prog 70 #[.agg #[.int .u64 zz.l0, .int .u64 zz.l1, .int .u64 zz.l2, .int .u64 zz.l3, .int .u64 zz.l4], .agg #[.int .u64 re.l0, .int .u64 re.l1, .int .u64 re.l2, .int .u64 re.l3, .int .u64 re.l4]] w fun e w' => e = .returned (.agg #[.int .u64 fa.l0, .int .u64 fa.l1, .int .u64 fa.l2, .int .u64 fa.l3, .int .u64 fa.l4]) ∧ Below w.heap.size w w'))
    (Q11 : Hid (∀ w : World, Calls Tryd.prog 72 #[.agg #[.int .u64 tw.l0, .int .u64 tw.l1, .int .u64 tw.l2, .int .u64 tw.l3, .int .u64 tw.l4], .agg #[.int .u64 re.l0, .int .u64 re.l1, .int .u64 re.l2, .int .u64 re.l3, .int .u64 re.l4], .agg #[.int .u64 su.l0, .int .u64 su.l1, .int .u64 su.l2, .int .u64 su.l3, .int .u64 su.l4], .agg #[.int .u64 fa.l0, .int .u64 fa.l1, .int .u64 fa.l2, .int .u64 fa.l3, .int .u64 fa.l4]] w fun e w' => e = .returned (.agg #[.int .u64 cx.l0, .int .u64 cx.l1, .int .u64 cx.l2, .int .u64 cx.l3, .int .u64 cx.l4, .int .u64 cy.l0, .int .u64 cy.l1, .int .u64 cy.l2, .int .u64 cy.l3, .int .u64 cy.l4, .int .u64 cz.l0, .int .u64 cz.l1, .int .u64 cz.l2, .int .u64 cz.l3, .int .u64 cz.l4, .int .u64 ct.l0, .int .u64 ct.l1, .int .u64 ct.l2, .int .u64 ct.l3, .int .u64 ct.l4]) ∧ Below w.heap.size w w'))
    (w : World) (Z_0 : Hid (Gf w)) :
    Calls Tryd.prog 34 #[.agg #[.int .u64 px.l0, .int .u64 px.l1, .int .u64 px.l2, .int .u64 px.l3, .int .u64 px.l4, .int .u64 py.l0, .int .u64 py.l1, .int .u64 py.l2, .int .u64 py.l3, .int .u64 py.l4, .int .u64 pz.l0, .int .u64 pz.l1, .int .u64 pz.l2, .int .u64 pz.l3, .int .u64 pz.l4, .int .u64 pt.l0, .int .u64 pt.l1, .int .u64 pt.l2, .int .u64 pt.l3, .int .u64 pt.l4]] w fun e w' => e = .returned (.agg #[.int .u64 cx.l0, .int .u64 cx.l1, .int .u64 cx.l2, .int .u64 cx.l3, .int .u64 cx.l4, .int .u64 cy.l0, .int .u64 cy.l1, .int .u64 cy.l2, .int .u64 cy.l3, .int .u64 cy.l4, .int .u64 cz.l0, .int .u64 cz.l1, .int .u64 cz.l2, .int .u64 cz.l3, .int .u64 cz.l4, .int .u64 ct.l0, .int .u64 ct.l1, .int .u64 ct.l2, .int .u64 ct.l3, .int .u64 ct.l4]) ∧ Below w.heap.size w w' := by
  obtain ⟨px0, px1, px2, px3, px4⟩ := px
  obtain ⟨py0, py1, py2, py3, py4⟩ := py
  obtain ⟨pz0, pz1, pz2, pz3, pz4⟩ := pz
  obtain ⟨pt0, pt1, pt2, pt3, pt4⟩ := pt
  obtain ⟨sx0, sx1, sx2, sx3, sx4⟩ := sx
  obtain ⟨sy0, sy1, sy2, sy3, sy4⟩ := sy
  obtain ⟨sz0, sz1, sz2, sz3, sz4⟩ := sz
  obtain ⟨su0, su1, su2, su3, su4⟩ := su
  obtain ⟨xy0, xy1, xy2, xy3, xy4⟩ := xy
  obtain ⟨sq0, sq1, sq2, sq3, sq4⟩ := sq
  obtain ⟨tw0, tw1, tw2, tw3, tw4⟩ := tw
  obtain ⟨re0, re1, re2, re3, re4⟩ := re
  obtain ⟨zz0, zz1, zz2, zz3, zz4⟩ := zz
  obtain ⟨fa0, fa1, fa2, fa3, fa4⟩ := fa
  obtain ⟨cx0, cx1, cx2, cx3, cx4⟩ := cx
  obtain ⟨cy0, cy1, cy2, cy3, cy4⟩ := cy
  obtain ⟨cz0, cz1, cz2, cz3, cz4⟩ := cz
  obtain ⟨ct0, ct1, ct2, ct3, ct4⟩ := ct
  dsimp only at Q1 Q2 Q3 Q4 Q5 Q6 Q7 Q8 Q9 Q10 Q11 ⊢
  go_enter Tryd.func34, Tryd.ntmps34
  go_upto_region 1 with fail
  have HZ := Z_0.out.lt
  refine wp_cut (fun V => At 32 V w.heap.size [.int .u64 px0, .int .u64 px1, .int .u64 px2, .int .u64 px3, .int .u64 px4, .int .u64 py0, .int .u64 py1, .int .u64 py2, .int .u64 py3, .int .u64 py4, .int .u64 pz0, .int .u64 pz1, .int .u64 pz2, .int .u64 pz3, .int .u64 pz4, .int .u64 pt0, .int .u64 pt1, .int .u64 pt2, .int .u64 pt3, .int .u64 pt4] ∧ At 32 V (w.heap.size + 1) [.int .u64 0, .int .u64 0, .int .u64 0, .int .u64 0, .int .u64 0, .int .u64 0, .int .u64 0, .int .u64 0, .int .u64 0, .int .u64 0, .int .u64 0, .int .u64 0, .int .u64 0, .int .u64 0, .int .u64 0, .int .u64 0, .int .u64 0, .int .u64 0, .int .u64 0, .int .u64 0] ∧ Gf V ∧ Below w.heap.size w V) ⟨?_, ?_, ?_, ?_⟩ ?_
  · (repeat (first | refine At.drew ?_ | refine At.drewN ?_ _ | (refine at_new2 _ _ _ _ ?_; simp; done) | refine at_alloc ?_ _))
  · (repeat (first | refine At.drew ?_ | refine At.drewN ?_ _ | (refine at_new2 _ _ _ _ ?_; simp; done) | refine at_alloc ?_ _))
  · refine Z_0.out.grown ?_
    (repeat (first | exact Below.refl _ _ | refine Below.drew ?_ | refine below_drewN ?_ _ | refine Below.alloc ?_ (by simp <;> omega) _))
  · (repeat (first | exact Below.refl _ _ | refine Below.drew ?_ | refine below_drewN ?_ _ | refine Below.alloc ?_ (by simp <;> omega) _))
  rintro w1 ⟨k0, k1, k2, k3⟩
  have B1_1 := hid k0
  have B2_1 := hid k1
  have Z_1 := hid k2
  have G_1 := hid k3
  clear k0 k1 k2 k3 Z_0
  refine wp_region_grow (ob := (fun k => if k = 12 then some (.cells #[.int .u64 0, .int .u64 0, .int .u64 0, .int .u64 0, .int .u64 0] 28) else if k = 13 then some (.cells #[.int .u64 0, .int .u64 0, .int .u64 0, .int .u64 0, .int .u64 0] 28) else if k = 14 then some (.cells #[.int .u64 0, .int .u64 0, .int .u64 0, .int .u64 0, .int .u64 0] 28) else none)) (st := (fun k => if k = 15 then some (12, .cells #[.int .u64 sx0, .int .u64 sx1, .int .u64 sx2, .int .u64 sx3, .int .u64 sx4] 28) else if k = 16 then some (13, .cells #[.int .u64 sy0, .int .u64 sy1, .int .u64 sy2, .int .u64 sy3, .int .u64 sy4] 28) else if k = 17 then some (14, .cells #[.int .u64 sz0, .int .u64 sz1, .int .u64 sz2, .int .u64 sz3, .int .u64 sz4] 28) else none)) (by kernel_rfl) ?_
  simp only [List.size_toArray, List.length_cons, List.length_nil, Nat.reduceAdd, Array.replicate_succ, Array.replicate_zero, List.push_toArray, List.nil_append, List.cons_append]
  refine g_first 0 _ (.pointer (some ⟨w.heap.size, 0, none⟩)) rfl rfl rfl (by kernel_rfl) (by kernel_rfl) (by kernel_rfl) ?_ ?_
  · refine Or.inl ⟨by rfl, fun w' hw' => ?_⟩
    unfold Oper.quietAt
    go_simp
  try simp only [List.getElem_toArray, List.getElem_cons_zero, List.getElem_cons_succ, Act.put, List.setIfInBounds_toArray, List.set_cons_zero, List.set_cons_succ]
  refine g_first 1 _ (.pointer (some ⟨w.heap.size, 0, none⟩)) rfl rfl rfl (by kernel_rfl) (by kernel_rfl) (by kernel_rfl) ?_ ?_
  · refine Or.inl ⟨by rfl, fun w' hw' => ?_⟩
    unfold Oper.quietAt
    go_simp
  try simp only [List.getElem_toArray, List.getElem_cons_zero, List.getElem_cons_succ, Act.put, List.setIfInBounds_toArray, List.set_cons_zero, List.set_cons_succ]
  refine g_first 2 _ (.agg #[.int .u64 px0, .int .u64 px1, .int .u64 px2, .int .u64 px3, .int .u64 px4]) rfl rfl rfl (by kernel_rfl) (by kernel_rfl) (by kernel_rfl) ?_ ?_
  · refine Or.inl ⟨by rfl, fun w' hw' => ?_⟩
    exact quiet_load 28 _ rfl _ 0 rfl _ _ (at_mid (B1_1.out.below hw') 0 _ rfl) Tryd.underlying28 rfl (by kernel_rfl)
  try simp only [List.getElem_toArray, List.getElem_cons_zero, List.getElem_cons_succ, Act.put, List.setIfInBounds_toArray, List.set_cons_zero, List.set_cons_succ]
  refine g_first 3 _ (.agg #[.int .u64 sx0, .int .u64 sx1, .int .u64 sx2, .int .u64 sx3, .int .u64 sx4]) rfl rfl rfl (by kernel_rfl) (by kernel_rfl) (by kernel_rfl) ?_ ?_
  · refine Or.inl ⟨by rfl, fun w' hw' => ?_⟩
    refine quiet_call (by go_simp) (Q1.out _)
  try simp only [List.getElem_toArray, List.getElem_cons_zero, List.getElem_cons_succ, Act.put, List.setIfInBounds_toArray, List.set_cons_zero, List.set_cons_succ]
  refine g_first 4 _ (.pointer (some ⟨w.heap.size, 0, none⟩)) rfl rfl rfl (by kernel_rfl) (by kernel_rfl) (by kernel_rfl) ?_ ?_
  · refine Or.inl ⟨by rfl, fun w' hw' => ?_⟩
    unfold Oper.quietAt
    go_simp
  try simp only [List.getElem_toArray, List.getElem_cons_zero, List.getElem_cons_succ, Act.put, List.setIfInBounds_toArray, List.set_cons_zero, List.set_cons_succ]
  refine g_first 5 _ (.pointer (some ⟨w.heap.size, 5, none⟩)) rfl rfl rfl (by kernel_rfl) (by kernel_rfl) (by kernel_rfl) ?_ ?_
  · refine Or.inl ⟨by rfl, fun w' hw' => ?_⟩
    unfold Oper.quietAt
    go_simp
  try simp only [List.getElem_toArray, List.getElem_cons_zero, List.getElem_cons_succ, Act.put, List.setIfInBounds_toArray, List.set_cons_zero, List.set_cons_succ]
  refine g_first 6 _ (.agg #[.int .u64 py0, .int .u64 py1, .int .u64 py2, .int .u64 py3, .int .u64 py4]) rfl rfl rfl (by kernel_rfl) (by kernel_rfl) (by kernel_rfl) ?_ ?_
  · refine Or.inl ⟨by rfl, fun w' hw' => ?_⟩
    exact quiet_load 28 _ rfl _ 5 rfl _ _ (at_mid (B1_1.out.below hw') 5 _ rfl) Tryd.underlying28 rfl (by kernel_rfl)
  try simp only [List.getElem_toArray, List.getElem_cons_zero, List.getElem_cons_succ, Act.put, List.setIfInBounds_toArray, List.set_cons_zero, List.set_cons_succ]
  refine g_first 7 _ (.agg #[.int .u64 sy0, .int .u64 sy1, .int .u64 sy2, .int .u64 sy3, .int .u64 sy4]) rfl rfl rfl (by kernel_rfl) (by kernel_rfl) (by kernel_rfl) ?_ ?_
  · refine Or.inl ⟨by rfl, fun w' hw' => ?_⟩
    refine quiet_call (by go_simp) (Q2.out _)
  try simp only [List.getElem_toArray, List.getElem_cons_zero, List.getElem_cons_succ, Act.put, List.setIfInBounds_toArray, List.set_cons_zero, List.set_cons_succ]
  refine g_first 8 _ (.pointer (some ⟨w.heap.size, 0, none⟩)) rfl rfl rfl (by kernel_rfl) (by kernel_rfl) (by kernel_rfl) ?_ ?_
  · refine Or.inl ⟨by rfl, fun w' hw' => ?_⟩
    unfold Oper.quietAt
    go_simp
  try simp only [List.getElem_toArray, List.getElem_cons_zero, List.getElem_cons_succ, Act.put, List.setIfInBounds_toArray, List.set_cons_zero, List.set_cons_succ]
  refine g_first 9 _ (.pointer (some ⟨w.heap.size, 10, none⟩)) rfl rfl rfl (by kernel_rfl) (by kernel_rfl) (by kernel_rfl) ?_ ?_
  · refine Or.inl ⟨by rfl, fun w' hw' => ?_⟩
    unfold Oper.quietAt
    go_simp
  try simp only [List.getElem_toArray, List.getElem_cons_zero, List.getElem_cons_succ, Act.put, List.setIfInBounds_toArray, List.set_cons_zero, List.set_cons_succ]
  refine g_first 10 _ (.agg #[.int .u64 pz0, .int .u64 pz1, .int .u64 pz2, .int .u64 pz3, .int .u64 pz4]) rfl rfl rfl (by kernel_rfl) (by kernel_rfl) (by kernel_rfl) ?_ ?_
  · refine Or.inl ⟨by rfl, fun w' hw' => ?_⟩
    exact quiet_load 28 _ rfl _ 10 rfl _ _ (at_mid (B1_1.out.below hw') 10 _ rfl) Tryd.underlying28 rfl (by kernel_rfl)
  try simp only [List.getElem_toArray, List.getElem_cons_zero, List.getElem_cons_succ, Act.put, List.setIfInBounds_toArray, List.set_cons_zero, List.set_cons_succ]
  refine g_first 11 _ (.agg #[.int .u64 sz0, .int .u64 sz1, .int .u64 sz2, .int .u64 sz3, .int .u64 sz4]) rfl rfl rfl (by kernel_rfl) (by kernel_rfl) (by kernel_rfl) ?_ ?_
  · refine Or.inl ⟨by rfl, fun w' hw' => ?_⟩
    refine quiet_call (by go_simp) (Q3.out _)
  try simp only [List.getElem_toArray, List.getElem_cons_zero, List.getElem_cons_succ, Act.put, List.setIfInBounds_toArray, List.set_cons_zero, List.set_cons_succ]
  refine g_make 12 _ (.cells #[.int .u64 0, .int .u64 0, .int .u64 0, .int .u64 0, .int .u64 0] 28) (fun k => (decide (12 ≤ k ∧ k ≤ 14)) || (decide (15 ≤ k ∧ k ≤ 17) && k != 15)) rfl rfl rfl rfl ?_ ?_ (by kernel_rfl) (by kernel_rfl) (by kernel_rfl) (by kernel_rfl) (fun g3 => ?_)
  · intro a w
    go_simp
  · intro j hj
    simp only [Bool.or_eq_true, Bool.and_eq_true, decide_eq_true_eq, bne_iff_ne] at hj
    rcases hj with hj | ⟨hj, hne⟩
    · left
      rcases (show j = 12 ∨ j = 13 ∨ j = 14 by omega) with rfl | rfl | rfl <;> simp
    · right
      rcases (show j = 15 ∨ j = 16 ∨ j = 17 by omega) with rfl | rfl | rfl <;> first | exact ⟨_, _, rfl, by decide⟩ | omega
  try simp only [List.getElem_toArray, List.getElem_cons_zero, List.getElem_cons_succ, Act.put, List.setIfInBounds_toArray, List.set_cons_zero, List.set_cons_succ]
  refine g_make 13 _ (.cells #[.int .u64 0, .int .u64 0, .int .u64 0, .int .u64 0, .int .u64 0] 28) (fun k => (decide (12 ≤ k ∧ k ≤ 14)) || (decide (15 ≤ k ∧ k ≤ 17) && k != 16)) rfl rfl rfl rfl ?_ ?_ (by kernel_rfl) (by kernel_rfl) (by kernel_rfl) (by kernel_rfl) (fun g4 => ?_)
  · intro a w
    go_simp
  · intro j hj
    simp only [Bool.or_eq_true, Bool.and_eq_true, decide_eq_true_eq, bne_iff_ne] at hj
    rcases hj with hj | ⟨hj, hne⟩
    · left
      rcases (show j = 12 ∨ j = 13 ∨ j = 14 by omega) with rfl | rfl | rfl <;> simp
    · right
      rcases (show j = 15 ∨ j = 16 ∨ j = 17 by omega) with rfl | rfl | rfl <;> first | exact ⟨_, _, rfl, by decide⟩ | omega
  try simp only [List.getElem_toArray, List.getElem_cons_zero, List.getElem_cons_succ, Act.put, List.setIfInBounds_toArray, List.set_cons_zero, List.set_cons_succ]
  refine g_make 14 _ (.cells #[.int .u64 0, .int .u64 0, .int .u64 0, .int .u64 0, .int .u64 0] 28) (fun k => (decide (12 ≤ k ∧ k ≤ 14)) || (decide (15 ≤ k ∧ k ≤ 17) && k != 17)) rfl rfl rfl rfl ?_ ?_ (by kernel_rfl) (by kernel_rfl) (by kernel_rfl) (by kernel_rfl) (fun g5 => ?_)
  · intro a w
    go_simp
  · intro j hj
    simp only [Bool.or_eq_true, Bool.and_eq_true, decide_eq_true_eq, bne_iff_ne] at hj
    rcases hj with hj | ⟨hj, hne⟩
    · left
      rcases (show j = 12 ∨ j = 13 ∨ j = 14 by omega) with rfl | rfl | rfl <;> simp
    · right
      rcases (show j = 15 ∨ j = 16 ∨ j = 17 by omega) with rfl | rfl | rfl <;> first | exact ⟨_, _, rfl, by decide⟩ | omega
  try simp only [List.getElem_toArray, List.getElem_cons_zero, List.getElem_cons_succ, Act.put, List.setIfInBounds_toArray, List.set_cons_zero, List.set_cons_succ]
  refine g_store 15 12 _ (.cells #[.int .u64 sx0, .int .u64 sx1, .int .u64 sx2, .int .u64 sx3, .int .u64 sx4] 28) g3 (.cells #[.int .u64 0, .int .u64 0, .int .u64 0, .int .u64 0, .int .u64 0] 28) (fun k => decide (15 ≤ k ∧ k ≤ 17) && k != 15) rfl rfl rfl rfl ?_ (by kernel_rfl) (by kernel_rfl) (by kernel_rfl) (by kernel_rfl) (by simp [upd]) ?_ ?_
  · intro j hj
    simp only [Bool.and_eq_true, decide_eq_true_eq, bne_iff_ne] at hj
    rcases (show j = 15 ∨ j = 16 ∨ j = 17 by omega) with rfl | rfl | rfl <;> first | exact ⟨_, _, rfl, by decide⟩ | omega
  · exact stores_whole 28 _ _ rfl g3 [.int .u64 sx0, .int .u64 sx1, .int .u64 sx2, .int .u64 sx3, .int .u64 sx4] [.int .u64 0, .int .u64 0, .int .u64 0, .int .u64 0, .int .u64 0] rfl rfl rfl (by kernel_rfl) (by kernel_rfl)
  try simp only [List.getElem_toArray, List.getElem_cons_zero, List.getElem_cons_succ, Act.put, List.setIfInBounds_toArray, List.set_cons_zero, List.set_cons_succ]
  refine g_store 16 13 _ (.cells #[.int .u64 sy0, .int .u64 sy1, .int .u64 sy2, .int .u64 sy3, .int .u64 sy4] 28) g4 (.cells #[.int .u64 0, .int .u64 0, .int .u64 0, .int .u64 0, .int .u64 0] 28) (fun k => decide (15 ≤ k ∧ k ≤ 17) && k != 16) rfl rfl rfl rfl ?_ (by kernel_rfl) (by kernel_rfl) (by kernel_rfl) (by kernel_rfl) (by simp [upd]) ?_ ?_
  · intro j hj
    simp only [Bool.and_eq_true, decide_eq_true_eq, bne_iff_ne] at hj
    rcases (show j = 15 ∨ j = 16 ∨ j = 17 by omega) with rfl | rfl | rfl <;> first | exact ⟨_, _, rfl, by decide⟩ | omega
  · exact stores_whole 28 _ _ rfl g4 [.int .u64 sy0, .int .u64 sy1, .int .u64 sy2, .int .u64 sy3, .int .u64 sy4] [.int .u64 0, .int .u64 0, .int .u64 0, .int .u64 0, .int .u64 0] rfl rfl rfl (by kernel_rfl) (by kernel_rfl)
  try simp only [List.getElem_toArray, List.getElem_cons_zero, List.getElem_cons_succ, Act.put, List.setIfInBounds_toArray, List.set_cons_zero, List.set_cons_succ]
  refine g_store 17 14 _ (.cells #[.int .u64 sz0, .int .u64 sz1, .int .u64 sz2, .int .u64 sz3, .int .u64 sz4] 28) g5 (.cells #[.int .u64 0, .int .u64 0, .int .u64 0, .int .u64 0, .int .u64 0] 28) (fun k => decide (15 ≤ k ∧ k ≤ 17) && k != 17) rfl rfl rfl rfl ?_ (by kernel_rfl) (by kernel_rfl) (by kernel_rfl) (by kernel_rfl) (by simp [upd]) ?_ ?_
  · intro j hj
    simp only [Bool.and_eq_true, decide_eq_true_eq, bne_iff_ne] at hj
    rcases (show j = 15 ∨ j = 16 ∨ j = 17 by omega) with rfl | rfl | rfl <;> first | exact ⟨_, _, rfl, by decide⟩ | omega
  · exact stores_whole 28 _ _ rfl g5 [.int .u64 sz0, .int .u64 sz1, .int .u64 sz2, .int .u64 sz3, .int .u64 sz4] [.int .u64 0, .int .u64 0, .int .u64 0, .int .u64 0, .int .u64 0] rfl rfl rfl (by kernel_rfl) (by kernel_rfl)
  try simp only [List.getElem_toArray, List.getElem_cons_zero, List.getElem_cons_succ, Act.put, List.setIfInBounds_toArray, List.set_cons_zero, List.set_cons_succ]
  refine ⟨by kernel_rfl, fun w2 hV => ?_⟩
  have own3 := hV.own 12 _ (by simp [upd]; rfl)
  have B3_2 : Hid (At 28 w2 g3 [.int .u64 sx0, .int .u64 sx1, .int .u64 sx2, .int .u64 sx3, .int .u64 sx4]) := own3.2.2
  have szB3 : w.heap.size ≤ g3 := by have h1 := own3.1; have h2 := G_1.out.size; dsimp only at h1; omega
  have nlB1B3 : w.heap.size < g3 := by have h1 := own3.1; have h2 := B1_1.out.lt; dsimp only at h1; omega
  have nlB2B3 : (w.heap.size + 1) < g3 := by have h1 := own3.1; have h2 := B2_1.out.lt; dsimp only at h1; omega
  have own4 := hV.own 13 _ (by simp [upd]; rfl)
  have B4_2 : Hid (At 28 w2 g4 [.int .u64 sy0, .int .u64 sy1, .int .u64 sy2, .int .u64 sy3, .int .u64 sy4]) := own4.2.2
  have szB4 : w.heap.size ≤ g4 := by have h1 := own4.1; have h2 := G_1.out.size; dsimp only at h1; omega
  have nlB1B4 : w.heap.size < g4 := by have h1 := own4.1; have h2 := B1_1.out.lt; dsimp only at h1; omega
  have nlB2B4 : (w.heap.size + 1) < g4 := by have h1 := own4.1; have h2 := B2_1.out.lt; dsimp only at h1; omega
  have own5 := hV.own 14 _ (by simp [upd]; rfl)
  have B5_2 : Hid (At 28 w2 g5 [.int .u64 sz0, .int .u64 sz1, .int .u64 sz2, .int .u64 sz3, .int .u64 sz4]) := own5.2.2
  have szB5 : w.heap.size ≤ g5 := by have h1 := own5.1; have h2 := G_1.out.size; dsimp only at h1; omega
  have nlB1B5 : w.heap.size < g5 := by have h1 := own5.1; have h2 := B1_1.out.lt; dsimp only at h1; omega
  have nlB2B5 : (w.heap.size + 1) < g5 := by have h1 := own5.1; have h2 := B2_1.out.lt; dsimp only at h1; omega
  have g := hV.bel
  have B1_2 := hid (B1_1.out.below g)
  have B2_2 := hid (B2_1.out.below g)
  have Z_2 := hid (Z_1.out.grown g)
  have G_2 := hid (G_1.out.trans (g.mono G_1.out.size))
  clear hV g own3 own4 own5 B1_1 B2_1 Z_1 G_1
  go_wp2_with (first | (refine wpList_load_mid rfl 28 _ rfl g3 0 rfl [.int .u64 sx0, .int .u64 sx1, .int .u64 sx2, .int .u64 sx3, .int .u64 sx4] _ (at_mid B3_2.out 0 _ rfl) Tryd.underlying28 rfl (by kernel_rfl) ?_) | (refine wpList_load_mid rfl 28 _ rfl g4 0 rfl [.int .u64 sy0, .int .u64 sy1, .int .u64 sy2, .int .u64 sy3, .int .u64 sy4] _ (at_mid B4_2.out 0 _ rfl) Tryd.underlying28 rfl (by kernel_rfl) ?_) | fail)
  refine (Q4.out _).mono ?_
  rintro e w3 ⟨rfl, g0⟩
  have g := g0
  clear g0
  have B1_3 := hid (B1_2.out.below g)
  have B2_3 := hid (B2_2.out.below g)
  have B3_3 := hid (B3_2.out.below g)
  have B4_3 := hid (B4_2.out.below g)
  have B5_3 := hid (B5_2.out.below g)
  have Z_3 := hid (Z_2.out.grown g)
  have G_3 := hid (G_2.out.trans (g.mono G_2.out.size))
  clear g B1_2 B2_2 B3_2 B4_2 B5_2 Z_2 G_2
  go_wp2_with fail
  refine wp_cut (fun V => At 32 V w.heap.size [.int .u64 px0, .int .u64 px1, .int .u64 px2, .int .u64 px3, .int .u64 px4, .int .u64 py0, .int .u64 py1, .int .u64 py2, .int .u64 py3, .int .u64 py4, .int .u64 pz0, .int .u64 pz1, .int .u64 pz2, .int .u64 pz3, .int .u64 pz4, .int .u64 pt0, .int .u64 pt1, .int .u64 pt2, .int .u64 pt3, .int .u64 pt4] ∧ At 32 V (w.heap.size + 1) [.int .u64 0, .int .u64 0, .int .u64 0, .int .u64 0, .int .u64 0, .int .u64 0, .int .u64 0, .int .u64 0, .int .u64 0, .int .u64 0, .int .u64 0, .int .u64 0, .int .u64 0, .int .u64 0, .int .u64 0, .int .u64 0, .int .u64 0, .int .u64 0, .int .u64 0, .int .u64 0] ∧ At 28 V g3 [.int .u64 sx0, .int .u64 sx1, .int .u64 sx2, .int .u64 sx3, .int .u64 sx4] ∧ At 28 V g4 [.int .u64 sy0, .int .u64 sy1, .int .u64 sy2, .int .u64 sy3, .int .u64 sy4] ∧ At 28 V g5 [.int .u64 sz0, .int .u64 sz1, .int .u64 sz2, .int .u64 sz3, .int .u64 sz4] ∧ Gf V ∧ At 28 V w3.heap.size [.int .u64 su0, .int .u64 su1, .int .u64 su2, .int .u64 su3, .int .u64 su4] ∧ Below w.heap.size w V) ⟨(at_alloc B1_3.out _), (at_alloc B2_3.out _), (at_alloc B3_3.out _), (at_alloc B4_3.out _), (at_alloc B5_3.out _), (Z_3.out.grown ((Below.refl _ _).alloc (Nat.le_refl _) _)), (at_new2 _ _ _ _ (by simp)), (G_3.out.alloc (by have := G_3.out.size; simp <;> omega) _)⟩ ?_
  have szB6 : w.heap.size ≤ w3.heap.size := by have := G_3.out.size; omega
  have nlB1B6 : w.heap.size < w3.heap.size := by have := B1_3.out.lt; omega
  have nlB2B6 : (w.heap.size + 1) < w3.heap.size := by have := B2_3.out.lt; omega
  have nlB3B6 : g3 < w3.heap.size := by have := B3_3.out.lt; omega
  have nlB4B6 : g4 < w3.heap.size := by have := B4_3.out.lt; omega
  have nlB5B6 : g5 < w3.heap.size := by have := B5_3.out.lt; omega
  rintro w4 ⟨k0, k1, k2, k3, k4, k5, k6, k7⟩
  have B1_4 := hid k0
  have B2_4 := hid k1
  have B3_4 := hid k2
  have B4_4 := hid k3
  have B5_4 := hid k4
  have Z_4 := hid k5
  have B6_4 := hid k6
  have G_4 := hid k7
  clear k0 k1 k2 k3 k4 k5 k6 k7 B1_3 B2_3 B3_3 B4_3 B5_3 Z_3 G_3
  go_wp2_with fail
  refine wp_region_grow (ob := (fun k => if k = 10 then some (.cells #[.int .u64 0, .int .u64 0, .int .u64 0, .int .u64 0, .int .u64 0] 28) else none)) (st := (fun k => if k = 11 then some (10, .cells #[.int .u64 tw0, .int .u64 tw1, .int .u64 tw2, .int .u64 tw3, .int .u64 tw4] 28) else none)) (by kernel_rfl) ?_
  simp only [List.size_toArray, List.length_cons, List.length_nil, Nat.reduceAdd, Array.replicate_succ, Array.replicate_zero, List.push_toArray, List.nil_append, List.cons_append]
  refine g_first 0 _ (.pointer (some ⟨w.heap.size, 0, none⟩)) rfl rfl rfl (by kernel_rfl) (by kernel_rfl) (by kernel_rfl) ?_ ?_
  · refine Or.inl ⟨by rfl, fun w' hw' => ?_⟩
    unfold Oper.quietAt
    go_simp
  try simp only [List.getElem_toArray, List.getElem_cons_zero, List.getElem_cons_succ, Act.put, List.setIfInBounds_toArray, List.set_cons_zero, List.set_cons_succ]
  refine g_first 1 _ (.pointer (some ⟨w.heap.size, 0, none⟩)) rfl rfl rfl (by kernel_rfl) (by kernel_rfl) (by kernel_rfl) ?_ ?_
  · refine Or.inl ⟨by rfl, fun w' hw' => ?_⟩
    unfold Oper.quietAt
    go_simp
  try simp only [List.getElem_toArray, List.getElem_cons_zero, List.getElem_cons_succ, Act.put, List.setIfInBounds_toArray, List.set_cons_zero, List.set_cons_succ]
  refine g_first 2 _ (.agg #[.int .u64 px0, .int .u64 px1, .int .u64 px2, .int .u64 px3, .int .u64 px4]) rfl rfl rfl (by kernel_rfl) (by kernel_rfl) (by kernel_rfl) ?_ ?_
  · refine Or.inl ⟨by rfl, fun w' hw' => ?_⟩
    exact quiet_load 28 _ rfl _ 0 rfl _ _ (at_mid (B1_4.out.below hw') 0 _ rfl) Tryd.underlying28 rfl (by kernel_rfl)
  try simp only [List.getElem_toArray, List.getElem_cons_zero, List.getElem_cons_succ, Act.put, List.setIfInBounds_toArray, List.set_cons_zero, List.set_cons_succ]
  refine g_first 3 _ (.pointer (some ⟨w.heap.size, 0, none⟩)) rfl rfl rfl (by kernel_rfl) (by kernel_rfl) (by kernel_rfl) ?_ ?_
  · refine Or.inl ⟨by rfl, fun w' hw' => ?_⟩
    unfold Oper.quietAt
    go_simp
  try simp only [List.getElem_toArray, List.getElem_cons_zero, List.getElem_cons_succ, Act.put, List.setIfInBounds_toArray, List.set_cons_zero, List.set_cons_succ]
  refine g_first 4 _ (.pointer (some ⟨w.heap.size, 5, none⟩)) rfl rfl rfl (by kernel_rfl) (by kernel_rfl) (by kernel_rfl) ?_ ?_
  · refine Or.inl ⟨by rfl, fun w' hw' => ?_⟩
    unfold Oper.quietAt
    go_simp
  try simp only [List.getElem_toArray, List.getElem_cons_zero, List.getElem_cons_succ, Act.put, List.setIfInBounds_toArray, List.set_cons_zero, List.set_cons_succ]
  refine g_first 5 _ (.agg #[.int .u64 py0, .int .u64 py1, .int .u64 py2, .int .u64 py3, .int .u64 py4]) rfl rfl rfl (by kernel_rfl) (by kernel_rfl) (by kernel_rfl) ?_ ?_
  · refine Or.inl ⟨by rfl, fun w' hw' => ?_⟩
    exact quiet_load 28 _ rfl _ 5 rfl _ _ (at_mid (B1_4.out.below hw') 5 _ rfl) Tryd.underlying28 rfl (by kernel_rfl)
  try simp only [List.getElem_toArray, List.getElem_cons_zero, List.getElem_cons_succ, Act.put, List.setIfInBounds_toArray, List.set_cons_zero, List.set_cons_succ]
  refine g_first 6 _ (.agg #[.int .u64 xy0, .int .u64 xy1, .int .u64 xy2, .int .u64 xy3, .int .u64 xy4]) rfl rfl rfl (by kernel_rfl) (by kernel_rfl) (by kernel_rfl) ?_ ?_
  · refine Or.inl ⟨by rfl, fun w' hw' => ?_⟩
    refine quiet_call (by go_simp) (Q5.out _)
  try simp only [List.getElem_toArray, List.getElem_cons_zero, List.getElem_cons_succ, Act.put, List.setIfInBounds_toArray, List.set_cons_zero, List.set_cons_succ]
  refine g_first 7 _ (.agg #[.int .u64 sq0, .int .u64 sq1, .int .u64 sq2, .int .u64 sq3, .int .u64 sq4]) rfl rfl rfl (by kernel_rfl) (by kernel_rfl) (by kernel_rfl) ?_ ?_
  · refine Or.inl ⟨by rfl, fun w' hw' => ?_⟩
    refine quiet_call (by go_simp) (Q6.out _)
  try simp only [List.getElem_toArray, List.getElem_cons_zero, List.getElem_cons_succ, Act.put, List.setIfInBounds_toArray, List.set_cons_zero, List.set_cons_succ]
  refine g_first 8 _ (.agg #[.int .u64 su0, .int .u64 su1, .int .u64 su2, .int .u64 su3, .int .u64 su4]) rfl rfl rfl (by kernel_rfl) (by kernel_rfl) (by kernel_rfl) ?_ ?_
  · refine Or.inl ⟨by rfl, fun w' hw' => ?_⟩
    exact quiet_load 28 _ rfl _ 0 rfl _ _ (at_mid (B6_4.out.below hw') 0 _ rfl) Tryd.underlying28 rfl (by kernel_rfl)
  try simp only [List.getElem_toArray, List.getElem_cons_zero, List.getElem_cons_succ, Act.put, List.setIfInBounds_toArray, List.set_cons_zero, List.set_cons_succ]
  refine g_first 9 _ (.agg #[.int .u64 tw0, .int .u64 tw1, .int .u64 tw2, .int .u64 tw3, .int .u64 tw4]) rfl rfl rfl (by kernel_rfl) (by kernel_rfl) (by kernel_rfl) ?_ ?_
  · refine Or.inl ⟨by rfl, fun w' hw' => ?_⟩
    refine quiet_call (by go_simp) (Q7.out _ (Z_4.out.grown hw'))
  try simp only [List.getElem_toArray, List.getElem_cons_zero, List.getElem_cons_succ, Act.put, List.setIfInBounds_toArray, List.set_cons_zero, List.set_cons_succ]
  refine g_make 10 _ (.cells #[.int .u64 0, .int .u64 0, .int .u64 0, .int .u64 0, .int .u64 0] 28) (fun k => (decide (10 ≤ k ∧ k ≤ 10)) || (decide (11 ≤ k ∧ k ≤ 11) && k != 11)) rfl rfl rfl rfl ?_ ?_ (by kernel_rfl) (by kernel_rfl) (by kernel_rfl) (by kernel_rfl) (fun g7 => ?_)
  · intro a w
    go_simp
  · intro j hj
    simp only [Bool.or_eq_true, Bool.and_eq_true, decide_eq_true_eq, bne_iff_ne] at hj
    rcases hj with hj | ⟨hj, hne⟩
    · left
      rcases (show j = 10 by omega) with rfl <;> simp
    · right
      rcases (show j = 11 by omega) with rfl <;> first | exact ⟨_, _, rfl, by decide⟩ | omega
  try simp only [List.getElem_toArray, List.getElem_cons_zero, List.getElem_cons_succ, Act.put, List.setIfInBounds_toArray, List.set_cons_zero, List.set_cons_succ]
  refine g_store 11 10 _ (.cells #[.int .u64 tw0, .int .u64 tw1, .int .u64 tw2, .int .u64 tw3, .int .u64 tw4] 28) g7 (.cells #[.int .u64 0, .int .u64 0, .int .u64 0, .int .u64 0, .int .u64 0] 28) (fun k => decide (11 ≤ k ∧ k ≤ 11) && k != 11) rfl rfl rfl rfl ?_ (by kernel_rfl) (by kernel_rfl) (by kernel_rfl) (by kernel_rfl) (by simp [upd]) ?_ ?_
  · intro j hj
    simp only [Bool.and_eq_true, decide_eq_true_eq, bne_iff_ne] at hj
    rcases (show j = 11 by omega) with rfl <;> first | exact ⟨_, _, rfl, by decide⟩ | omega
  · exact stores_whole 28 _ _ rfl g7 [.int .u64 tw0, .int .u64 tw1, .int .u64 tw2, .int .u64 tw3, .int .u64 tw4] [.int .u64 0, .int .u64 0, .int .u64 0, .int .u64 0, .int .u64 0] rfl rfl rfl (by kernel_rfl) (by kernel_rfl)
  try simp only [List.getElem_toArray, List.getElem_cons_zero, List.getElem_cons_succ, Act.put, List.setIfInBounds_toArray, List.set_cons_zero, List.set_cons_succ]
  refine ⟨by kernel_rfl, fun w5 hV => ?_⟩
  have own7 := hV.own 10 _ (by simp [upd]; rfl)
  have B7_5 : Hid (At 28 w5 g7 [.int .u64 tw0, .int .u64 tw1, .int .u64 tw2, .int .u64 tw3, .int .u64 tw4]) := own7.2.2
  have szB7 : w.heap.size ≤ g7 := by have h1 := own7.1; have h2 := G_4.out.size; dsimp only at h1; omega
  have nlB1B7 : w.heap.size < g7 := by have h1 := own7.1; have h2 := B1_4.out.lt; dsimp only at h1; omega
  have nlB2B7 : (w.heap.size + 1) < g7 := by have h1 := own7.1; have h2 := B2_4.out.lt; dsimp only at h1; omega
  have nlB3B7 : g3 < g7 := by have h1 := own7.1; have h2 := B3_4.out.lt; dsimp only at h1; omega
  have nlB4B7 : g4 < g7 := by have h1 := own7.1; have h2 := B4_4.out.lt; dsimp only at h1; omega
  have nlB5B7 : g5 < g7 := by have h1 := own7.1; have h2 := B5_4.out.lt; dsimp only at h1; omega
  have nlB6B7 : w3.heap.size < g7 := by have h1 := own7.1; have h2 := B6_4.out.lt; dsimp only at h1; omega
  have g := hV.bel
  have B1_5 := hid (B1_4.out.below g)
  have B2_5 := hid (B2_4.out.below g)
  have B3_5 := hid (B3_4.out.below g)
  have B4_5 := hid (B4_4.out.below g)
  have B5_5 := hid (B5_4.out.below g)
  have B6_5 := hid (B6_4.out.below g)
  have Z_5 := hid (Z_4.out.grown g)
  have G_5 := hid (G_4.out.trans (g.mono G_4.out.size))
  clear hV g own7 B1_4 B2_4 B3_4 B4_4 B5_4 B6_4 Z_4 G_4
  go_wp2_with (first | (refine wpList_load_mid rfl 28 _ rfl g4 0 rfl [.int .u64 sy0, .int .u64 sy1, .int .u64 sy2, .int .u64 sy3, .int .u64 sy4] _ (at_mid B4_5.out 0 _ rfl) Tryd.underlying28 rfl (by kernel_rfl) ?_) | (refine wpList_load_mid rfl 28 _ rfl g3 0 rfl [.int .u64 sx0, .int .u64 sx1, .int .u64 sx2, .int .u64 sx3, .int .u64 sx4] _ (at_mid B3_5.out 0 _ rfl) Tryd.underlying28 rfl (by kernel_rfl) ?_) | fail)
  refine (Q8.out _ Z_5.out).mono ?_
  rintro e w6 ⟨rfl, g0⟩
  have g := g0
  clear g0
  have B1_6 := hid (B1_5.out.below g)
  have B2_6 := hid (B2_5.out.below g)
  have B3_6 := hid (B3_5.out.below g)
  have B4_6 := hid (B4_5.out.below g)
  have B5_6 := hid (B5_5.out.below g)
  have B6_6 := hid (B6_5.out.below g)
  have B7_6 := hid (B7_5.out.below g)
  have Z_6 := hid (Z_5.out.grown g)
  have G_6 := hid (G_5.out.trans (g.mono G_5.out.size))
  clear g B1_5 B2_5 B3_5 B4_5 B5_5 B6_5 B7_5 Z_5 G_5
  go_wp2_with fail
  refine wp_cut (fun V => At 32 V w.heap.size [.int .u64 px0, .int .u64 px1, .int .u64 px2, .int .u64 px3, .int .u64 px4, .int .u64 py0, .int .u64 py1, .int .u64 py2, .int .u64 py3, .int .u64 py4, .int .u64 pz0, .int .u64 pz1, .int .u64 pz2, .int .u64 pz3, .int .u64 pz4, .int .u64 pt0, .int .u64 pt1, .int .u64 pt2, .int .u64 pt3, .int .u64 pt4] ∧ At 32 V (w.heap.size + 1) [.int .u64 0, .int .u64 0, .int .u64 0, .int .u64 0, .int .u64 0, .int .u64 0, .int .u64 0, .int .u64 0, .int .u64 0, .int .u64 0, .int .u64 0, .int .u64 0, .int .u64 0, .int .u64 0, .int .u64 0, .int .u64 0, .int .u64 0, .int .u64 0, .int .u64 0, .int .u64 0] ∧ At 28 V g3 [.int .u64 sx0, .int .u64 sx1, .int .u64 sx2, .int .u64 sx3, .int .u64 sx4] ∧ At 28 V g4 [.int .u64 sy0, .int .u64 sy1, .int .u64 sy2, .int .u64 sy3, .int .u64 sy4] ∧ At 28 V g5 [.int .u64 sz0, .int .u64 sz1, .int .u64 sz2, .int .u64 sz3, .int .u64 sz4] ∧ At 28 V w3.heap.size [.int .u64 su0, .int .u64 su1, .int .u64 su2, .int .u64 su3, .int .u64 su4] ∧ At 28 V g7 [.int .u64 tw0, .int .u64 tw1, .int .u64 tw2, .int .u64 tw3, .int .u64 tw4] ∧ Gf V ∧ At 28 V w6.heap.size [.int .u64 re0, .int .u64 re1, .int .u64 re2, .int .u64 re3, .int .u64 re4] ∧ Below w.heap.size w V) ⟨(at_alloc B1_6.out _), (at_alloc B2_6.out _), (at_alloc B3_6.out _), (at_alloc B4_6.out _), (at_alloc B5_6.out _), (at_alloc B6_6.out _), (at_alloc B7_6.out _), (Z_6.out.grown ((Below.refl _ _).alloc (Nat.le_refl _) _)), (at_new2 _ _ _ _ (by simp)), (G_6.out.alloc (by have := G_6.out.size; simp <;> omega) _)⟩ ?_
  have szB8 : w.heap.size ≤ w6.heap.size := by have := G_6.out.size; omega
  have nlB1B8 : w.heap.size < w6.heap.size := by have := B1_6.out.lt; omega
  have nlB2B8 : (w.heap.size + 1) < w6.heap.size := by have := B2_6.out.lt; omega
  have nlB3B8 : g3 < w6.heap.size := by have := B3_6.out.lt; omega
  have nlB4B8 : g4 < w6.heap.size := by have := B4_6.out.lt; omega
  have nlB5B8 : g5 < w6.heap.size := by have := B5_6.out.lt; omega
  have nlB6B8 : w3.heap.size < w6.heap.size := by have := B6_6.out.lt; omega
  have nlB7B8 : g7 < w6.heap.size := by have := B7_6.out.lt; omega
  rintro w7 ⟨k0, k1, k2, k3, k4, k5, k6, k7, k8, k9⟩
  have B1_7 := hid k0
  have B2_7 := hid k1
  have B3_7 := hid k2
  have B4_7 := hid k3
  have B5_7 := hid k4
  have B6_7 := hid k5
  have B7_7 := hid k6
  have Z_7 := hid k7
  have B8_7 := hid k8
  have G_7 := hid k9
  clear k0 k1 k2 k3 k4 k5 k6 k7 k8 k9 B1_6 B2_6 B3_6 B4_6 B5_6 B6_6 B7_6 Z_6 G_6
  go_wp2_with fail
  have Z_7' := hid (Z_7.out.grown (Below.refl _ w7).drew)
  have K7 : At 28 w7.drew g7 [.int .u64 tw0, .int .u64 tw1, .int .u64 tw2, .int .u64 tw3, .int .u64 tw4] ∧ At 28 w7.drew w6.heap.size [.int .u64 re0, .int .u64 re1, .int .u64 re2, .int .u64 re3, .int .u64 re4] ∧ At 28 w7.drew w3.heap.size [.int .u64 su0, .int .u64 su1, .int .u64 su2, .int .u64 su3, .int .u64 su4] ∧ At 28 w7.drew g5 [.int .u64 sz0, .int .u64 sz1, .int .u64 sz2, .int .u64 sz3, .int .u64 sz4] := And.intro B7_7.out.drew (And.intro B8_7.out.drew (And.intro B6_7.out.drew (B5_7.out.drew)))
  refine wp_region_late (L := 9) (S := fun w' => At 28 w' g7 [.int .u64 tw0, .int .u64 tw1, .int .u64 tw2, .int .u64 tw3, .int .u64 tw4] ∧ At 28 w' w6.heap.size [.int .u64 re0, .int .u64 re1, .int .u64 re2, .int .u64 re3, .int .u64 re4] ∧ At 28 w' w3.heap.size [.int .u64 su0, .int .u64 su1, .int .u64 su2, .int .u64 su3, .int .u64 su4] ∧ At 28 w' g5 [.int .u64 sz0, .int .u64 sz1, .int .u64 sz2, .int .u64 sz3, .int .u64 sz4]) (by kernel_rfl) K7 (fun hHeld => ?_)
  clear K7
  refine l_take 0 (v := .agg #[.int .u64 tw0, .int .u64 tw1, .int .u64 tw2, .int .u64 tw3, .int .u64 tw4]) rfl (by kernel_rfl) (by kernel_rfl) (by kernel_rfl) (by kernel_rfl) (fun _ _ _ h => h) (by rfl) ?hyr4_0 (by assumption) ?_
  case hyr4_0 =>
    intro w' hSw
    exact load_run 28 _ rfl _ 0 rfl _ _ (at_mid hSw.1 0 _ rfl) Tryd.underlying28 rfl (by kernel_rfl)
  try simp only [Act.put, List.setIfInBounds_toArray, List.set_cons_zero, List.set_cons_succ]
  refine l_take 1 (v := .agg #[.int .u64 re0, .int .u64 re1, .int .u64 re2, .int .u64 re3, .int .u64 re4]) rfl (by kernel_rfl) (by kernel_rfl) (by kernel_rfl) (by kernel_rfl) (fun _ _ _ h => h) (by rfl) ?hyr4_1 (by assumption) ?_
  case hyr4_1 =>
    intro w' hSw
    exact load_run 28 _ rfl _ 0 rfl _ _ (at_mid hSw.2.1 0 _ rfl) Tryd.underlying28 rfl (by kernel_rfl)
  try simp only [Act.put, List.setIfInBounds_toArray, List.set_cons_zero, List.set_cons_succ]
  refine l_take 2 (v := .agg #[.int .u64 su0, .int .u64 su1, .int .u64 su2, .int .u64 su3, .int .u64 su4]) rfl (by kernel_rfl) (by kernel_rfl) (by kernel_rfl) (by kernel_rfl) (fun _ _ _ h => h) (by rfl) ?hyr4_2 (by assumption) ?_
  case hyr4_2 =>
    intro w' hSw
    exact load_run 28 _ rfl _ 0 rfl _ _ (at_mid hSw.2.2.1 0 _ rfl) Tryd.underlying28 rfl (by kernel_rfl)
  try simp only [Act.put, List.setIfInBounds_toArray, List.set_cons_zero, List.set_cons_succ]
  refine l_take 3 (v := .agg #[.int .u64 sz0, .int .u64 sz1, .int .u64 sz2, .int .u64 sz3, .int .u64 sz4]) rfl (by kernel_rfl) (by kernel_rfl) (by kernel_rfl) (by kernel_rfl) (fun _ _ _ h => h) (by rfl) ?hyr4_3 (by assumption) ?_
  case hyr4_3 =>
    intro w' hSw
    exact load_run 28 _ rfl _ 0 rfl _ _ (at_mid hSw.2.2.2 0 _ rfl) Tryd.underlying28 rfl (by kernel_rfl)
  try simp only [Act.put, List.setIfInBounds_toArray, List.set_cons_zero, List.set_cons_succ]
  refine l_take 4 (v := .agg #[.int .u64 sz0, .int .u64 sz1, .int .u64 sz2, .int .u64 sz3, .int .u64 sz4]) rfl (by kernel_rfl) (by kernel_rfl) (by kernel_rfl) (by kernel_rfl) (fun _ _ _ h => h) (by rfl) ?hyr4_4 (by assumption) ?_
  case hyr4_4 =>
    intro w' hSw
    exact load_run 28 _ rfl _ 0 rfl _ _ (at_mid hSw.2.2.2 0 _ rfl) Tryd.underlying28 rfl (by kernel_rfl)
  try simp only [Act.put, List.setIfInBounds_toArray, List.set_cons_zero, List.set_cons_succ]
  refine l_take 6 (v := .agg #[.int .u64 re0, .int .u64 re1, .int .u64 re2, .int .u64 re3, .int .u64 re4]) rfl (by kernel_rfl) (by kernel_rfl) (by kernel_rfl) (by kernel_rfl) (fun _ _ _ h => h) (by rfl) ?hyr4_6 (by assumption) ?_
  case hyr4_6 =>
    intro w' hSw
    exact load_run 28 _ rfl _ 0 rfl _ _ (at_mid hSw.2.1 0 _ rfl) Tryd.underlying28 rfl (by kernel_rfl)
  try simp only [Act.put, List.setIfInBounds_toArray, List.set_cons_zero, List.set_cons_succ]
  refine l_call 5 rfl (by kernel_rfl) (by rfl) (fun Kk hK => ?_)
  go_simp
  (refine (Q9.out _).mono ?_)
  rintro e w8 ⟨rfl, g0⟩
  have g : Below w7.heap.size w7 w8 := (Below.refl _ w7).drew.trans g0
  clear g0
  have B1_8 := hid (B1_7.out.below g)
  have B2_8 := hid (B2_7.out.below g)
  have B3_8 := hid (B3_7.out.below g)
  have B4_8 := hid (B4_7.out.below g)
  have B5_8 := hid (B5_7.out.below g)
  have B6_8 := hid (B6_7.out.below g)
  have B7_8 := hid (B7_7.out.below g)
  have B8_8 := hid (B8_7.out.below g)
  have Z_8 := hid (Z_7.out.grown g)
  have G_8 := hid (G_7.out.trans (g.mono G_7.out.size))
  clear g B1_7 B2_7 B3_7 B4_7 B5_7 B6_7 B7_7 B8_7 Z_7 G_7
  clear Z_7'
  have K8 := And.intro B7_8.out (And.intro B8_8.out (And.intro B6_8.out (B5_8.out)))
  clear hHeld
  refine hK.out _ _ (Or.inr K8) ?_
  have hHeld := K8
  clear hK Kk K8
  try simp only [Act.put, List.setIfInBounds_toArray, List.set_cons_zero, List.set_cons_succ]
  refine l_call 7 rfl (by kernel_rfl) (by rfl) (fun Kk hK => ?_)
  go_simp
  (refine (Q10.out _ Z_8.out).mono ?_)
  rintro e w9 ⟨rfl, g0⟩
  have g := g0
  clear g0
  have B1_9 := hid (B1_8.out.below g)
  have B2_9 := hid (B2_8.out.below g)
  have B3_9 := hid (B3_8.out.below g)
  have B4_9 := hid (B4_8.out.below g)
  have B5_9 := hid (B5_8.out.below g)
  have B6_9 := hid (B6_8.out.below g)
  have B7_9 := hid (B7_8.out.below g)
  have B8_9 := hid (B8_8.out.below g)
  have Z_9 := hid (Z_8.out.grown g)
  have G_9 := hid (G_8.out.trans (g.mono G_8.out.size))
  clear g B1_8 B2_8 B3_8 B4_8 B5_8 B6_8 B7_8 B8_8 Z_8 G_8
  have K9 := And.intro B7_9.out (And.intro B8_9.out (And.intro B6_9.out (B5_9.out)))
  clear hHeld
  refine hK.out _ _ (Or.inr K9) ?_
  have hHeld := K9
  clear hK Kk K9
  try simp only [Act.put, List.setIfInBounds_toArray, List.set_cons_zero, List.set_cons_succ]
  refine l_call 8 rfl (by kernel_rfl) (by rfl) (fun Kk hK => ?_)
  go_simp
  (refine (Q11.out _).mono ?_)
  rintro e w10 ⟨rfl, g0⟩
  have g := g0
  clear g0
  have B1_10 := hid (B1_9.out.below g)
  have B2_10 := hid (B2_9.out.below g)
  have B3_10 := hid (B3_9.out.below g)
  have B4_10 := hid (B4_9.out.below g)
  have B5_10 := hid (B5_9.out.below g)
  have B6_10 := hid (B6_9.out.below g)
  have B7_10 := hid (B7_9.out.below g)
  have B8_10 := hid (B8_9.out.below g)
  have Z_10 := hid (Z_9.out.grown g)
  have G_10 := hid (G_9.out.trans (g.mono G_9.out.size))
  clear g B1_9 B2_9 B3_9 B4_9 B5_9 B6_9 B7_9 B8_9 Z_9 G_9
  have K10 := And.intro B7_10.out (And.intro B8_10.out (And.intro B6_10.out (B5_10.out)))
  clear hHeld
  refine hK.out _ _ (Or.inr K10) ?_
  have hHeld := K10
  clear hK Kk K10
  try simp only [Act.put, List.setIfInBounds_toArray, List.set_cons_zero, List.set_cons_succ]
  refine l_call 9 rfl (by kernel_rfl) (by rfl) (fun Kk hK => ?_)
  refine store_whole 32 _ _ rfl (w.heap.size + 1) [.int .u64 cx0, .int .u64 cx1, .int .u64 cx2, .int .u64 cx3, .int .u64 cx4, .int .u64 cy0, .int .u64 cy1, .int .u64 cy2, .int .u64 cy3, .int .u64 cy4, .int .u64 cz0, .int .u64 cz1, .int .u64 cz2, .int .u64 cz3, .int .u64 cz4, .int .u64 ct0, .int .u64 ct1, .int .u64 ct2, .int .u64 ct3, .int .u64 ct4] _ rfl rfl B2_10.out rfl (by kernel_rfl) (by kernel_rfl) w.heap.size w G_10.out (by omega) (fun F hC hB => ?_)
  refine hK.out _ _ (Or.inl rfl) ?_
  clear hK Kk
  try simp only [Act.put, List.setIfInBounds_toArray, List.set_cons_zero, List.set_cons_succ]
  refine l_done (by kernel_rfl) ?_ _
  go_wp2_with fail
  exact bodyPost_ret (v := .agg #[.int .u64 cx0, .int .u64 cx1, .int .u64 cx2, .int .u64 cx3, .int .u64 cx4, .int .u64 cy0, .int .u64 cy1, .int .u64 cy2, .int .u64 cy3, .int .u64 cy4, .int .u64 cz0, .int .u64 cz1, .int .u64 cz2, .int .u64 cz3, .int .u64 cz4, .int .u64 ct0, .int .u64 ct1, .int .u64 ct2, .int .u64 ct3, .int .u64 ct4]) (results_mid (Tryd.results34) _ F (w.heap.size + 1) 0 [.int .u64 cx0, .int .u64 cx1, .int .u64 cx2, .int .u64 cx3, .int .u64 cx4, .int .u64 cy0, .int .u64 cy1, .int .u64 cy2, .int .u64 cy3, .int .u64 cy4, .int .u64 cz0, .int .u64 cz1, .int .u64 cz2, .int .u64 cz3, .int .u64 cz4, .int .u64 ct0, .int .u64 ct1, .int .u64 ct2, .int .u64 ct3, .int .u64 ct4] _ rfl hC.range Tryd.underlying32 rfl (by kernel_rfl)) rfl ⟨rfl, hB⟩
set_option maxRecDepth 100000 in
set_option maxHeartbeats 8000000 in
theorem eight_w (px py pz pt max may maz mat mbx mby mbz mbt mcx mcy mcz mct : L5)
    (Q1 : Hid (∀ w : World, Gf w → Calls Tryd.prog 34 #[.agg #[.int .u64 px.l0, .int .u64 px.l1, .int .u64 px.l2, .int .u64 px.l3, .int .u64 px.l4, .int .u64 py.l0, .int .u64 py.l1, .int .u64 py.l2, .int .u64 py.l3, .int .u64 py.l4, .int .u64 pz.l0, .int .u64 pz.l1, .int .u64 pz.l2, .int .u64 pz.l3, .int .u64 pz.l4, .int .u64 pt.l0, .int .u64 pt.l1, .int .u64 pt.l2, .int .u64 pt.l3, .int .u64 pt.l4]] w fun e w' => e = .returned (.agg #[.int .u64 max.l0, .int .u64 max.l1, .int .u64 max.l2, .int .u64 max.l3, .int .u64 max.l4, .int .u64 may.l0, .int .u64 may.l1, .int .u64 may.l2, .int .u64 may.l3, .int .u64 may.l4, .int .u64 maz.l0, .int .u64 maz.l1, .int .u64 maz.l2, .int .u64 maz.l3, .int .u64 maz.l4, .int .u64 mat.l0, .int .u64 mat.l1, .int .u64 mat.l2, .int .u64 mat.l3, .int .u64 mat.l4]) ∧ Below w.heap.size w w'))
    (Q2 : Hid (∀ w : World, Gf w → Calls Tryd.prog 34 #[.agg #[.int .u64 max.l0, .int .u64 max.l1, .int .u64 max.l2, .int .u64 max.l3, .int .u64 max.l4, .int .u64 may.l0, .int .u64 may.l1, .int .u64 may.l2, .int .u64 may.l3, .int .u64 may.l4, .int .u64 maz.l0, .int .u64 maz.l1, .int .u64 maz.l2, .int .u64 maz.l3, .int .u64 maz.l4, .int .u64 mat.l0, .int .u64 mat.l1, .int .u64 mat.l2, .int .u64 mat.l3, .int .u64 mat.l4]] w fun e w' => e = .returned (.agg #[.int .u64 mbx.l0, .int .u64 mbx.l1, .int .u64 mbx.l2, .int .u64 mbx.l3, .int .u64 mbx.l4, .int .u64 mby.l0, .int .u64 mby.l1, .int .u64 mby.l2, .int .u64 mby.l3, .int .u64 mby.l4, .int .u64 mbz.l0, .int .u64 mbz.l1, .int .u64 mbz.l2, .int .u64 mbz.l3, .int .u64 mbz.l4, .int .u64 mbt.l0, .int .u64 mbt.l1, .int .u64 mbt.l2, .int .u64 mbt.l3, .int .u64 mbt.l4]) ∧ Below w.heap.size w w'))
    (Q3 : Hid (∀ w : World, Gf w → Calls Tryd.prog 34 #[.agg #[.int .u64 mbx.l0, .int .u64 mbx.l1, .int .u64 mbx.l2, .int .u64 mbx.l3, .int .u64 mbx.l4, .int .u64 mby.l0, .int .u64 mby.l1, .int .u64 mby.l2, .int .u64 mby.l3, .int .u64 mby.l4, .int .u64 mbz.l0, .int .u64 mbz.l1, .int .u64 mbz.l2, .int .u64 mbz.l3, .int .u64 mbz.l4, .int .u64 mbt.l0, .int .u64 mbt.l1, .int .u64 mbt.l2, .int .u64 mbt.l3, .int .u64 mbt.l4]] w fun e w' => e = .returned (.agg #[.int .u64 mcx.l0, .int .u64 mcx.l1, .int .u64 mcx.l2, .int .u64 mcx.l3, .int .u64 mcx.l4, .int .u64 mcy.l0, .int .u64 mcy.l1, .int .u64 mcy.l2, .int .u64 mcy.l3, .int .u64 mcy.l4, .int .u64 mcz.l0, .int .u64 mcz.l1, .int .u64 mcz.l2, .int .u64 mcz.l3, .int .u64 mcz.l4, .int .u64 mct.l0, .int .u64 mct.l1, .int .u64 mct.l2, .int .u64 mct.l3, .int .u64 mct.l4]) ∧ Below w.heap.size w w'))
    (w : World) (Z_0 : Hid (Gf w)) :
    Calls Tryd.prog 29 #[.agg #[.int .u64 px.l0, .int .u64 px.l1, .int .u64 px.l2, .int .u64 px.l3, .int .u64 px.l4, .int .u64 py.l0, .int .u64 py.l1, .int .u64 py.l2, .int .u64 py.l3, .int .u64 py.l4, .int .u64 pz.l0, .int .u64 pz.l1, .int .u64 pz.l2, .int .u64 pz.l3, .int .u64 pz.l4, .int .u64 pt.l0, .int .u64 pt.l1, .int .u64 pt.l2, .int .u64 pt.l3, .int .u64 pt.l4]] w fun e w' => e = .returned (.agg #[.int .u64 mcx.l0, .int .u64 mcx.l1, .int .u64 mcx.l2, .int .u64 mcx.l3, .int .u64 mcx.l4, .int .u64 mcy.l0, .int .u64 mcy.l1, .int .u64 mcy.l2, .int .u64 mcy.l3, .int .u64 mcy.l4, .int .u64 mcz.l0, .int .u64 mcz.l1, .int .u64 mcz.l2, .int .u64 mcz.l3, .int .u64 mcz.l4, .int .u64 mct.l0, .int .u64 mct.l1, .int .u64 mct.l2, .int .u64 mct.l3, .int .u64 mct.l4]) ∧ Below w.heap.size w w' := by
  obtain ⟨px0, px1, px2, px3, px4⟩ := px
  obtain ⟨py0, py1, py2, py3, py4⟩ := py
  obtain ⟨pz0, pz1, pz2, pz3, pz4⟩ := pz
  obtain ⟨pt0, pt1, pt2, pt3, pt4⟩ := pt
  obtain ⟨max0, max1, max2, max3, max4⟩ := max
  obtain ⟨may0, may1, may2, may3, may4⟩ := may
  obtain ⟨maz0, maz1, maz2, maz3, maz4⟩ := maz
  obtain ⟨mat0, mat1, mat2, mat3, mat4⟩ := mat
  obtain ⟨mbx0, mbx1, mbx2, mbx3, mbx4⟩ := mbx
  obtain ⟨mby0, mby1, mby2, mby3, mby4⟩ := mby
  obtain ⟨mbz0, mbz1, mbz2, mbz3, mbz4⟩ := mbz
  obtain ⟨mbt0, mbt1, mbt2, mbt3, mbt4⟩ := mbt
  obtain ⟨mcx0, mcx1, mcx2, mcx3, mcx4⟩ := mcx
  obtain ⟨mcy0, mcy1, mcy2, mcy3, mcy4⟩ := mcy
  obtain ⟨mcz0, mcz1, mcz2, mcz3, mcz4⟩ := mcz
  obtain ⟨mct0, mct1, mct2, mct3, mct4⟩ := mct
  dsimp only at Q1 Q2 Q3 ⊢
  go_enter Tryd.func29, Tryd.ntmps29
  go_upto_region 1 with fail
  have HZ := Z_0.out.lt
  refine wp_cut (fun V => At 32 V w.heap.size [.int .u64 px0, .int .u64 px1, .int .u64 px2, .int .u64 px3, .int .u64 px4, .int .u64 py0, .int .u64 py1, .int .u64 py2, .int .u64 py3, .int .u64 py4, .int .u64 pz0, .int .u64 pz1, .int .u64 pz2, .int .u64 pz3, .int .u64 pz4, .int .u64 pt0, .int .u64 pt1, .int .u64 pt2, .int .u64 pt3, .int .u64 pt4] ∧ At 32 V (w.heap.size + 1) [.int .u64 0, .int .u64 0, .int .u64 0, .int .u64 0, .int .u64 0, .int .u64 0, .int .u64 0, .int .u64 0, .int .u64 0, .int .u64 0, .int .u64 0, .int .u64 0, .int .u64 0, .int .u64 0, .int .u64 0, .int .u64 0, .int .u64 0, .int .u64 0, .int .u64 0, .int .u64 0] ∧ Gf V ∧ Below w.heap.size w V) ⟨?_, ?_, ?_, ?_⟩ ?_
  · (repeat (first | refine At.drew ?_ | refine At.drewN ?_ _ | (refine at_new2 _ _ _ _ ?_; simp; done) | refine at_alloc ?_ _))
  · (repeat (first | refine At.drew ?_ | refine At.drewN ?_ _ | (refine at_new2 _ _ _ _ ?_; simp; done) | refine at_alloc ?_ _))
  · refine Z_0.out.grown ?_
    (repeat (first | exact Below.refl _ _ | refine Below.drew ?_ | refine below_drewN ?_ _ | refine Below.alloc ?_ (by simp <;> omega) _))
  · (repeat (first | exact Below.refl _ _ | refine Below.drew ?_ | refine below_drewN ?_ _ | refine Below.alloc ?_ (by simp <;> omega) _))
  rintro w1 ⟨k0, k1, k2, k3⟩
  have B1_1 := hid k0
  have B2_1 := hid k1
  have Z_1 := hid k2
  have G_1 := hid k3
  clear k0 k1 k2 k3 Z_0
  go_wp2_with (first | (refine wpList_load_mid rfl 32 _ rfl w.heap.size 0 rfl [.int .u64 px0, .int .u64 px1, .int .u64 px2, .int .u64 px3, .int .u64 px4, .int .u64 py0, .int .u64 py1, .int .u64 py2, .int .u64 py3, .int .u64 py4, .int .u64 pz0, .int .u64 pz1, .int .u64 pz2, .int .u64 pz3, .int .u64 pz4, .int .u64 pt0, .int .u64 pt1, .int .u64 pt2, .int .u64 pt3, .int .u64 pt4] _ (at_mid B1_1.out 0 _ rfl) Tryd.underlying32 rfl (by kernel_rfl) ?_) | fail)
  refine (Q1.out _ Z_1.out).mono ?_
  rintro e w2 ⟨rfl, g0⟩
  have g := g0
  clear g0
  have B1_2 := hid (B1_1.out.below g)
  have B2_2 := hid (B2_1.out.below g)
  have Z_2 := hid (Z_1.out.grown g)
  have G_2 := hid (G_1.out.trans (g.mono G_1.out.size))
  clear g B1_1 B2_1 Z_1 G_1
  go_wp2_with (fail)
  refine (Q2.out _ Z_2.out).mono ?_
  rintro e w3 ⟨rfl, g0⟩
  have g := g0
  clear g0
  have B1_3 := hid (B1_2.out.below g)
  have B2_3 := hid (B2_2.out.below g)
  have Z_3 := hid (Z_2.out.grown g)
  have G_3 := hid (G_2.out.trans (g.mono G_2.out.size))
  clear g B1_2 B2_2 Z_2 G_2
  go_wp2_with (fail)
  refine (Q3.out _ Z_3.out).mono ?_
  rintro e w4 ⟨rfl, g0⟩
  have g := g0
  clear g0
  have B1_4 := hid (B1_3.out.below g)
  have B2_4 := hid (B2_3.out.below g)
  have Z_4 := hid (Z_3.out.grown g)
  have G_4 := hid (G_3.out.trans (g.mono G_3.out.size))
  clear g B1_3 B2_3 Z_3 G_3
  go_wp2_with (first | (refine list_store_whole rfl 32 _ _ rfl (w.heap.size + 1) [.int .u64 mcx0, .int .u64 mcx1, .int .u64 mcx2, .int .u64 mcx3, .int .u64 mcx4, .int .u64 mcy0, .int .u64 mcy1, .int .u64 mcy2, .int .u64 mcy3, .int .u64 mcy4, .int .u64 mcz0, .int .u64 mcz1, .int .u64 mcz2, .int .u64 mcz3, .int .u64 mcz4, .int .u64 mct0, .int .u64 mct1, .int .u64 mct2, .int .u64 mct3, .int .u64 mct4] _ rfl rfl B2_4.out rfl (by kernel_rfl) (by kernel_rfl) w.heap.size w G_4.out (by omega) (fun F hC hB => ?_)) | fail)
  exact bodyPost_ret (v := .agg #[.int .u64 mcx0, .int .u64 mcx1, .int .u64 mcx2, .int .u64 mcx3, .int .u64 mcx4, .int .u64 mcy0, .int .u64 mcy1, .int .u64 mcy2, .int .u64 mcy3, .int .u64 mcy4, .int .u64 mcz0, .int .u64 mcz1, .int .u64 mcz2, .int .u64 mcz3, .int .u64 mcz4, .int .u64 mct0, .int .u64 mct1, .int .u64 mct2, .int .u64 mct3, .int .u64 mct4]) (results_mid (Tryd.results29) _ F (w.heap.size + 1) 0 [.int .u64 mcx0, .int .u64 mcx1, .int .u64 mcx2, .int .u64 mcx3, .int .u64 mcx4, .int .u64 mcy0, .int .u64 mcy1, .int .u64 mcy2, .int .u64 mcy3, .int .u64 mcy4, .int .u64 mcz0, .int .u64 mcz1, .int .u64 mcz2, .int .u64 mcz3, .int .u64 mcz4, .int .u64 mct0, .int .u64 mct1, .int .u64 mct2, .int .u64 mct3, .int .u64 mct4] _ rfl hC.range Tryd.underlying32 rfl (by kernel_rfl)) rfl ⟨rfl, hB⟩
end Go.Proofs.YtedhfimjcpbcpaaDoor.Ed

/-
  The program's Same and Small of layer 10: the walk, given what each call answers. Conditions: as each theorem says.
-/
namespace Go.Proofs.YtedhfimjcpbcpaaDoor.Ed
open Go.RowKit
set_option linter.unusedVariables false
set_option linter.unusedSimpArgs false

set_option maxRecDepth 100000 in
set_option maxHeartbeats 8000000 in
theorem same_yes_w (px py pz pt qx qy qz qt ra rb rc rd : L5) (tb : Bool)
    (Q1 : Hid (∀ w : World, Calls Tryd.prog 66 #[.agg #[.int .u64 px.l0, .int .u64 px.l1, .int .u64 px.l2, .int .u64 px.l3, .int .u64 px.l4], .agg #[.int .u64 qz.l0, .int .u64 qz.l1, .int .u64 qz.l2, .int .u64 qz.l3, .int .u64 qz.l4]] w fun e w' => e = .returned (.agg #[.int .u64 ra.l0, .int .u64 ra.l1, .int .u64 ra.l2, .int .u64 ra.l3, .int .u64 ra.l4]) ∧ Below w.heap.size w w'))
    (Q2 : Hid (∀ w : World, Calls Tryd.prog 66 #[.agg #[.int .u64 qx.l0, .int .u64 qx.l1, .int .u64 qx.l2, .int .u64 qx.l3, .int .u64 qx.l4], .agg #[.int .u64 pz.l0, .int .u64 pz.l1, .int .u64 pz.l2, .int .u64 pz.l3, .int .u64 pz.l4]] w fun e w' => e = .returned (.agg #[.int .u64 rb.l0, .int .u64 rb.l1, .int .u64 rb.l2, .int .u64 rb.l3, .int .u64 rb.l4]) ∧ Below w.heap.size w w'))
    (Q3 : Hid (∀ w : World, Calls Tryd.prog 65 #[.agg #[.int .u64 ra.l0, .int .u64 ra.l1, .int .u64 ra.l2, .int .u64 ra.l3, .int .u64 ra.l4], .agg #[.int .u64 rb.l0, .int .u64 rb.l1, .int .u64 rb.l2, .int .u64 rb.l3, .int .u64 rb.l4]] w fun e w' => e = .returned (.bool true) ∧ Below w.heap.size w w'))
    (Q4 : Hid (∀ w : World, Calls Tryd.prog 66 #[.agg #[.int .u64 py.l0, .int .u64 py.l1, .int .u64 py.l2, .int .u64 py.l3, .int .u64 py.l4], .agg #[.int .u64 qz.l0, .int .u64 qz.l1, .int .u64 qz.l2, .int .u64 qz.l3, .int .u64 qz.l4]] w fun e w' => e = .returned (.agg #[.int .u64 rc.l0, .int .u64 rc.l1, .int .u64 rc.l2, .int .u64 rc.l3, .int .u64 rc.l4]) ∧ Below w.heap.size w w'))
    (Q5 : Hid (∀ w : World, Calls Tryd.prog 66 #[.agg #[.int .u64 qy.l0, .int .u64 qy.l1, .int .u64 qy.l2, .int .u64 qy.l3, .int .u64 qy.l4], .agg #[.int .u64 pz.l0, .int .u64 pz.l1, .int .u64 pz.l2, .int .u64 pz.l3, .int .u64 pz.l4]] w fun e w' => e = .returned (.agg #[.int .u64 rd.l0, .int .u64 rd.l1, .int .u64 rd.l2, .int .u64 rd.l3, .int .u64 rd.l4]) ∧ Below w.heap.size w w'))
    (Q6 : Hid (∀ w : World, Calls Tryd.prog 65 #[.agg #[.int .u64 rc.l0, .int .u64 rc.l1, .int .u64 rc.l2, .int .u64 rc.l3, .int .u64 rc.l4], .agg #[.int .u64 rd.l0, .int .u64 rd.l1, .int .u64 rd.l2, .int .u64 rd.l3, .int .u64 rd.l4]] w fun e w' => e = .returned (.bool tb) ∧ Below w.heap.size w w'))
    (w : World) :
    Calls Tryd.prog 18 #[.agg #[.int .u64 px.l0, .int .u64 px.l1, .int .u64 px.l2, .int .u64 px.l3, .int .u64 px.l4, .int .u64 py.l0, .int .u64 py.l1, .int .u64 py.l2, .int .u64 py.l3, .int .u64 py.l4, .int .u64 pz.l0, .int .u64 pz.l1, .int .u64 pz.l2, .int .u64 pz.l3, .int .u64 pz.l4, .int .u64 pt.l0, .int .u64 pt.l1, .int .u64 pt.l2, .int .u64 pt.l3, .int .u64 pt.l4], .agg #[.int .u64 qx.l0, .int .u64 qx.l1, .int .u64 qx.l2, .int .u64 qx.l3, .int .u64 qx.l4, .int .u64 qy.l0, .int .u64 qy.l1, .int .u64 qy.l2, .int .u64 qy.l3, .int .u64 qy.l4, .int .u64 qz.l0, .int .u64 qz.l1, .int .u64 qz.l2, .int .u64 qz.l3, .int .u64 qz.l4, .int .u64 qt.l0, .int .u64 qt.l1, .int .u64 qt.l2, .int .u64 qt.l3, .int .u64 qt.l4]] w fun e w' => e = .returned (.bool tb) ∧ Below w.heap.size w w' := by
  obtain ⟨px0, px1, px2, px3, px4⟩ := px
  obtain ⟨py0, py1, py2, py3, py4⟩ := py
  obtain ⟨pz0, pz1, pz2, pz3, pz4⟩ := pz
  obtain ⟨pt0, pt1, pt2, pt3, pt4⟩ := pt
  obtain ⟨qx0, qx1, qx2, qx3, qx4⟩ := qx
  obtain ⟨qy0, qy1, qy2, qy3, qy4⟩ := qy
  obtain ⟨qz0, qz1, qz2, qz3, qz4⟩ := qz
  obtain ⟨qt0, qt1, qt2, qt3, qt4⟩ := qt
  obtain ⟨ra0, ra1, ra2, ra3, ra4⟩ := ra
  obtain ⟨rb0, rb1, rb2, rb3, rb4⟩ := rb
  obtain ⟨rc0, rc1, rc2, rc3, rc4⟩ := rc
  obtain ⟨rd0, rd1, rd2, rd3, rd4⟩ := rd
  dsimp only at Q1 Q2 Q3 Q4 Q5 Q6 ⊢
  go_enter Tryd.func18, Tryd.ntmps18
  go_upto_region 1 with fail
  refine wp_cut (fun V => At 32 V w.heap.size [.int .u64 px0, .int .u64 px1, .int .u64 px2, .int .u64 px3, .int .u64 px4, .int .u64 py0, .int .u64 py1, .int .u64 py2, .int .u64 py3, .int .u64 py4, .int .u64 pz0, .int .u64 pz1, .int .u64 pz2, .int .u64 pz3, .int .u64 pz4, .int .u64 pt0, .int .u64 pt1, .int .u64 pt2, .int .u64 pt3, .int .u64 pt4] ∧ At 32 V (w.heap.size + 1) [.int .u64 qx0, .int .u64 qx1, .int .u64 qx2, .int .u64 qx3, .int .u64 qx4, .int .u64 qy0, .int .u64 qy1, .int .u64 qy2, .int .u64 qy3, .int .u64 qy4, .int .u64 qz0, .int .u64 qz1, .int .u64 qz2, .int .u64 qz3, .int .u64 qz4, .int .u64 qt0, .int .u64 qt1, .int .u64 qt2, .int .u64 qt3, .int .u64 qt4] ∧ Below w.heap.size w V) ⟨?_, ?_, ?_⟩ ?_
  · (repeat (first | refine At.drew ?_ | refine At.drewN ?_ _ | (refine at_new2 _ _ _ _ ?_; simp; done) | refine at_alloc ?_ _))
  · (repeat (first | refine At.drew ?_ | refine At.drewN ?_ _ | (refine at_new2 _ _ _ _ ?_; simp; done) | refine at_alloc ?_ _))
  · (repeat (first | exact Below.refl _ _ | refine Below.drew ?_ | refine below_drewN ?_ _ | refine Below.alloc ?_ (by simp <;> omega) _))
  rintro w1 ⟨k0, k1, k2⟩
  have B2_1 := hid k0
  have B3_1 := hid k1
  have G_1 := hid k2
  clear k0 k1 k2
  have K1 : At 32 w1.drew w.heap.size [.int .u64 px0, .int .u64 px1, .int .u64 px2, .int .u64 px3, .int .u64 px4, .int .u64 py0, .int .u64 py1, .int .u64 py2, .int .u64 py3, .int .u64 py4, .int .u64 pz0, .int .u64 pz1, .int .u64 pz2, .int .u64 pz3, .int .u64 pz4, .int .u64 pt0, .int .u64 pt1, .int .u64 pt2, .int .u64 pt3, .int .u64 pt4] ∧ At 32 w1.drew (w.heap.size + 1) [.int .u64 qx0, .int .u64 qx1, .int .u64 qx2, .int .u64 qx3, .int .u64 qx4, .int .u64 qy0, .int .u64 qy1, .int .u64 qy2, .int .u64 qy3, .int .u64 qy4, .int .u64 qz0, .int .u64 qz1, .int .u64 qz2, .int .u64 qz3, .int .u64 qz4, .int .u64 qt0, .int .u64 qt1, .int .u64 qt2, .int .u64 qt3, .int .u64 qt4] := And.intro B2_1.out.drew (B3_1.out.drew)
  refine wp_region_held_drew (S := fun w' => At 32 w' w.heap.size [.int .u64 px0, .int .u64 px1, .int .u64 px2, .int .u64 px3, .int .u64 px4, .int .u64 py0, .int .u64 py1, .int .u64 py2, .int .u64 py3, .int .u64 py4, .int .u64 pz0, .int .u64 pz1, .int .u64 pz2, .int .u64 pz3, .int .u64 pz4, .int .u64 pt0, .int .u64 pt1, .int .u64 pt2, .int .u64 pt3, .int .u64 pt4] ∧ At 32 w' (w.heap.size + 1) [.int .u64 qx0, .int .u64 qx1, .int .u64 qx2, .int .u64 qx3, .int .u64 qx4, .int .u64 qy0, .int .u64 qy1, .int .u64 qy2, .int .u64 qy3, .int .u64 qy4, .int .u64 qz0, .int .u64 qz1, .int .u64 qz2, .int .u64 qz3, .int .u64 qz4, .int .u64 qt0, .int .u64 qt1, .int .u64 qt2, .int .u64 qt3, .int .u64 qt4]) (by kernel_rfl) K1 (fun hHeld => ?_)
  clear K1
  refine h_take 0 (v := .pointer (some ⟨w.heap.size, 0, none⟩)) rfl (by kernel_rfl) (by kernel_rfl) (by kernel_rfl) (fun _ _ _ h => h) (by rfl) ?hyr0_0 (by assumption) ?_
  case hyr0_0 =>
    intro w' hSw
    clear hSw
    go_simp
  try simp only [Act.put, List.setIfInBounds_toArray, List.set_cons_zero, List.set_cons_succ]
  refine h_take 1 (v := .pointer (some ⟨w.heap.size, 0, none⟩)) rfl (by kernel_rfl) (by kernel_rfl) (by kernel_rfl) (fun _ _ _ h => h) (by rfl) ?hyr0_1 (by assumption) ?_
  case hyr0_1 =>
    intro w' hSw
    clear hSw
    go_simp
  try simp only [Act.put, List.setIfInBounds_toArray, List.set_cons_zero, List.set_cons_succ]
  refine h_take 2 (v := .agg #[.int .u64 px0, .int .u64 px1, .int .u64 px2, .int .u64 px3, .int .u64 px4]) rfl (by kernel_rfl) (by kernel_rfl) (by kernel_rfl) (fun _ _ _ h => h) (by rfl) ?hyr0_2 (by assumption) ?_
  case hyr0_2 =>
    intro w' hSw
    exact load_run 28 _ rfl _ 0 rfl _ _ (at_mid hSw.1 0 _ rfl) Tryd.underlying28 rfl (by kernel_rfl)
  try simp only [Act.put, List.setIfInBounds_toArray, List.set_cons_zero, List.set_cons_succ]
  refine h_take 3 (v := .pointer (some ⟨(w.heap.size + 1), 0, none⟩)) rfl (by kernel_rfl) (by kernel_rfl) (by kernel_rfl) (fun _ _ _ h => h) (by rfl) ?hyr0_3 (by assumption) ?_
  case hyr0_3 =>
    intro w' hSw
    clear hSw
    go_simp
  try simp only [Act.put, List.setIfInBounds_toArray, List.set_cons_zero, List.set_cons_succ]
  refine h_take 4 (v := .pointer (some ⟨(w.heap.size + 1), 10, none⟩)) rfl (by kernel_rfl) (by kernel_rfl) (by kernel_rfl) (fun _ _ _ h => h) (by rfl) ?hyr0_4 (by assumption) ?_
  case hyr0_4 =>
    intro w' hSw
    clear hSw
    go_simp
  try simp only [Act.put, List.setIfInBounds_toArray, List.set_cons_zero, List.set_cons_succ]
  refine h_take 5 (v := .agg #[.int .u64 qz0, .int .u64 qz1, .int .u64 qz2, .int .u64 qz3, .int .u64 qz4]) rfl (by kernel_rfl) (by kernel_rfl) (by kernel_rfl) (fun _ _ _ h => h) (by rfl) ?hyr0_5 (by assumption) ?_
  case hyr0_5 =>
    intro w' hSw
    exact load_run 28 _ rfl _ 10 rfl _ _ (at_mid hSw.2 10 _ rfl) Tryd.underlying28 rfl (by kernel_rfl)
  try simp only [Act.put, List.setIfInBounds_toArray, List.set_cons_zero, List.set_cons_succ]
  refine h_take 7 (v := .pointer (some ⟨(w.heap.size + 1), 0, none⟩)) rfl (by kernel_rfl) (by kernel_rfl) (by kernel_rfl) (fun _ _ _ h => h) (by rfl) ?hyr0_7 (by assumption) ?_
  case hyr0_7 =>
    intro w' hSw
    clear hSw
    go_simp
  try simp only [Act.put, List.setIfInBounds_toArray, List.set_cons_zero, List.set_cons_succ]
  refine h_take 8 (v := .pointer (some ⟨(w.heap.size + 1), 0, none⟩)) rfl (by kernel_rfl) (by kernel_rfl) (by kernel_rfl) (fun _ _ _ h => h) (by rfl) ?hyr0_8 (by assumption) ?_
  case hyr0_8 =>
    intro w' hSw
    clear hSw
    go_simp
  try simp only [Act.put, List.setIfInBounds_toArray, List.set_cons_zero, List.set_cons_succ]
  refine h_take 9 (v := .agg #[.int .u64 qx0, .int .u64 qx1, .int .u64 qx2, .int .u64 qx3, .int .u64 qx4]) rfl (by kernel_rfl) (by kernel_rfl) (by kernel_rfl) (fun _ _ _ h => h) (by rfl) ?hyr0_9 (by assumption) ?_
  case hyr0_9 =>
    intro w' hSw
    exact load_run 28 _ rfl _ 0 rfl _ _ (at_mid hSw.2 0 _ rfl) Tryd.underlying28 rfl (by kernel_rfl)
  try simp only [Act.put, List.setIfInBounds_toArray, List.set_cons_zero, List.set_cons_succ]
  refine h_take 10 (v := .pointer (some ⟨w.heap.size, 0, none⟩)) rfl (by kernel_rfl) (by kernel_rfl) (by kernel_rfl) (fun _ _ _ h => h) (by rfl) ?hyr0_10 (by assumption) ?_
  case hyr0_10 =>
    intro w' hSw
    clear hSw
    go_simp
  try simp only [Act.put, List.setIfInBounds_toArray, List.set_cons_zero, List.set_cons_succ]
  refine h_take 11 (v := .pointer (some ⟨w.heap.size, 10, none⟩)) rfl (by kernel_rfl) (by kernel_rfl) (by kernel_rfl) (fun _ _ _ h => h) (by rfl) ?hyr0_11 (by assumption) ?_
  case hyr0_11 =>
    intro w' hSw
    clear hSw
    go_simp
  try simp only [Act.put, List.setIfInBounds_toArray, List.set_cons_zero, List.set_cons_succ]
  refine h_take 12 (v := .agg #[.int .u64 pz0, .int .u64 pz1, .int .u64 pz2, .int .u64 pz3, .int .u64 pz4]) rfl (by kernel_rfl) (by kernel_rfl) (by kernel_rfl) (fun _ _ _ h => h) (by rfl) ?hyr0_12 (by assumption) ?_
  case hyr0_12 =>
    intro w' hSw
    exact load_run 28 _ rfl _ 10 rfl _ _ (at_mid hSw.1 10 _ rfl) Tryd.underlying28 rfl (by kernel_rfl)
  try simp only [Act.put, List.setIfInBounds_toArray, List.set_cons_zero, List.set_cons_succ]
  refine h_call 6 rfl (by kernel_rfl) (by rfl) (fun Kk hK => ?_)
  go_simp
  (refine (Q1.out _).mono ?_)
  rintro e w2 ⟨rfl, g0⟩
  have g : Below w1.heap.size w1 w2 := (Below.refl _ w1).drew.trans g0
  clear g0
  have B2_2 := hid (B2_1.out.below g)
  have B3_2 := hid (B3_1.out.below g)
  have G_2 := hid (G_1.out.trans (g.mono G_1.out.size))
  clear g B2_1 B3_1 G_1
  have K2 := And.intro B2_2.out (B3_2.out)
  go_wp2_with fail
  clear hHeld
  refine hK.out _ _ K2 (fun hHeld => ?_)
  clear hK Kk K2
  try simp only [Act.put, List.setIfInBounds_toArray, List.set_cons_zero, List.set_cons_succ]
  refine h_call 13 rfl (by kernel_rfl) (by rfl) (fun Kk hK => ?_)
  go_simp
  (refine (Q2.out _).mono ?_)
  rintro e w3 ⟨rfl, g0⟩
  have g := g0
  clear g0
  have B2_3 := hid (B2_2.out.below g)
  have B3_3 := hid (B3_2.out.below g)
  have G_3 := hid (G_2.out.trans (g.mono G_2.out.size))
  clear g B2_2 B3_2 G_2
  have K3 := And.intro B2_3.out (B3_3.out)
  go_wp2_with fail
  clear hHeld
  refine hK.out _ _ K3 (fun hHeld => ?_)
  clear hK Kk K3
  try simp only [Act.put, List.setIfInBounds_toArray, List.set_cons_zero, List.set_cons_succ]
  refine h_call 14 rfl (by kernel_rfl) (by rfl) (fun Kk hK => ?_)
  go_simp
  (refine (Q3.out _).mono ?_)
  rintro e w4 ⟨rfl, g0⟩
  have g := g0
  clear g0
  have B2_4 := hid (B2_3.out.below g)
  have B3_4 := hid (B3_3.out.below g)
  have G_4 := hid (G_3.out.trans (g.mono G_3.out.size))
  clear g B2_3 B3_3 G_3
  have K4 := And.intro B2_4.out (B3_4.out)
  go_wp2_with fail
  clear hHeld
  refine hK.out _ _ K4 (fun hHeld => ?_)
  clear hK Kk K4
  try simp only [Act.put, List.setIfInBounds_toArray, List.set_cons_zero, List.set_cons_succ]
  refine h_take 15 (v := .bool true) rfl (by kernel_rfl) (by kernel_rfl) (by kernel_rfl) (fun _ _ _ h => h) (by rfl) ?hyr0_15 (by assumption) ?_
  case hyr0_15 =>
    intro w' hSw
    clear hSw
    go_simp
  try simp only [Act.put, List.setIfInBounds_toArray, List.set_cons_zero, List.set_cons_succ]
  refine h_take 16 (v := .pointer (some ⟨w.heap.size, 0, none⟩)) rfl (by kernel_rfl) (by kernel_rfl) (by kernel_rfl) (fun _ _ _ h => h) (by rfl) ?hyr0_16 (by assumption) ?_
  case hyr0_16 =>
    intro w' hSw
    clear hSw
    go_simp
  try simp only [Act.put, List.setIfInBounds_toArray, List.set_cons_zero, List.set_cons_succ]
  refine h_take 17 (v := .pointer (some ⟨w.heap.size, 5, none⟩)) rfl (by kernel_rfl) (by kernel_rfl) (by kernel_rfl) (fun _ _ _ h => h) (by rfl) ?hyr0_17 (by assumption) ?_
  case hyr0_17 =>
    intro w' hSw
    clear hSw
    go_simp
  try simp only [Act.put, List.setIfInBounds_toArray, List.set_cons_zero, List.set_cons_succ]
  refine h_take 18 (v := .agg #[.int .u64 py0, .int .u64 py1, .int .u64 py2, .int .u64 py3, .int .u64 py4]) rfl (by kernel_rfl) (by kernel_rfl) (by kernel_rfl) (fun _ _ _ h => h) (by rfl) ?hyr0_18 (by assumption) ?_
  case hyr0_18 =>
    intro w' hSw
    exact load_run 28 _ rfl _ 5 rfl _ _ (at_mid hSw.1 5 _ rfl) Tryd.underlying28 rfl (by kernel_rfl)
  try simp only [Act.put, List.setIfInBounds_toArray, List.set_cons_zero, List.set_cons_succ]
  refine h_take 19 (v := .pointer (some ⟨(w.heap.size + 1), 0, none⟩)) rfl (by kernel_rfl) (by kernel_rfl) (by kernel_rfl) (fun _ _ _ h => h) (by rfl) ?hyr0_19 (by assumption) ?_
  case hyr0_19 =>
    intro w' hSw
    clear hSw
    go_simp
  try simp only [Act.put, List.setIfInBounds_toArray, List.set_cons_zero, List.set_cons_succ]
  refine h_take 20 (v := .pointer (some ⟨(w.heap.size + 1), 10, none⟩)) rfl (by kernel_rfl) (by kernel_rfl) (by kernel_rfl) (fun _ _ _ h => h) (by rfl) ?hyr0_20 (by assumption) ?_
  case hyr0_20 =>
    intro w' hSw
    clear hSw
    go_simp
  try simp only [Act.put, List.setIfInBounds_toArray, List.set_cons_zero, List.set_cons_succ]
  refine h_take 21 (v := .agg #[.int .u64 qz0, .int .u64 qz1, .int .u64 qz2, .int .u64 qz3, .int .u64 qz4]) rfl (by kernel_rfl) (by kernel_rfl) (by kernel_rfl) (fun _ _ _ h => h) (by rfl) ?hyr0_21 (by assumption) ?_
  case hyr0_21 =>
    intro w' hSw
    exact load_run 28 _ rfl _ 10 rfl _ _ (at_mid hSw.2 10 _ rfl) Tryd.underlying28 rfl (by kernel_rfl)
  try simp only [Act.put, List.setIfInBounds_toArray, List.set_cons_zero, List.set_cons_succ]
  refine h_take 23 (v := .pointer (some ⟨(w.heap.size + 1), 0, none⟩)) rfl (by kernel_rfl) (by kernel_rfl) (by kernel_rfl) (fun _ _ _ h => h) (by rfl) ?hyr0_23 (by assumption) ?_
  case hyr0_23 =>
    intro w' hSw
    clear hSw
    go_simp
  try simp only [Act.put, List.setIfInBounds_toArray, List.set_cons_zero, List.set_cons_succ]
  refine h_take 24 (v := .pointer (some ⟨(w.heap.size + 1), 5, none⟩)) rfl (by kernel_rfl) (by kernel_rfl) (by kernel_rfl) (fun _ _ _ h => h) (by rfl) ?hyr0_24 (by assumption) ?_
  case hyr0_24 =>
    intro w' hSw
    clear hSw
    go_simp
  try simp only [Act.put, List.setIfInBounds_toArray, List.set_cons_zero, List.set_cons_succ]
  refine h_take 25 (v := .agg #[.int .u64 qy0, .int .u64 qy1, .int .u64 qy2, .int .u64 qy3, .int .u64 qy4]) rfl (by kernel_rfl) (by kernel_rfl) (by kernel_rfl) (fun _ _ _ h => h) (by rfl) ?hyr0_25 (by assumption) ?_
  case hyr0_25 =>
    intro w' hSw
    exact load_run 28 _ rfl _ 5 rfl _ _ (at_mid hSw.2 5 _ rfl) Tryd.underlying28 rfl (by kernel_rfl)
  try simp only [Act.put, List.setIfInBounds_toArray, List.set_cons_zero, List.set_cons_succ]
  refine h_take 26 (v := .pointer (some ⟨w.heap.size, 0, none⟩)) rfl (by kernel_rfl) (by kernel_rfl) (by kernel_rfl) (fun _ _ _ h => h) (by rfl) ?hyr0_26 (by assumption) ?_
  case hyr0_26 =>
    intro w' hSw
    clear hSw
    go_simp
  try simp only [Act.put, List.setIfInBounds_toArray, List.set_cons_zero, List.set_cons_succ]
  refine h_take 27 (v := .pointer (some ⟨w.heap.size, 10, none⟩)) rfl (by kernel_rfl) (by kernel_rfl) (by kernel_rfl) (fun _ _ _ h => h) (by rfl) ?hyr0_27 (by assumption) ?_
  case hyr0_27 =>
    intro w' hSw
    clear hSw
    go_simp
  try simp only [Act.put, List.setIfInBounds_toArray, List.set_cons_zero, List.set_cons_succ]
  refine h_take 28 (v := .agg #[.int .u64 pz0, .int .u64 pz1, .int .u64 pz2, .int .u64 pz3, .int .u64 pz4]) rfl (by kernel_rfl) (by kernel_rfl) (by kernel_rfl) (fun _ _ _ h => h) (by rfl) ?hyr0_28 (by assumption) ?_
  case hyr0_28 =>
    intro w' hSw
    exact load_run 28 _ rfl _ 10 rfl _ _ (at_mid hSw.1 10 _ rfl) Tryd.underlying28 rfl (by kernel_rfl)
  try simp only [Act.put, List.setIfInBounds_toArray, List.set_cons_zero, List.set_cons_succ]
  refine h_call 22 rfl (by kernel_rfl) (by rfl) (fun Kk hK => ?_)
  go_simp
  (refine (Q4.out _).mono ?_)
  rintro e w5 ⟨rfl, g0⟩
  have g := g0
  clear g0
  have B2_5 := hid (B2_4.out.below g)
  have B3_5 := hid (B3_4.out.below g)
  have G_5 := hid (G_4.out.trans (g.mono G_4.out.size))
  clear g B2_4 B3_4 G_4
  have K5 := And.intro B2_5.out (B3_5.out)
  go_wp2_with fail
  clear hHeld
  refine hK.out _ _ K5 (fun hHeld => ?_)
  clear hK Kk K5
  try simp only [Act.put, List.setIfInBounds_toArray, List.set_cons_zero, List.set_cons_succ]
  refine h_call 29 rfl (by kernel_rfl) (by rfl) (fun Kk hK => ?_)
  go_simp
  (refine (Q5.out _).mono ?_)
  rintro e w6 ⟨rfl, g0⟩
  have g := g0
  clear g0
  have B2_6 := hid (B2_5.out.below g)
  have B3_6 := hid (B3_5.out.below g)
  have G_6 := hid (G_5.out.trans (g.mono G_5.out.size))
  clear g B2_5 B3_5 G_5
  have K6 := And.intro B2_6.out (B3_6.out)
  go_wp2_with fail
  clear hHeld
  refine hK.out _ _ K6 (fun hHeld => ?_)
  clear hK Kk K6
  try simp only [Act.put, List.setIfInBounds_toArray, List.set_cons_zero, List.set_cons_succ]
  refine h_call 30 rfl (by kernel_rfl) (by rfl) (fun Kk hK => ?_)
  go_simp
  (refine (Q6.out _).mono ?_)
  rintro e w7 ⟨rfl, g0⟩
  have g := g0
  clear g0
  have B2_7 := hid (B2_6.out.below g)
  have B3_7 := hid (B3_6.out.below g)
  have G_7 := hid (G_6.out.trans (g.mono G_6.out.size))
  clear g B2_6 B3_6 G_6
  have K7 := And.intro B2_7.out (B3_7.out)
  go_wp2_with fail
  clear hHeld
  refine hK.out _ _ K7 (fun hHeld => ?_)
  clear hK Kk K7
  try simp only [Act.put, List.setIfInBounds_toArray, List.set_cons_zero, List.set_cons_succ]
  refine h_take 31 (v := .bool tb) rfl (by kernel_rfl) (by kernel_rfl) (by kernel_rfl) (fun _ _ _ h => h) (by rfl) ?hyr0_31 (by assumption) ?_
  case hyr0_31 =>
    intro w' hSw
    clear hSw
    go_simp
  try simp only [Act.put, List.setIfInBounds_toArray, List.set_cons_zero, List.set_cons_succ]
  refine h_take 32 (v := .bool tb) rfl (by kernel_rfl) (by kernel_rfl) (by kernel_rfl) (fun _ _ _ h => h) (by rfl) ?hyr0_32 (by assumption) ?_
  case hyr0_32 =>
    intro w' hSw
    clear hSw
    go_simp
  try simp only [Act.put, List.setIfInBounds_toArray, List.set_cons_zero, List.set_cons_succ]
  refine wpAnyH_done (by kernel_rfl) ?_ _
  clear hHeld
  go_wp2_with fail
  go_ret
  exact ⟨rfl, G_7.out⟩
set_option maxRecDepth 100000 in
set_option maxHeartbeats 8000000 in
theorem same_no_w (px py pz pt qx qy qz qt ra rb : L5)
    (Q1 : Hid (∀ w : World, Calls Tryd.prog 66 #[.agg #[.int .u64 px.l0, .int .u64 px.l1, .int .u64 px.l2, .int .u64 px.l3, .int .u64 px.l4], .agg #[.int .u64 qz.l0, .int .u64 qz.l1, .int .u64 qz.l2, .int .u64 qz.l3, .int .u64 qz.l4]] w fun e w' => e = .returned (.agg #[.int .u64 ra.l0, .int .u64 ra.l1, .int .u64 ra.l2, .int .u64 ra.l3, .int .u64 ra.l4]) ∧ Below w.heap.size w w'))
    (Q2 : Hid (∀ w : World, Calls Tryd.prog 66 #[.agg #[.int .u64 qx.l0, .int .u64 qx.l1, .int .u64 qx.l2, .int .u64 qx.l3, .int .u64 qx.l4], .agg #[.int .u64 pz.l0, .int .u64 pz.l1, .int .u64 pz.l2, .int .u64 pz.l3, .int .u64 pz.l4]] w fun e w' => e = .returned (.agg #[.int .u64 rb.l0, .int .u64 rb.l1, .int .u64 rb.l2, .int .u64 rb.l3, .int .u64 rb.l4]) ∧ Below w.heap.size w w'))
    (Q3 : Hid (∀ w : World, Calls Tryd.prog 65 #[.agg #[.int .u64 ra.l0, .int .u64 ra.l1, .int .u64 ra.l2, .int .u64 ra.l3, .int .u64 ra.l4], .agg #[.int .u64 rb.l0, .int .u64 rb.l1, .int .u64 rb.l2, .int .u64 rb.l3, .int .u64 rb.l4]] w fun e w' => e = .returned (.bool false) ∧ Below w.heap.size w w'))
    (w : World) :
    Calls Tryd.prog 18 #[.agg #[.int .u64 px.l0, .int .u64 px.l1, .int .u64 px.l2, .int .u64 px.l3, .int .u64 px.l4, .int .u64 py.l0, .int .u64 py.l1, .int .u64 py.l2, .int .u64 py.l3, .int .u64 py.l4, .int .u64 pz.l0, .int .u64 pz.l1, .int .u64 pz.l2, .int .u64 pz.l3, .int .u64 pz.l4, .int .u64 pt.l0, .int .u64 pt.l1, .int .u64 pt.l2, .int .u64 pt.l3, .int .u64 pt.l4], .agg #[.int .u64 qx.l0, .int .u64 qx.l1, .int .u64 qx.l2, .int .u64 qx.l3, .int .u64 qx.l4, .int .u64 qy.l0, .int .u64 qy.l1, .int .u64 qy.l2, .int .u64 qy.l3, .int .u64 qy.l4, .int .u64 qz.l0, .int .u64 qz.l1, .int .u64 qz.l2, .int .u64 qz.l3, .int .u64 qz.l4, .int .u64 qt.l0, .int .u64 qt.l1, .int .u64 qt.l2, .int .u64 qt.l3, .int .u64 qt.l4]] w fun e w' => e = .returned (.bool false) ∧ Below w.heap.size w w' := by
  obtain ⟨px0, px1, px2, px3, px4⟩ := px
  obtain ⟨py0, py1, py2, py3, py4⟩ := py
  obtain ⟨pz0, pz1, pz2, pz3, pz4⟩ := pz
  obtain ⟨pt0, pt1, pt2, pt3, pt4⟩ := pt
  obtain ⟨qx0, qx1, qx2, qx3, qx4⟩ := qx
  obtain ⟨qy0, qy1, qy2, qy3, qy4⟩ := qy
  obtain ⟨qz0, qz1, qz2, qz3, qz4⟩ := qz
  obtain ⟨qt0, qt1, qt2, qt3, qt4⟩ := qt
  obtain ⟨ra0, ra1, ra2, ra3, ra4⟩ := ra
  obtain ⟨rb0, rb1, rb2, rb3, rb4⟩ := rb
  dsimp only at Q1 Q2 Q3 ⊢
  go_enter Tryd.func18, Tryd.ntmps18
  go_upto_region 1 with fail
  refine wp_cut (fun V => At 32 V w.heap.size [.int .u64 px0, .int .u64 px1, .int .u64 px2, .int .u64 px3, .int .u64 px4, .int .u64 py0, .int .u64 py1, .int .u64 py2, .int .u64 py3, .int .u64 py4, .int .u64 pz0, .int .u64 pz1, .int .u64 pz2, .int .u64 pz3, .int .u64 pz4, .int .u64 pt0, .int .u64 pt1, .int .u64 pt2, .int .u64 pt3, .int .u64 pt4] ∧ At 32 V (w.heap.size + 1) [.int .u64 qx0, .int .u64 qx1, .int .u64 qx2, .int .u64 qx3, .int .u64 qx4, .int .u64 qy0, .int .u64 qy1, .int .u64 qy2, .int .u64 qy3, .int .u64 qy4, .int .u64 qz0, .int .u64 qz1, .int .u64 qz2, .int .u64 qz3, .int .u64 qz4, .int .u64 qt0, .int .u64 qt1, .int .u64 qt2, .int .u64 qt3, .int .u64 qt4] ∧ Below w.heap.size w V) ⟨?_, ?_, ?_⟩ ?_
  · (repeat (first | refine At.drew ?_ | refine At.drewN ?_ _ | (refine at_new2 _ _ _ _ ?_; simp; done) | refine at_alloc ?_ _))
  · (repeat (first | refine At.drew ?_ | refine At.drewN ?_ _ | (refine at_new2 _ _ _ _ ?_; simp; done) | refine at_alloc ?_ _))
  · (repeat (first | exact Below.refl _ _ | refine Below.drew ?_ | refine below_drewN ?_ _ | refine Below.alloc ?_ (by simp <;> omega) _))
  rintro w1 ⟨k0, k1, k2⟩
  have B2_1 := hid k0
  have B3_1 := hid k1
  have G_1 := hid k2
  clear k0 k1 k2
  have K1 : At 32 w1.drew w.heap.size [.int .u64 px0, .int .u64 px1, .int .u64 px2, .int .u64 px3, .int .u64 px4, .int .u64 py0, .int .u64 py1, .int .u64 py2, .int .u64 py3, .int .u64 py4, .int .u64 pz0, .int .u64 pz1, .int .u64 pz2, .int .u64 pz3, .int .u64 pz4, .int .u64 pt0, .int .u64 pt1, .int .u64 pt2, .int .u64 pt3, .int .u64 pt4] ∧ At 32 w1.drew (w.heap.size + 1) [.int .u64 qx0, .int .u64 qx1, .int .u64 qx2, .int .u64 qx3, .int .u64 qx4, .int .u64 qy0, .int .u64 qy1, .int .u64 qy2, .int .u64 qy3, .int .u64 qy4, .int .u64 qz0, .int .u64 qz1, .int .u64 qz2, .int .u64 qz3, .int .u64 qz4, .int .u64 qt0, .int .u64 qt1, .int .u64 qt2, .int .u64 qt3, .int .u64 qt4] := And.intro B2_1.out.drew (B3_1.out.drew)
  refine wp_region_held_drew (S := fun w' => At 32 w' w.heap.size [.int .u64 px0, .int .u64 px1, .int .u64 px2, .int .u64 px3, .int .u64 px4, .int .u64 py0, .int .u64 py1, .int .u64 py2, .int .u64 py3, .int .u64 py4, .int .u64 pz0, .int .u64 pz1, .int .u64 pz2, .int .u64 pz3, .int .u64 pz4, .int .u64 pt0, .int .u64 pt1, .int .u64 pt2, .int .u64 pt3, .int .u64 pt4] ∧ At 32 w' (w.heap.size + 1) [.int .u64 qx0, .int .u64 qx1, .int .u64 qx2, .int .u64 qx3, .int .u64 qx4, .int .u64 qy0, .int .u64 qy1, .int .u64 qy2, .int .u64 qy3, .int .u64 qy4, .int .u64 qz0, .int .u64 qz1, .int .u64 qz2, .int .u64 qz3, .int .u64 qz4, .int .u64 qt0, .int .u64 qt1, .int .u64 qt2, .int .u64 qt3, .int .u64 qt4]) (by kernel_rfl) K1 (fun hHeld => ?_)
  clear K1
  refine h_take 0 (v := .pointer (some ⟨w.heap.size, 0, none⟩)) rfl (by kernel_rfl) (by kernel_rfl) (by kernel_rfl) (fun _ _ _ h => h) (by rfl) ?hyr0_0 (by assumption) ?_
  case hyr0_0 =>
    intro w' hSw
    clear hSw
    go_simp
  try simp only [Act.put, List.setIfInBounds_toArray, List.set_cons_zero, List.set_cons_succ]
  refine h_take 1 (v := .pointer (some ⟨w.heap.size, 0, none⟩)) rfl (by kernel_rfl) (by kernel_rfl) (by kernel_rfl) (fun _ _ _ h => h) (by rfl) ?hyr0_1 (by assumption) ?_
  case hyr0_1 =>
    intro w' hSw
    clear hSw
    go_simp
  try simp only [Act.put, List.setIfInBounds_toArray, List.set_cons_zero, List.set_cons_succ]
  refine h_take 2 (v := .agg #[.int .u64 px0, .int .u64 px1, .int .u64 px2, .int .u64 px3, .int .u64 px4]) rfl (by kernel_rfl) (by kernel_rfl) (by kernel_rfl) (fun _ _ _ h => h) (by rfl) ?hyr0_2 (by assumption) ?_
  case hyr0_2 =>
    intro w' hSw
    exact load_run 28 _ rfl _ 0 rfl _ _ (at_mid hSw.1 0 _ rfl) Tryd.underlying28 rfl (by kernel_rfl)
  try simp only [Act.put, List.setIfInBounds_toArray, List.set_cons_zero, List.set_cons_succ]
  refine h_take 3 (v := .pointer (some ⟨(w.heap.size + 1), 0, none⟩)) rfl (by kernel_rfl) (by kernel_rfl) (by kernel_rfl) (fun _ _ _ h => h) (by rfl) ?hyr0_3 (by assumption) ?_
  case hyr0_3 =>
    intro w' hSw
    clear hSw
    go_simp
  try simp only [Act.put, List.setIfInBounds_toArray, List.set_cons_zero, List.set_cons_succ]
  refine h_take 4 (v := .pointer (some ⟨(w.heap.size + 1), 10, none⟩)) rfl (by kernel_rfl) (by kernel_rfl) (by kernel_rfl) (fun _ _ _ h => h) (by rfl) ?hyr0_4 (by assumption) ?_
  case hyr0_4 =>
    intro w' hSw
    clear hSw
    go_simp
  try simp only [Act.put, List.setIfInBounds_toArray, List.set_cons_zero, List.set_cons_succ]
  refine h_take 5 (v := .agg #[.int .u64 qz0, .int .u64 qz1, .int .u64 qz2, .int .u64 qz3, .int .u64 qz4]) rfl (by kernel_rfl) (by kernel_rfl) (by kernel_rfl) (fun _ _ _ h => h) (by rfl) ?hyr0_5 (by assumption) ?_
  case hyr0_5 =>
    intro w' hSw
    exact load_run 28 _ rfl _ 10 rfl _ _ (at_mid hSw.2 10 _ rfl) Tryd.underlying28 rfl (by kernel_rfl)
  try simp only [Act.put, List.setIfInBounds_toArray, List.set_cons_zero, List.set_cons_succ]
  refine h_take 7 (v := .pointer (some ⟨(w.heap.size + 1), 0, none⟩)) rfl (by kernel_rfl) (by kernel_rfl) (by kernel_rfl) (fun _ _ _ h => h) (by rfl) ?hyr0_7 (by assumption) ?_
  case hyr0_7 =>
    intro w' hSw
    clear hSw
    go_simp
  try simp only [Act.put, List.setIfInBounds_toArray, List.set_cons_zero, List.set_cons_succ]
  refine h_take 8 (v := .pointer (some ⟨(w.heap.size + 1), 0, none⟩)) rfl (by kernel_rfl) (by kernel_rfl) (by kernel_rfl) (fun _ _ _ h => h) (by rfl) ?hyr0_8 (by assumption) ?_
  case hyr0_8 =>
    intro w' hSw
    clear hSw
    go_simp
  try simp only [Act.put, List.setIfInBounds_toArray, List.set_cons_zero, List.set_cons_succ]
  refine h_take 9 (v := .agg #[.int .u64 qx0, .int .u64 qx1, .int .u64 qx2, .int .u64 qx3, .int .u64 qx4]) rfl (by kernel_rfl) (by kernel_rfl) (by kernel_rfl) (fun _ _ _ h => h) (by rfl) ?hyr0_9 (by assumption) ?_
  case hyr0_9 =>
    intro w' hSw
    exact load_run 28 _ rfl _ 0 rfl _ _ (at_mid hSw.2 0 _ rfl) Tryd.underlying28 rfl (by kernel_rfl)
  try simp only [Act.put, List.setIfInBounds_toArray, List.set_cons_zero, List.set_cons_succ]
  refine h_take 10 (v := .pointer (some ⟨w.heap.size, 0, none⟩)) rfl (by kernel_rfl) (by kernel_rfl) (by kernel_rfl) (fun _ _ _ h => h) (by rfl) ?hyr0_10 (by assumption) ?_
  case hyr0_10 =>
    intro w' hSw
    clear hSw
    go_simp
  try simp only [Act.put, List.setIfInBounds_toArray, List.set_cons_zero, List.set_cons_succ]
  refine h_take 11 (v := .pointer (some ⟨w.heap.size, 10, none⟩)) rfl (by kernel_rfl) (by kernel_rfl) (by kernel_rfl) (fun _ _ _ h => h) (by rfl) ?hyr0_11 (by assumption) ?_
  case hyr0_11 =>
    intro w' hSw
    clear hSw
    go_simp
  try simp only [Act.put, List.setIfInBounds_toArray, List.set_cons_zero, List.set_cons_succ]
  refine h_take 12 (v := .agg #[.int .u64 pz0, .int .u64 pz1, .int .u64 pz2, .int .u64 pz3, .int .u64 pz4]) rfl (by kernel_rfl) (by kernel_rfl) (by kernel_rfl) (fun _ _ _ h => h) (by rfl) ?hyr0_12 (by assumption) ?_
  case hyr0_12 =>
    intro w' hSw
    exact load_run 28 _ rfl _ 10 rfl _ _ (at_mid hSw.1 10 _ rfl) Tryd.underlying28 rfl (by kernel_rfl)
  try simp only [Act.put, List.setIfInBounds_toArray, List.set_cons_zero, List.set_cons_succ]
  refine h_call 6 rfl (by kernel_rfl) (by rfl) (fun Kk hK => ?_)
  go_simp
  (refine (Q1.out _).mono ?_)
  rintro e w2 ⟨rfl, g0⟩
  have g : Below w1.heap.size w1 w2 := (Below.refl _ w1).drew.trans g0
  clear g0
  have B2_2 := hid (B2_1.out.below g)
  have B3_2 := hid (B3_1.out.below g)
  have G_2 := hid (G_1.out.trans (g.mono G_1.out.size))
  clear g B2_1 B3_1 G_1
  have K2 := And.intro B2_2.out (B3_2.out)
  go_wp2_with fail
  clear hHeld
  refine hK.out _ _ K2 (fun hHeld => ?_)
  clear hK Kk K2
  try simp only [Act.put, List.setIfInBounds_toArray, List.set_cons_zero, List.set_cons_succ]
  refine h_call 13 rfl (by kernel_rfl) (by rfl) (fun Kk hK => ?_)
  go_simp
  (refine (Q2.out _).mono ?_)
  rintro e w3 ⟨rfl, g0⟩
  have g := g0
  clear g0
  have B2_3 := hid (B2_2.out.below g)
  have B3_3 := hid (B3_2.out.below g)
  have G_3 := hid (G_2.out.trans (g.mono G_2.out.size))
  clear g B2_2 B3_2 G_2
  have K3 := And.intro B2_3.out (B3_3.out)
  go_wp2_with fail
  clear hHeld
  refine hK.out _ _ K3 (fun hHeld => ?_)
  clear hK Kk K3
  try simp only [Act.put, List.setIfInBounds_toArray, List.set_cons_zero, List.set_cons_succ]
  refine h_call 14 rfl (by kernel_rfl) (by rfl) (fun Kk hK => ?_)
  go_simp
  (refine (Q3.out _).mono ?_)
  rintro e w4 ⟨rfl, g0⟩
  have g := g0
  clear g0
  have B2_4 := hid (B2_3.out.below g)
  have B3_4 := hid (B3_3.out.below g)
  have G_4 := hid (G_3.out.trans (g.mono G_3.out.size))
  clear g B2_3 B3_3 G_3
  have K4 := And.intro B2_4.out (B3_4.out)
  go_wp2_with fail
  clear hHeld
  refine hK.out _ _ K4 (fun hHeld => ?_)
  clear hK Kk K4
  try simp only [Act.put, List.setIfInBounds_toArray, List.set_cons_zero, List.set_cons_succ]
  refine h_take 15 (v := .bool false) rfl (by kernel_rfl) (by kernel_rfl) (by kernel_rfl) (fun _ _ _ h => h) (by rfl) ?hyr0_15 (by assumption) ?_
  case hyr0_15 =>
    intro w' hSw
    clear hSw
    go_simp
  try simp only [Act.put, List.setIfInBounds_toArray, List.set_cons_zero, List.set_cons_succ]
  refine h_skip 16 rfl (by kernel_rfl) (by kernel_rfl) (by kernel_rfl) (fun _ _ _ h => h) (by rfl) (by assumption) ?_
  try simp only [Act.put, List.setIfInBounds_toArray, List.set_cons_zero, List.set_cons_succ]
  refine h_skip 17 rfl (by kernel_rfl) (by kernel_rfl) (by kernel_rfl) (fun _ _ _ h => h) (by rfl) (by assumption) ?_
  try simp only [Act.put, List.setIfInBounds_toArray, List.set_cons_zero, List.set_cons_succ]
  refine h_skip 18 rfl (by kernel_rfl) (by kernel_rfl) (by kernel_rfl) (fun _ _ _ h => h) (by rfl) (by assumption) ?_
  try simp only [Act.put, List.setIfInBounds_toArray, List.set_cons_zero, List.set_cons_succ]
  refine h_skip 19 rfl (by kernel_rfl) (by kernel_rfl) (by kernel_rfl) (fun _ _ _ h => h) (by rfl) (by assumption) ?_
  try simp only [Act.put, List.setIfInBounds_toArray, List.set_cons_zero, List.set_cons_succ]
  refine h_skip 20 rfl (by kernel_rfl) (by kernel_rfl) (by kernel_rfl) (fun _ _ _ h => h) (by rfl) (by assumption) ?_
  try simp only [Act.put, List.setIfInBounds_toArray, List.set_cons_zero, List.set_cons_succ]
  refine h_skip 21 rfl (by kernel_rfl) (by kernel_rfl) (by kernel_rfl) (fun _ _ _ h => h) (by rfl) (by assumption) ?_
  try simp only [Act.put, List.setIfInBounds_toArray, List.set_cons_zero, List.set_cons_succ]
  refine h_skip 22 rfl (by kernel_rfl) (by kernel_rfl) (by kernel_rfl) (fun _ _ _ h => h) (by rfl) (by assumption) ?_
  try simp only [Act.put, List.setIfInBounds_toArray, List.set_cons_zero, List.set_cons_succ]
  refine h_skip 23 rfl (by kernel_rfl) (by kernel_rfl) (by kernel_rfl) (fun _ _ _ h => h) (by rfl) (by assumption) ?_
  try simp only [Act.put, List.setIfInBounds_toArray, List.set_cons_zero, List.set_cons_succ]
  refine h_skip 24 rfl (by kernel_rfl) (by kernel_rfl) (by kernel_rfl) (fun _ _ _ h => h) (by rfl) (by assumption) ?_
  try simp only [Act.put, List.setIfInBounds_toArray, List.set_cons_zero, List.set_cons_succ]
  refine h_skip 25 rfl (by kernel_rfl) (by kernel_rfl) (by kernel_rfl) (fun _ _ _ h => h) (by rfl) (by assumption) ?_
  try simp only [Act.put, List.setIfInBounds_toArray, List.set_cons_zero, List.set_cons_succ]
  refine h_skip 26 rfl (by kernel_rfl) (by kernel_rfl) (by kernel_rfl) (fun _ _ _ h => h) (by rfl) (by assumption) ?_
  try simp only [Act.put, List.setIfInBounds_toArray, List.set_cons_zero, List.set_cons_succ]
  refine h_skip 27 rfl (by kernel_rfl) (by kernel_rfl) (by kernel_rfl) (fun _ _ _ h => h) (by rfl) (by assumption) ?_
  try simp only [Act.put, List.setIfInBounds_toArray, List.set_cons_zero, List.set_cons_succ]
  refine h_skip 28 rfl (by kernel_rfl) (by kernel_rfl) (by kernel_rfl) (fun _ _ _ h => h) (by rfl) (by assumption) ?_
  try simp only [Act.put, List.setIfInBounds_toArray, List.set_cons_zero, List.set_cons_succ]
  refine h_skip 29 rfl (by kernel_rfl) (by kernel_rfl) (by kernel_rfl) (fun _ _ _ h => h) (by rfl) (by assumption) ?_
  try simp only [Act.put, List.setIfInBounds_toArray, List.set_cons_zero, List.set_cons_succ]
  refine h_skip 30 rfl (by kernel_rfl) (by kernel_rfl) (by kernel_rfl) (fun _ _ _ h => h) (by rfl) (by assumption) ?_
  try simp only [Act.put, List.setIfInBounds_toArray, List.set_cons_zero, List.set_cons_succ]
  refine h_take 31 (v := .bool false) rfl (by kernel_rfl) (by kernel_rfl) (by kernel_rfl) (fun _ _ _ h => h) (by rfl) ?hyr0_31 (by assumption) ?_
  case hyr0_31 =>
    intro w' hSw
    clear hSw
    go_simp
  try simp only [Act.put, List.setIfInBounds_toArray, List.set_cons_zero, List.set_cons_succ]
  refine h_take 32 (v := .bool false) rfl (by kernel_rfl) (by kernel_rfl) (by kernel_rfl) (fun _ _ _ h => h) (by rfl) ?hyr0_32 (by assumption) ?_
  case hyr0_32 =>
    intro w' hSw
    clear hSw
    go_simp
  try simp only [Act.put, List.setIfInBounds_toArray, List.set_cons_zero, List.set_cons_succ]
  refine wpAnyH_done (by kernel_rfl) ?_ _
  clear hHeld
  go_wp2_with fail
  go_ret
  exact ⟨rfl, G_4.out⟩
end Go.Proofs.YtedhfimjcpbcpaaDoor.Ed

/-
  The program's Pair of layer 10: the walk, given what each call answers. Conditions: as each theorem says.
-/
namespace Go.Proofs.YtedhfimjcpbcpaaDoor.Ed
open Go.RowKit
set_option linter.unusedVariables false
set_option linter.unusedSimpArgs false

set_option maxRecDepth 100000 in
set_option maxHeartbeats 8000000 in
theorem pair_w (px py pz pt iv ra rb : L5)
    (Q1 : Hid (∀ w : World, Calls Tryd.prog 94 #[.agg #[.int .u64 pz.l0, .int .u64 pz.l1, .int .u64 pz.l2, .int .u64 pz.l3, .int .u64 pz.l4]] w fun e w' => e = .returned (.agg #[.int .u64 iv.l0, .int .u64 iv.l1, .int .u64 iv.l2, .int .u64 iv.l3, .int .u64 iv.l4]) ∧ Below w.heap.size w w'))
    (Q2 : Hid (∀ w : World, Calls Tryd.prog 66 #[.agg #[.int .u64 px.l0, .int .u64 px.l1, .int .u64 px.l2, .int .u64 px.l3, .int .u64 px.l4], .agg #[.int .u64 iv.l0, .int .u64 iv.l1, .int .u64 iv.l2, .int .u64 iv.l3, .int .u64 iv.l4]] w fun e w' => e = .returned (.agg #[.int .u64 ra.l0, .int .u64 ra.l1, .int .u64 ra.l2, .int .u64 ra.l3, .int .u64 ra.l4]) ∧ Below w.heap.size w w'))
    (Q3 : Hid (∀ w : World, Calls Tryd.prog 66 #[.agg #[.int .u64 py.l0, .int .u64 py.l1, .int .u64 py.l2, .int .u64 py.l3, .int .u64 py.l4], .agg #[.int .u64 iv.l0, .int .u64 iv.l1, .int .u64 iv.l2, .int .u64 iv.l3, .int .u64 iv.l4]] w fun e w' => e = .returned (.agg #[.int .u64 rb.l0, .int .u64 rb.l1, .int .u64 rb.l2, .int .u64 rb.l3, .int .u64 rb.l4]) ∧ Below w.heap.size w w'))
    (w : World) :
    Calls Tryd.prog 54 #[.agg #[.int .u64 px.l0, .int .u64 px.l1, .int .u64 px.l2, .int .u64 px.l3, .int .u64 px.l4, .int .u64 py.l0, .int .u64 py.l1, .int .u64 py.l2, .int .u64 py.l3, .int .u64 py.l4, .int .u64 pz.l0, .int .u64 pz.l1, .int .u64 pz.l2, .int .u64 pz.l3, .int .u64 pz.l4, .int .u64 pt.l0, .int .u64 pt.l1, .int .u64 pt.l2, .int .u64 pt.l3, .int .u64 pt.l4]] w fun e w' => e = .returned (.tuple #[.agg #[.int .u64 ra.l0, .int .u64 ra.l1, .int .u64 ra.l2, .int .u64 ra.l3, .int .u64 ra.l4], .agg #[.int .u64 rb.l0, .int .u64 rb.l1, .int .u64 rb.l2, .int .u64 rb.l3, .int .u64 rb.l4]]) ∧ Below w.heap.size w w' := by
  obtain ⟨px0, px1, px2, px3, px4⟩ := px
  obtain ⟨py0, py1, py2, py3, py4⟩ := py
  obtain ⟨pz0, pz1, pz2, pz3, pz4⟩ := pz
  obtain ⟨pt0, pt1, pt2, pt3, pt4⟩ := pt
  obtain ⟨iv0, iv1, iv2, iv3, iv4⟩ := iv
  obtain ⟨ra0, ra1, ra2, ra3, ra4⟩ := ra
  obtain ⟨rb0, rb1, rb2, rb3, rb4⟩ := rb
  dsimp only at Q1 Q2 Q3 ⊢
  go_enter Tryd.func54, Tryd.ntmps54
  go_upto_region 1 with fail
  refine wp_cut (fun V => At 32 V w.heap.size [.int .u64 px0, .int .u64 px1, .int .u64 px2, .int .u64 px3, .int .u64 px4, .int .u64 py0, .int .u64 py1, .int .u64 py2, .int .u64 py3, .int .u64 py4, .int .u64 pz0, .int .u64 pz1, .int .u64 pz2, .int .u64 pz3, .int .u64 pz4, .int .u64 pt0, .int .u64 pt1, .int .u64 pt2, .int .u64 pt3, .int .u64 pt4] ∧ At 28 V (w.heap.size + 1) [.int .u64 0, .int .u64 0, .int .u64 0, .int .u64 0, .int .u64 0] ∧ At 28 V (w.heap.size + 1 + 1) [.int .u64 0, .int .u64 0, .int .u64 0, .int .u64 0, .int .u64 0] ∧ Below w.heap.size w V) ⟨?_, ?_, ?_, ?_⟩ ?_
  · (repeat (first | refine At.drew ?_ | refine At.drewN ?_ _ | (refine at_new2 _ _ _ _ ?_; simp; done) | refine at_alloc ?_ _))
  · (repeat (first | refine At.drew ?_ | refine At.drewN ?_ _ | (refine at_new2 _ _ _ _ ?_; simp; done) | refine at_alloc ?_ _))
  · (repeat (first | refine At.drew ?_ | refine At.drewN ?_ _ | (refine at_new2 _ _ _ _ ?_; simp; done) | refine at_alloc ?_ _))
  · (repeat (first | exact Below.refl _ _ | refine Below.drew ?_ | refine below_drewN ?_ _ | refine Below.alloc ?_ (by simp <;> omega) _))
  rintro w1 ⟨k0, k1, k2, k3⟩
  have B1_1 := hid k0
  have B2_1 := hid k1
  have B3_1 := hid k2
  have G_1 := hid k3
  clear k0 k1 k2 k3
  go_wp2_with (first | (refine wpList_load_mid rfl 28 _ rfl w.heap.size 10 rfl [.int .u64 pz0, .int .u64 pz1, .int .u64 pz2, .int .u64 pz3, .int .u64 pz4] _ (at_mid B1_1.out 10 _ rfl) Tryd.underlying28 rfl (by kernel_rfl) ?_) | fail)
  refine (Q1.out _).mono ?_
  rintro e w2 ⟨rfl, g0⟩
  have g := g0
  clear g0
  have B1_2 := hid (B1_1.out.below g)
  have B2_2 := hid (B2_1.out.below g)
  have B3_2 := hid (B3_1.out.below g)
  have G_2 := hid (G_1.out.trans (g.mono G_1.out.size))
  clear g B1_1 B2_1 B3_1 G_1
  go_wp2_with fail
  refine wp_cut (fun V => At 32 V w.heap.size [.int .u64 px0, .int .u64 px1, .int .u64 px2, .int .u64 px3, .int .u64 px4, .int .u64 py0, .int .u64 py1, .int .u64 py2, .int .u64 py3, .int .u64 py4, .int .u64 pz0, .int .u64 pz1, .int .u64 pz2, .int .u64 pz3, .int .u64 pz4, .int .u64 pt0, .int .u64 pt1, .int .u64 pt2, .int .u64 pt3, .int .u64 pt4] ∧ At 28 V (w.heap.size + 1) [.int .u64 0, .int .u64 0, .int .u64 0, .int .u64 0, .int .u64 0] ∧ At 28 V (w.heap.size + 1 + 1) [.int .u64 0, .int .u64 0, .int .u64 0, .int .u64 0, .int .u64 0] ∧ At 28 V w2.heap.size [.int .u64 iv0, .int .u64 iv1, .int .u64 iv2, .int .u64 iv3, .int .u64 iv4] ∧ Below w.heap.size w V) ⟨(at_alloc B1_2.out _), (at_alloc B2_2.out _), (at_alloc B3_2.out _), (at_new2 _ _ _ _ (by simp)), (G_2.out.alloc (by have := G_2.out.size; simp <;> omega) _)⟩ ?_
  have szB4 : w.heap.size ≤ w2.heap.size := by have := G_2.out.size; omega
  have nlB1B4 : w.heap.size < w2.heap.size := by have := B1_2.out.lt; omega
  have nlB2B4 : (w.heap.size + 1) < w2.heap.size := by have := B2_2.out.lt; omega
  have nlB3B4 : (w.heap.size + 1 + 1) < w2.heap.size := by have := B3_2.out.lt; omega
  rintro w3 ⟨k0, k1, k2, k3, k4⟩
  have B1_3 := hid k0
  have B2_3 := hid k1
  have B3_3 := hid k2
  have B4_3 := hid k3
  have G_3 := hid k4
  clear k0 k1 k2 k3 k4 B1_2 B2_2 B3_2 G_2
  go_wp2_with fail
  have K3 : At 32 w3.drew w.heap.size [.int .u64 px0, .int .u64 px1, .int .u64 px2, .int .u64 px3, .int .u64 px4, .int .u64 py0, .int .u64 py1, .int .u64 py2, .int .u64 py3, .int .u64 py4, .int .u64 pz0, .int .u64 pz1, .int .u64 pz2, .int .u64 pz3, .int .u64 pz4, .int .u64 pt0, .int .u64 pt1, .int .u64 pt2, .int .u64 pt3, .int .u64 pt4] ∧ At 28 w3.drew w2.heap.size [.int .u64 iv0, .int .u64 iv1, .int .u64 iv2, .int .u64 iv3, .int .u64 iv4] := And.intro B1_3.out.drew (B4_3.out.drew)
  refine wp_region_held_drew (S := fun w' => At 32 w' w.heap.size [.int .u64 px0, .int .u64 px1, .int .u64 px2, .int .u64 px3, .int .u64 px4, .int .u64 py0, .int .u64 py1, .int .u64 py2, .int .u64 py3, .int .u64 py4, .int .u64 pz0, .int .u64 pz1, .int .u64 pz2, .int .u64 pz3, .int .u64 pz4, .int .u64 pt0, .int .u64 pt1, .int .u64 pt2, .int .u64 pt3, .int .u64 pt4] ∧ At 28 w' w2.heap.size [.int .u64 iv0, .int .u64 iv1, .int .u64 iv2, .int .u64 iv3, .int .u64 iv4]) (by kernel_rfl) K3 (fun hHeld => ?_)
  clear K3
  refine h_take 0 (v := .pointer (some ⟨w.heap.size, 0, none⟩)) rfl (by kernel_rfl) (by kernel_rfl) (by kernel_rfl) (fun _ _ _ h => h) (by rfl) ?hyr1_0 (by assumption) ?_
  case hyr1_0 =>
    intro w' hSw
    clear hSw
    go_simp
  try simp only [Act.put, List.setIfInBounds_toArray, List.set_cons_zero, List.set_cons_succ]
  refine h_take 1 (v := .pointer (some ⟨w.heap.size, 0, none⟩)) rfl (by kernel_rfl) (by kernel_rfl) (by kernel_rfl) (fun _ _ _ h => h) (by rfl) ?hyr1_1 (by assumption) ?_
  case hyr1_1 =>
    intro w' hSw
    clear hSw
    go_simp
  try simp only [Act.put, List.setIfInBounds_toArray, List.set_cons_zero, List.set_cons_succ]
  refine h_take 2 (v := .agg #[.int .u64 px0, .int .u64 px1, .int .u64 px2, .int .u64 px3, .int .u64 px4]) rfl (by kernel_rfl) (by kernel_rfl) (by kernel_rfl) (fun _ _ _ h => h) (by rfl) ?hyr1_2 (by assumption) ?_
  case hyr1_2 =>
    intro w' hSw
    exact load_run 28 _ rfl _ 0 rfl _ _ (at_mid hSw.1 0 _ rfl) Tryd.underlying28 rfl (by kernel_rfl)
  try simp only [Act.put, List.setIfInBounds_toArray, List.set_cons_zero, List.set_cons_succ]
  refine h_take 3 (v := .agg #[.int .u64 iv0, .int .u64 iv1, .int .u64 iv2, .int .u64 iv3, .int .u64 iv4]) rfl (by kernel_rfl) (by kernel_rfl) (by kernel_rfl) (fun _ _ _ h => h) (by rfl) ?hyr1_3 (by assumption) ?_
  case hyr1_3 =>
    intro w' hSw
    exact load_run 28 _ rfl _ 0 rfl _ _ (at_mid hSw.2 0 _ rfl) Tryd.underlying28 rfl (by kernel_rfl)
  try simp only [Act.put, List.setIfInBounds_toArray, List.set_cons_zero, List.set_cons_succ]
  refine h_take 5 (v := .pointer (some ⟨w.heap.size, 0, none⟩)) rfl (by kernel_rfl) (by kernel_rfl) (by kernel_rfl) (fun _ _ _ h => h) (by rfl) ?hyr1_5 (by assumption) ?_
  case hyr1_5 =>
    intro w' hSw
    clear hSw
    go_simp
  try simp only [Act.put, List.setIfInBounds_toArray, List.set_cons_zero, List.set_cons_succ]
  refine h_take 6 (v := .pointer (some ⟨w.heap.size, 5, none⟩)) rfl (by kernel_rfl) (by kernel_rfl) (by kernel_rfl) (fun _ _ _ h => h) (by rfl) ?hyr1_6 (by assumption) ?_
  case hyr1_6 =>
    intro w' hSw
    clear hSw
    go_simp
  try simp only [Act.put, List.setIfInBounds_toArray, List.set_cons_zero, List.set_cons_succ]
  refine h_take 7 (v := .agg #[.int .u64 py0, .int .u64 py1, .int .u64 py2, .int .u64 py3, .int .u64 py4]) rfl (by kernel_rfl) (by kernel_rfl) (by kernel_rfl) (fun _ _ _ h => h) (by rfl) ?hyr1_7 (by assumption) ?_
  case hyr1_7 =>
    intro w' hSw
    exact load_run 28 _ rfl _ 5 rfl _ _ (at_mid hSw.1 5 _ rfl) Tryd.underlying28 rfl (by kernel_rfl)
  try simp only [Act.put, List.setIfInBounds_toArray, List.set_cons_zero, List.set_cons_succ]
  refine h_take 8 (v := .agg #[.int .u64 iv0, .int .u64 iv1, .int .u64 iv2, .int .u64 iv3, .int .u64 iv4]) rfl (by kernel_rfl) (by kernel_rfl) (by kernel_rfl) (fun _ _ _ h => h) (by rfl) ?hyr1_8 (by assumption) ?_
  case hyr1_8 =>
    intro w' hSw
    exact load_run 28 _ rfl _ 0 rfl _ _ (at_mid hSw.2 0 _ rfl) Tryd.underlying28 rfl (by kernel_rfl)
  try simp only [Act.put, List.setIfInBounds_toArray, List.set_cons_zero, List.set_cons_succ]
  refine h_call 4 rfl (by kernel_rfl) (by rfl) (fun Kk hK => ?_)
  go_simp
  (refine (Q2.out _).mono ?_)
  rintro e w4 ⟨rfl, g0⟩
  have g : Below w3.heap.size w3 w4 := (Below.refl _ w3).drew.trans g0
  clear g0
  have B1_4 := hid (B1_3.out.below g)
  have B2_4 := hid (B2_3.out.below g)
  have B3_4 := hid (B3_3.out.below g)
  have B4_4 := hid (B4_3.out.below g)
  have G_4 := hid (G_3.out.trans (g.mono G_3.out.size))
  clear g B1_3 B2_3 B3_3 B4_3 G_3
  have K4 := And.intro B1_4.out (B4_4.out)
  go_wp2_with fail
  clear hHeld
  refine hK.out _ _ K4 (fun hHeld => ?_)
  clear hK Kk K4
  try simp only [Act.put, List.setIfInBounds_toArray, List.set_cons_zero, List.set_cons_succ]
  refine h_call 9 rfl (by kernel_rfl) (by rfl) (fun Kk hK => ?_)
  go_simp
  (refine (Q3.out _).mono ?_)
  rintro e w5 ⟨rfl, g0⟩
  have g := g0
  clear g0
  have B1_5 := hid (B1_4.out.below g)
  have B2_5 := hid (B2_4.out.below g)
  have B3_5 := hid (B3_4.out.below g)
  have B4_5 := hid (B4_4.out.below g)
  have G_5 := hid (G_4.out.trans (g.mono G_4.out.size))
  clear g B1_4 B2_4 B3_4 B4_4 G_4
  have K5 := And.intro B1_5.out (B4_5.out)
  go_wp2_with fail
  clear hHeld
  refine hK.out _ _ K5 (fun hHeld => ?_)
  clear hK Kk K5
  try simp only [Act.put, List.setIfInBounds_toArray, List.set_cons_zero, List.set_cons_succ]
  have nbB1B2 : ¬ (w.heap.size = (w.heap.size + 1)) := by omega
  have nbB3B2 : ¬ ((w.heap.size + 1 + 1) = (w.heap.size + 1)) := by omega
  have nbB4B2 : ¬ (w2.heap.size = (w.heap.size + 1)) := by omega
  refine h_call 10 rfl (by kernel_rfl) (by rfl) (fun Kk hK => ?_)
  refine store_oth 28 _ _ rfl (w.heap.size + 1) [.int .u64 ra0, .int .u64 ra1, .int .u64 ra2, .int .u64 ra3, .int .u64 ra4] _ rfl rfl B2_5.out rfl (by kernel_rfl) (by kernel_rfl) (fun w6 hC hO => ?_)
  have B1_6 := hid (hO.at B1_5.out nbB1B2)
  have B2_6 := hid hC
  have B3_6 := hid (hO.at B3_5.out nbB3B2)
  have B4_6 := hid (hO.at B4_5.out nbB4B2)
  have G_6 := hid (Oth.bel G_5.out hO (by omega))
  clear B1_5 B2_5 B3_5 B4_5 G_5 hC hO
  have K6 := And.intro B1_6.out (B4_6.out)
  clear hHeld
  refine hK.out _ _ K6 (fun hHeld => ?_)
  clear hK Kk K6
  try simp only [Act.put, List.setIfInBounds_toArray, List.set_cons_zero, List.set_cons_succ]
  have nbB1B3 : ¬ (w.heap.size = (w.heap.size + 1 + 1)) := by omega
  have nbB2B3 : ¬ ((w.heap.size + 1) = (w.heap.size + 1 + 1)) := by omega
  have nbB4B3 : ¬ (w2.heap.size = (w.heap.size + 1 + 1)) := by omega
  refine h_call 11 rfl (by kernel_rfl) (by rfl) (fun Kk hK => ?_)
  refine store_oth 28 _ _ rfl (w.heap.size + 1 + 1) [.int .u64 rb0, .int .u64 rb1, .int .u64 rb2, .int .u64 rb3, .int .u64 rb4] _ rfl rfl B3_6.out rfl (by kernel_rfl) (by kernel_rfl) (fun w7 hC hO => ?_)
  have B1_7 := hid (hO.at B1_6.out nbB1B3)
  have B2_7 := hid (hO.at B2_6.out nbB2B3)
  have B3_7 := hid hC
  have B4_7 := hid (hO.at B4_6.out nbB4B3)
  have G_7 := hid (Oth.bel G_6.out hO (by omega))
  clear B1_6 B2_6 B3_6 B4_6 G_6 hC hO
  have K7 := And.intro B1_7.out (B4_7.out)
  clear hHeld
  refine hK.out _ _ K7 (fun hHeld => ?_)
  clear hK Kk K7
  try simp only [Act.put, List.setIfInBounds_toArray, List.set_cons_zero, List.set_cons_succ]
  refine wpAnyH_done (by kernel_rfl) ?_ _
  clear hHeld
  go_wp2_with fail
  exact bodyPost_ret (v := .tuple #[.agg #[.int .u64 ra0, .int .u64 ra1, .int .u64 ra2, .int .u64 ra3, .int .u64 ra4], .agg #[.int .u64 rb0, .int .u64 rb1, .int .u64 rb2, .int .u64 rb3, .int .u64 rb4]]) (results_cc (Tryd.results54) _ w7 (w.heap.size + 1) 0 (w.heap.size + 1 + 1) 0 [.int .u64 ra0, .int .u64 ra1, .int .u64 ra2, .int .u64 ra3, .int .u64 ra4] [.int .u64 rb0, .int .u64 rb1, .int .u64 rb2, .int .u64 rb3, .int .u64 rb4] _ _ rfl rfl B2_7.out.range B3_7.out.range Tryd.underlying28 rfl (by kernel_rfl) Tryd.underlying28 rfl (by kernel_rfl)) rfl ⟨rfl, G_7.out⟩
end Go.Proofs.YtedhfimjcpbcpaaDoor.Ed
