/-
  A number of eight words in memory; the contracts of a ring's Modulus and Wide. Conditions: as each theorem says.
-/
import Derived.Test.YtkaekgjpjnnjpaaRingG
import Derived.Test.YtkaekgjpjnnjpaaRingF
import Derived.Test.YtkaekgjpjnnjpaaRingQ
namespace Go.Proofs.Ytkaekgjpjnnjpaa
open Go.RowKit
set_option linter.unusedVariables false

/-- Block g holds these eight words. -/
structure Bx8 (W : World) (g : Nat) (a0 a1 a2 a3 a4 a5 a6 a7 : Int) : Prop where
  lt : g < W.heap.size
  c0 : W.cell? ⟨g, 0, none⟩ = some (.int .u64 a0)
  c1 : W.cell? ⟨g, 1, none⟩ = some (.int .u64 a1)
  c2 : W.cell? ⟨g, 2, none⟩ = some (.int .u64 a2)
  c3 : W.cell? ⟨g, 3, none⟩ = some (.int .u64 a3)
  c4 : W.cell? ⟨g, 4, none⟩ = some (.int .u64 a4)
  c5 : W.cell? ⟨g, 5, none⟩ = some (.int .u64 a5)
  c6 : W.cell? ⟨g, 6, none⟩ = some (.int .u64 a6)
  c7 : W.cell? ⟨g, 7, none⟩ = some (.int .u64 a7)
theorem Bx8.below {W W' : World} {g : Nat} {a0 a1 a2 a3 a4 a5 a6 a7 : Int} (h : Bx8 W g a0 a1 a2 a3 a4 a5 a6 a7) (hb : Below W.heap.size W W') : Bx8 W' g a0 a1 a2 a3 a4 a5 a6 a7 :=
  ⟨Nat.lt_of_lt_of_le h.lt hb.size, (hb.cell (p := ⟨g, 0, none⟩) h.lt).trans h.c0, (hb.cell (p := ⟨g, 1, none⟩) h.lt).trans h.c1, (hb.cell (p := ⟨g, 2, none⟩) h.lt).trans h.c2, (hb.cell (p := ⟨g, 3, none⟩) h.lt).trans h.c3, (hb.cell (p := ⟨g, 4, none⟩) h.lt).trans h.c4, (hb.cell (p := ⟨g, 5, none⟩) h.lt).trans h.c5, (hb.cell (p := ⟨g, 6, none⟩) h.lt).trans h.c6, (hb.cell (p := ⟨g, 7, none⟩) h.lt).trans h.c7⟩
theorem Bx8.alloc {W : World} {g : Nat} {a0 a1 a2 a3 a4 a5 a6 a7 : Int} (h : Bx8 W g a0 a1 a2 a3 a4 a5 a6 a7) (o : Obj) : Bx8 (W.alloc o) g a0 a1 a2 a3 a4 a5 a6 a7 := h.below (Below.alloc (Below.refl _ _) (Nat.le_refl _) o)
theorem Bx8.drew {W : World} {g : Nat} {a0 a1 a2 a3 a4 a5 a6 a7 : Int} (h : Bx8 W g a0 a1 a2 a3 a4 a5 a6 a7) : Bx8 W.drew g a0 a1 a2 a3 a4 a5 a6 a7 := h.below (Below.refl _ _).drew
theorem Bx8.new_at (W : World) (g : Nat) (a0 a1 a2 a3 a4 a5 a6 a7 : Int) (t : TypeId) (h : g = W.heap.size) : Bx8 (W.alloc (.cells #[.int .u64 a0, .int .u64 a1, .int .u64 a2, .int .u64 a3, .int .u64 a4, .int .u64 a5, .int .u64 a6, .int .u64 a7] t)) g a0 a1 a2 a3 a4 a5 a6 a7 := by
  subst h
  exact ⟨by simp, by simp, by simp, by simp, by simp, by simp, by simp, by simp, by simp⟩

theorem eight_split (x : Nat) : ∃ a0 a1 a2 a3 a4 a5 a6 a7 : Int, eight x = .agg #[.int .u64 a0, .int .u64 a1, .int .u64 a2, .int .u64 a3, .int .u64 a4, .int .u64 a5, .int .u64 a6, .int .u64 a7] ∧ four (x % M4) = .agg #[.int .u64 a0, .int .u64 a1, .int .u64 a2, .int .u64 a3] ∧ four (x / M4) = .agg #[.int .u64 a4, .int .u64 a5, .int .u64 a6, .int .u64 a7] := by
  refine ⟨_, _, _, _, _, _, _, _, rfl, ?_, ?_⟩
  · unfold four M4
    have e0 : x % 115792089237316195423570985008687907853269984665640564039457584007913129639936 % 18446744073709551616 = x % 18446744073709551616 := by omega
    have e1 : x % 115792089237316195423570985008687907853269984665640564039457584007913129639936 / 18446744073709551616 % 18446744073709551616 = x / 18446744073709551616 % 18446744073709551616 := by omega
    have e2 : x % 115792089237316195423570985008687907853269984665640564039457584007913129639936 / 340282366920938463463374607431768211456 % 18446744073709551616 = x / 340282366920938463463374607431768211456 % 18446744073709551616 := by omega
    have e3 : x % 115792089237316195423570985008687907853269984665640564039457584007913129639936 / 6277101735386680763835789423207666416102355444464034512896 % 18446744073709551616 = x / 6277101735386680763835789423207666416102355444464034512896 % 18446744073709551616 := by omega
    rw [e0, e1, e2, e3]
  · unfold four M4
    have e1 : x / 115792089237316195423570985008687907853269984665640564039457584007913129639936 / 18446744073709551616 = x / 2135987035920910082395021706169552114602704522356652769947041607822219725780640550022962086936576 := by rw [Nat.div_div_eq_div_mul]
    have e2 : x / 115792089237316195423570985008687907853269984665640564039457584007913129639936 / 340282366920938463463374607431768211456 = x / 39402006196394479212279040100143613805079739270465446667948293404245721771497210611414266254884915640806627990306816 := by rw [Nat.div_div_eq_div_mul]
    have e3 : x / 115792089237316195423570985008687907853269984665640564039457584007913129639936 / 6277101735386680763835789423207666416102355444464034512896 = x / 726838724295606890549323807888004534353641360687318060281490199180639288113397923326191050713763565560762521606266177933534601628614656 := by rw [Nat.div_div_eq_div_mul]
    rw [e1, e2, e3]

set_option maxHeartbeats 1000000 in
theorem modulus_ring (W : World) (b m : Nat) (hM : Md W b m) :
    Calls Try.prog 11 #[.pointer (some ⟨b, 0, none⟩)] W fun e w' => e = .returned (four m) ∧ Below W.heap.size W w' := by
  have HM : Hid (Md W b m) := hM
  obtain ⟨h1, h2, h3, m0, m1, m2, m3, f, k0, k1, k2, k3, k4, k5, k6, k7, k8⟩ := hM
  rw [k5]
  obtain ⟨l, c0, c1, c2, c3, c4⟩ := k8
  have l1 : b < W.heap.size + 1 := by omega
  have n0 : ¬ b = W.heap.size := by omega
  clear k5 k6 k7
  go_enter Try.func11, Try.ntmps11
  go_wp2_with fail
  refine (made_any _ b m (HM.out.below (by (repeat (first | exact Below.refl _ _ | refine Below.drew ?_ | refine Below.alloc ?_ (by first | omega | (simp <;> omega)) _ | refine Below.setCell ?_ (by first | omega | (simp <;> omega)) _)); done))).mono ?_
  rintro e w9 ⟨rfl, hw⟩
  rw [hw]
  clear hw w9
  go_wp2_with fail
  refine bodyPost_ret (v := .agg #[.int .u64 m0, .int .u64 m1, .int .u64 m2, .int .u64 m3]) (by simp [results, Try.results11, go_sem]) rfl ⟨rfl, ?_⟩
  exact (by (repeat (first | exact Below.refl _ _ | refine Below.drew ?_ | refine Below.alloc ?_ (by first | omega | (simp <;> omega)) _ | refine Below.setCell ?_ (by first | omega | (simp <;> omega)) _)); done)

set_option maxHeartbeats 1000000 in
theorem wide_none (W : World) (x : Nat) :
    Calls Try.prog 15 #[.pointer none, eight x] W fun e w' => e = .returned (.agg #[.int .u64 0, .int .u64 0, .int .u64 0, .int .u64 0]) ∧ Below W.heap.size W w' := by
  obtain ⟨a0, a1, a2, a3, a4, a5, a6, a7, ex, -, -⟩ := eight_split x
  rw [ex]
  clear ex
  go_enter Try.func15, Try.ntmps15
  go_wp2_with fail
  refine (made_none _).mono ?_
  rintro e w9 ⟨rfl, hw⟩
  rw [hw]
  clear hw w9
  go_wp2_with fail
  refine bodyPost_ret (v := .agg #[.int .u64 0, .int .u64 0, .int .u64 0, .int .u64 0]) (by simp [results, Try.results15, go_sem]) rfl ⟨rfl, ?_⟩
  exact (by (repeat (first | exact Below.refl _ _ | refine Below.drew ?_ | refine Below.alloc ?_ (by first | omega | (simp <;> omega)) _ | refine Below.setCell ?_ (by first | omega | (simp <;> omega)) _)); done)

theorem wide_mod (x m : Nat) : (x / M4 * M4 % m + x % M4 % m) % m = x % m := by
  rw [← Nat.add_mod, Nat.mul_comm, Nat.div_add_mod]

set_option maxHeartbeats 4000000 in
theorem wide_ring (W : World) (b m x : Nat) (hR : Rg W b m) (hx : x < M4 * M4) :
    Calls Try.prog 15 #[.pointer (some ⟨b, 0, none⟩), eight x] W fun e w' => e = .returned (four (x % m)) ∧ Below W.heap.size W w' := by
  have HR : Hid (Rg W b m) := hR
  obtain ⟨⟨h1, h2, h3, -⟩, -, -⟩ := hR
  obtain ⟨a0, a1, a2, a3, a4, a5, a6, a7, ex, el, eh⟩ := eight_split x
  have hlo : x % M4 < M4 := Nat.mod_lt _ M4_pos
  have hhi : x / M4 < M4 := Nat.div_lt_of_lt_mul hx
  have hp : x / M4 * M4 % m < M4 := Nat.lt_trans (Nat.mod_lt _ (by omega)) h3
  have hq : x % M4 % m < M4 := Nat.lt_trans (Nat.mod_lt _ (by omega)) h3
  have hz : x % m < M4 := Nat.lt_trans (Nat.mod_lt _ (by omega)) h3
  obtain ⟨p0, p1, p2, p3, -, -, -, -, ep, -⟩ := four_open _ hp
  obtain ⟨q0, q1, q2, q3, -, -, -, -, eq, -⟩ := four_open _ hq
  obtain ⟨z0, z1, z2, z3, -, -, -, -, ez, -⟩ := four_open _ hz
  have C1 : Hid (∀ w, Below W.heap.size W w → Calls Try.prog 39 #[.pointer (some ⟨b, 0, none⟩), .agg #[.int .u64 a4, .int .u64 a5, .int .u64 a6, .int .u64 a7]] w fun e w' => e = .returned (.agg #[.int .u64 p0, .int .u64 p1, .int .u64 p2, .int .u64 p3]) ∧ Below w.heap.size w w') := by
    intro w hw; have := numeral_any w b m (x / M4) (HR.out.below hw) hhi; rwa [eh, ep] at this
  have C2 : Hid (∀ w, Below W.heap.size W w → Calls Try.prog 36 #[.pointer (some ⟨b, 0, none⟩), .agg #[.int .u64 a0, .int .u64 a1, .int .u64 a2, .int .u64 a3]] w fun e w' => e = .returned (.agg #[.int .u64 q0, .int .u64 q1, .int .u64 q2, .int .u64 q3]) ∧ Below w.heap.size w w') := by
    intro w hw; have := reduce_any w b m (x % M4) (HR.out.below hw) hlo; rwa [el, eq] at this
  have C3 : Hid (∀ w, Below W.heap.size W w → Calls Try.prog 33 #[.pointer (some ⟨b, 0, none⟩), .agg #[.int .u64 p0, .int .u64 p1, .int .u64 p2, .int .u64 p3], .agg #[.int .u64 q0, .int .u64 q1, .int .u64 q2, .int .u64 q3]] w fun e w' => e = .returned (.agg #[.int .u64 z0, .int .u64 z1, .int .u64 z2, .int .u64 z3]) ∧ Below w.heap.size w w') := by
    intro w hw; have := addR_ring w b m (x / M4 * M4 % m) (x % M4 % m) (HR.out.1.below hw) (Nat.mod_lt _ (by omega)) (Nat.mod_lt _ (by omega)); rwa [wide_mod, ep, eq, ez] at this
  rw [ex, ez]
  clear ex el eh ep eq ez hlo hhi hp hq hz hx
  go_enter Try.func15, Try.ntmps15
  go_wp2_with fail
  refine (made_any _ b m (HR.out.1.below (by (repeat (first | exact Below.refl _ _ | refine Below.drew ?_ | refine Below.alloc ?_ (by first | omega | (simp <;> omega)) _ | refine Below.setCell ?_ (by first | omega | (simp <;> omega)) _)); done))).mono ?_
  rintro e w9 ⟨rfl, hw⟩
  rw [hw]
  clear hw w9
  go_wp2_with fail
  go_cut [5, 6] (fun s u V => ∃ p q, s = .pointer (some ⟨p, 0, none⟩) ∧ u = .pointer (some ⟨q, 0, none⟩) ∧ Hid (Blk V p a0 a1 a2 a3 ∧ Blk V q a4 a5 a6 a7 ∧ Blk V (W.heap.size + 1) 0 0 0 0 ∧ Below W.heap.size W V))
  case first =>
    go_region_held3 (fun w' => w'.cell? ⟨W.heap.size, 0, none⟩ = some (.int .u64 a0) ∧ w'.cell? ⟨W.heap.size, 1, none⟩ = some (.int .u64 a1) ∧ w'.cell? ⟨W.heap.size, 2, none⟩ = some (.int .u64 a2) ∧ w'.cell? ⟨W.heap.size, 3, none⟩ = some (.int .u64 a3) ∧ w'.cell? ⟨W.heap.size, 4, none⟩ = some (.int .u64 a4) ∧ w'.cell? ⟨W.heap.size, 5, none⟩ = some (.int .u64 a5) ∧ w'.cell? ⟨W.heap.size, 6, none⟩ = some (.int .u64 a6) ∧ w'.cell? ⟨W.heap.size, 7, none⟩ = some (.int .u64 a7)) (first | (simp [go_sem, World.cell?_alloc_past]; done) | go_keep) (fail)
    all_goals
      go_wp2_with fail
      go_meet
      refine ⟨_, _, rfl, rfl, (by (repeat (first | exact Blk.new_at _ _ _ _ _ _ _ (by simp) | refine Blk.drew ?_ | refine Blk.alloc ?_ _)); done), (by (repeat (first | exact Blk.new_at _ _ _ _ _ _ _ (by simp) | refine Blk.drew ?_ | refine Blk.alloc ?_ _)); done), (by (repeat (first | exact Blk.new_at _ _ _ _ _ _ _ (by simp) | refine Blk.drew ?_ | refine Blk.alloc ?_ _)); done), (by (repeat (first | exact Below.refl _ _ | refine Below.drew ?_ | refine Below.alloc ?_ (by first | omega | (simp <;> omega)) _ | refine Below.setCell ?_ (by first | omega | (simp <;> omega)) _)); done)⟩
  case rest =>
  obtain ⟨p, q, rfl, rfl, H⟩ := hcut
  have B0 : Hid (Below W.heap.size W wc) := H.out.2.2.2
  have X0_0 : Hid (Blk wc p a0 a1 a2 a3) := H.out.1
  have X0_1 : Hid (Blk wc q a4 a5 a6 a7) := H.out.2.1
  have X0_2 : Hid (Blk wc (W.heap.size + 1) 0 0 0 0) := H.out.2.2.1
  clear H
  obtain ⟨b0_0, b0_1, b0_2, b0_3, b0_4, b0_5⟩ := X0_0.out
  obtain ⟨b1_0, b1_1, b1_2, b1_3, b1_4, b1_5⟩ := X0_1.out
  obtain ⟨b2_0, b2_1, b2_2, b2_3, b2_4, b2_5⟩ := X0_2.out
  go_wp2_with fail
  go_region_with (first
    | (go_at_call 33; (with_reducible refine (C3.out _ B2.out).mono ?_); (rintro e w3 ⟨rfl, g3⟩; have B3 : Hid (Below W.heap.size W w3) := B2.out.trans (g3.mono B2.out.size); have X3_0 : Hid (Blk w3 p a0 a1 a2 a3) := X2_0.out.below g3; have X3_1 : Hid (Blk w3 q a4 a5 a6 a7) := X2_1.out.below g3; have X3_2 : Hid (Blk w3 (W.heap.size + 1) 0 0 0 0) := X2_2.out.below g3; clear a0_0 a0_1 a0_2 a0_3 a0_4 a0_5 a1_0 a1_1 a1_2 a1_3 a1_4 a1_5 a2_0 a2_1 a2_2 a2_3 a2_4 a2_5; obtain ⟨a0_0, a0_1, a0_2, a0_3, a0_4, a0_5⟩ := X3_0.out; obtain ⟨a1_0, a1_1, a1_2, a1_3, a1_4, a1_5⟩ := X3_1.out; obtain ⟨a2_0, a2_1, a2_2, a2_3, a2_4, a2_5⟩ := X3_2.out; clear g3))
    | (go_at_call 36; (with_reducible refine (C2.out _ B1.out).mono ?_); (rintro e w2 ⟨rfl, g2⟩; have B2 : Hid (Below W.heap.size W w2) := B1.out.trans (g2.mono B1.out.size); have X2_0 : Hid (Blk w2 p a0 a1 a2 a3) := X1_0.out.below g2; have X2_1 : Hid (Blk w2 q a4 a5 a6 a7) := X1_1.out.below g2; have X2_2 : Hid (Blk w2 (W.heap.size + 1) 0 0 0 0) := X1_2.out.below g2; clear a0_0 a0_1 a0_2 a0_3 a0_4 a0_5 a1_0 a1_1 a1_2 a1_3 a1_4 a1_5 a2_0 a2_1 a2_2 a2_3 a2_4 a2_5; obtain ⟨a0_0, a0_1, a0_2, a0_3, a0_4, a0_5⟩ := X2_0.out; obtain ⟨a1_0, a1_1, a1_2, a1_3, a1_4, a1_5⟩ := X2_1.out; obtain ⟨a2_0, a2_1, a2_2, a2_3, a2_4, a2_5⟩ := X2_2.out; clear g2))
    | (go_at_call 39; (with_reducible refine (C1.out _ B0.out.drew).mono ?_); (rintro e w1 ⟨rfl, g1⟩; have B1 : Hid (Below W.heap.size W w1) := B0.out.drew.trans (g1.mono B0.out.size); have X1_0 : Hid (Blk w1 p a0 a1 a2 a3) := X0_0.out.drew.below g1; have X1_1 : Hid (Blk w1 q a4 a5 a6 a7) := X0_1.out.drew.below g1; have X1_2 : Hid (Blk w1 (W.heap.size + 1) 0 0 0 0) := X0_2.out.drew.below g1; obtain ⟨a0_0, a0_1, a0_2, a0_3, a0_4, a0_5⟩ := X1_0.out; obtain ⟨a1_0, a1_1, a1_2, a1_3, a1_4, a1_5⟩ := X1_1.out; obtain ⟨a2_0, a2_1, a2_2, a2_3, a2_4, a2_5⟩ := X1_2.out; clear g1)))
  all_goals
    go_wp2_with fail
    refine bodyPost_ret (v := .agg #[.int .u64 z0, .int .u64 z1, .int .u64 z2, .int .u64 z3]) (by simp [results, Try.results15, go_sem, a2_1, a2_2, a2_3, a2_4]) rfl ⟨rfl, ?_⟩
    have gs := B3.out.size
    repeat (first | exact B3.out | refine Below.setCell ?_ (by first | omega | (simp <;> omega)) _)

end Go.Proofs.Ytkaekgjpjnnjpaa
