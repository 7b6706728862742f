/-
  The contracts of the field's join, power250 and Inv: for tame elements they return tame elements of the powers that the document says, and change no memory that was there. Conditions: as each theorem says.
-/
import Derived.Test.YtedhfimjcpbcpaaDoorKbab
import Derived.Test.YtedhfimjcpbcpaaDoorKbac
import Derived.Test.YtedhfimjcpbcpaaDoorKbaa
namespace Go.Proofs.YtedhfimjcpbcpaaDoor
open Go.RowKit
set_option linter.unusedVariables false
set_option linter.unusedSimpArgs false

set_option maxRecDepth 100000 in
set_option maxHeartbeats 4000000 in
theorem join_fe (x y : L5) (n : Int) (m : Nat) (hx : x.Tm) (hy : y.Tm) (hn : n = (m : Int)) (hm : m ≤ 1000) : ∃ z : L5, z.Tm ∧ z.num % (P25 : Int) = x.num ^ 2 ^ m * y.num % (P25 : Int) ∧ ∀ w : World, Calls Tryd.prog 112 #[.agg #[.int .u64 x.l0, .int .u64 x.l1, .int .u64 x.l2, .int .u64 x.l3, .int .u64 x.l4], .int .i64 n, .agg #[.int .u64 y.l0, .int .u64 y.l1, .int .u64 y.l2, .int .u64 y.l3, .int .u64 y.l4]] w fun e w' => e = .returned (.agg #[.int .u64 z.l0, .int .u64 z.l1, .int .u64 z.l2, .int .u64 z.l3, .int .u64 z.l4]) ∧ Below w.heap.size w w' := by
  obtain ⟨s, hs, es, qs⟩ := square_fe x n hx (by omega) m (by omega)
  obtain ⟨z, hz, ez, qz⟩ := mul_fe s y hs hy
  refine ⟨z, hz, ?_, fun w => ?_⟩
  · rw [ez.out, Int.mul_emod, es.out, ← Int.mul_emod]
  obtain ⟨x0, x1, x2, x3, x4⟩ := x
  obtain ⟨y0, y1, y2, y3, y4⟩ := y
  obtain ⟨s0, s1, s2, s3, s4⟩ := s
  obtain ⟨t0, t1, t2, t3, t4⟩ := z
  dsimp only at qs qz ⊢
  have q1 : Hid (∀ w : World, Calls Tryd.prog 80 #[.agg #[.int .u64 x0, .int .u64 x1, .int .u64 x2, .int .u64 x3, .int .u64 x4], .int .i64 n] w fun e w' => e = .returned (.agg #[.int .u64 s0, .int .u64 s1, .int .u64 s2, .int .u64 s3, .int .u64 s4]) ∧ Below w.heap.size w w') := qs
  have q2 : Hid (∀ w : World, Calls Tryd.prog 66 #[.agg #[.int .u64 s0, .int .u64 s1, .int .u64 s2, .int .u64 s3, .int .u64 s4], .agg #[.int .u64 y0, .int .u64 y1, .int .u64 y2, .int .u64 y3, .int .u64 y4]] w fun e w' => e = .returned (.agg #[.int .u64 t0, .int .u64 t1, .int .u64 t2, .int .u64 t3, .int .u64 t4]) ∧ Below w.heap.size w w') := qz
  clear qs qz es ez hx hy hs hz hn hm
  go_enter Tryd.func112, Tryd.ntmps112
  go_wp2_with fail
  refine wp_cut (fun V => Bl5 V w.heap.size x0 x1 x2 x3 x4 ∧ Bl5 V (w.heap.size + 1) y0 y1 y2 y3 y4 ∧ Bl5 V (w.heap.size + 1 + 1) 0 0 0 0 0 ∧ Below w.heap.size w V) ⟨?_, ?_, ?_, ?_⟩ ?_
  · (repeat (first | refine Bl5.drew ?_ | refine Bl5.drewN ?_ _ | (refine Bl5.new _ _ _ _ _ _ _ _ ?_; simp; done) | refine Bl5.alloc ?_ _))
  · (repeat (first | refine Bl5.drew ?_ | refine Bl5.drewN ?_ _ | (refine Bl5.new _ _ _ _ _ _ _ _ ?_; simp; done) | refine Bl5.alloc ?_ _))
  · (repeat (first | refine Bl5.drew ?_ | refine Bl5.drewN ?_ _ | (refine Bl5.new _ _ _ _ _ _ _ _ ?_; simp; done) | refine Bl5.alloc ?_ _))
  · (repeat (first | exact Below.refl _ _ | refine Below.drew ?_ | refine below_drewN ?_ _ | refine Below.alloc ?_ (by simp <;> omega) _ | refine Below.setCell ?_ (by simp <;> omega) _))
  rintro v1 ⟨k0, k1, k2, k3⟩
  have A_1 : Hid (Bl5 v1 w.heap.size x0 x1 x2 x3 x4) := k0
  have B_1 : Hid (Bl5 v1 (w.heap.size + 1) y0 y1 y2 y3 y4) := k1
  have R_1 : Hid (Bl5 v1 (w.heap.size + 1 + 1) 0 0 0 0 0) := k2
  have G_1 : Hid (Below w.heap.size w v1) := k3
  clear k0 k1 k2 k3
  have K : v1.drew.cell? ⟨w.heap.size, 0, none⟩ = some (.int .u64 x0) ∧ v1.drew.cell? ⟨w.heap.size, 1, none⟩ = some (.int .u64 x1) ∧ v1.drew.cell? ⟨w.heap.size, 2, none⟩ = some (.int .u64 x2) ∧ v1.drew.cell? ⟨w.heap.size, 3, none⟩ = some (.int .u64 x3) ∧ v1.drew.cell? ⟨w.heap.size, 4, none⟩ = some (.int .u64 x4) ∧ v1.drew.cell? ⟨(w.heap.size + 1), 0, none⟩ = some (.int .u64 y0) ∧ v1.drew.cell? ⟨(w.heap.size + 1), 1, none⟩ = some (.int .u64 y1) ∧ v1.drew.cell? ⟨(w.heap.size + 1), 2, none⟩ = some (.int .u64 y2) ∧ v1.drew.cell? ⟨(w.heap.size + 1), 3, none⟩ = some (.int .u64 y3) ∧ v1.drew.cell? ⟨(w.heap.size + 1), 4, none⟩ = some (.int .u64 y4) := ⟨A_1.out.drew.c0, A_1.out.drew.c1, A_1.out.drew.c2, A_1.out.drew.c3, A_1.out.drew.c4, B_1.out.drew.c0, B_1.out.drew.c1, B_1.out.drew.c2, B_1.out.drew.c3, B_1.out.drew.c4⟩
  have A_1' : Hid (Bl5 v1.drew w.heap.size x0 x1 x2 x3 x4) := A_1.out.drew
  have B_1' : Hid (Bl5 v1.drew (w.heap.size + 1) y0 y1 y2 y3 y4) := B_1.out.drew
  have R_1' : Hid (Bl5 v1.drew (w.heap.size + 1 + 1) 0 0 0 0 0) := R_1.out.drew
  have G_1' : Hid (Below w.heap.size w v1.drew) := G_1.out.drew
  have neA : ¬ ((w.heap.size + 1 + 1) = w.heap.size) := by omega
  have neA' : ¬ (w.heap.size = (w.heap.size + 1 + 1)) := by omega
  have neB : ¬ ((w.heap.size + 1 + 1) = (w.heap.size + 1)) := by omega
  have neB' : ¬ ((w.heap.size + 1) = (w.heap.size + 1 + 1)) := by omega
  go_wp2_with fail
  go_region_held3 (fun w' => w'.cell? ⟨w.heap.size, 0, none⟩ = some (.int .u64 x0) ∧ w'.cell? ⟨w.heap.size, 1, none⟩ = some (.int .u64 x1) ∧ w'.cell? ⟨w.heap.size, 2, none⟩ = some (.int .u64 x2) ∧ w'.cell? ⟨w.heap.size, 3, none⟩ = some (.int .u64 x3) ∧ w'.cell? ⟨w.heap.size, 4, none⟩ = some (.int .u64 x4) ∧ w'.cell? ⟨(w.heap.size + 1), 0, none⟩ = some (.int .u64 y0) ∧ w'.cell? ⟨(w.heap.size + 1), 1, none⟩ = some (.int .u64 y1) ∧ w'.cell? ⟨(w.heap.size + 1), 2, none⟩ = some (.int .u64 y2) ∧ w'.cell? ⟨(w.heap.size + 1), 3, none⟩ = some (.int .u64 y3) ∧ w'.cell? ⟨(w.heap.size + 1), 4, none⟩ = some (.int .u64 y4)) (first | with_reducible assumption | go_keep)
    (first
      | (go_at_call 66; have gg := G_2; clear gg; (refine (q2.out _).mono ?_); (rintro e v3 ⟨rfl, g⟩; have A_3 := hold (A_2.out.below g); have B_3 := hold (B_2.out.below g); have R_3 := hold (R_2.out.below g); have G_3 := hold (G_2.out.trans (g.mono G_2.out.size)); clear g; clear K; have K : v3.cell? ⟨w.heap.size, 0, none⟩ = some (.int .u64 x0) ∧ v3.cell? ⟨w.heap.size, 1, none⟩ = some (.int .u64 x1) ∧ v3.cell? ⟨w.heap.size, 2, none⟩ = some (.int .u64 x2) ∧ v3.cell? ⟨w.heap.size, 3, none⟩ = some (.int .u64 x3) ∧ v3.cell? ⟨w.heap.size, 4, none⟩ = some (.int .u64 x4) ∧ v3.cell? ⟨(w.heap.size + 1), 0, none⟩ = some (.int .u64 y0) ∧ v3.cell? ⟨(w.heap.size + 1), 1, none⟩ = some (.int .u64 y1) ∧ v3.cell? ⟨(w.heap.size + 1), 2, none⟩ = some (.int .u64 y2) ∧ v3.cell? ⟨(w.heap.size + 1), 3, none⟩ = some (.int .u64 y3) ∧ v3.cell? ⟨(w.heap.size + 1), 4, none⟩ = some (.int .u64 y4) := ⟨A_3.out.c0, A_3.out.c1, A_3.out.c2, A_3.out.c3, A_3.out.c4, B_3.out.c0, B_3.out.c1, B_3.out.c2, B_3.out.c3, B_3.out.c4⟩; obtain ⟨stl, st0, st1, st2, st3, st4, stf⟩ := R_3.out))
      | (go_at_call 80; have gg := G_1'; clear gg; (refine (q1.out _).mono ?_); (rintro e v2 ⟨rfl, g⟩; have A_2 := hold (A_1'.out.below g); have B_2 := hold (B_1'.out.below g); have R_2 := hold (R_1'.out.below g); have G_2 := hold (G_1'.out.trans (g.mono G_1'.out.size)); clear g; clear K; have K : v2.cell? ⟨w.heap.size, 0, none⟩ = some (.int .u64 x0) ∧ v2.cell? ⟨w.heap.size, 1, none⟩ = some (.int .u64 x1) ∧ v2.cell? ⟨w.heap.size, 2, none⟩ = some (.int .u64 x2) ∧ v2.cell? ⟨w.heap.size, 3, none⟩ = some (.int .u64 x3) ∧ v2.cell? ⟨w.heap.size, 4, none⟩ = some (.int .u64 x4) ∧ v2.cell? ⟨(w.heap.size + 1), 0, none⟩ = some (.int .u64 y0) ∧ v2.cell? ⟨(w.heap.size + 1), 1, none⟩ = some (.int .u64 y1) ∧ v2.cell? ⟨(w.heap.size + 1), 2, none⟩ = some (.int .u64 y2) ∧ v2.cell? ⟨(w.heap.size + 1), 3, none⟩ = some (.int .u64 y3) ∧ v2.cell? ⟨(w.heap.size + 1), 4, none⟩ = some (.int .u64 y4) := ⟨A_2.out.c0, A_2.out.c1, A_2.out.c2, A_2.out.c3, A_2.out.c4, B_2.out.c0, B_2.out.c1, B_2.out.c2, B_2.out.c3, B_2.out.c4⟩))
      | fail)
  clear K neA neA' neB neB'
  go_wp2_with fail
  refine body_cut (fun W => Bl5 W (w.heap.size + 1 + 1) t0 t1 t2 t3 t4 ∧ Below w.heap.size w W) ⟨R_3.out.set t0 t1 t2 t3 t4, ?_⟩ ?_
  · iterate 5 (refine Below.setCell ?_ (by simp <;> omega) _)
    exact G_3.out
  · rintro W ⟨⟨rl, r0, r1, r2, r3, r4, rf⟩, hb⟩
    exact bodyPost_ret (v := .agg #[.int .u64 t0, .int .u64 t1, .int .u64 t2, .int .u64 t3, .int .u64 t4]) (by simp [results, Tryd.results112, go_sem, r0, r1, r2, r3, r4]) rfl ⟨rfl, hb⟩

theorem pow_join (X a b z : Int) (m e1 e2 e3 : Nat) (ha : a % (P25 : Int) = X ^ e1 % (P25 : Int)) (hb : b % (P25 : Int) = X ^ e2 % (P25 : Int)) (hz : z % (P25 : Int) = a ^ 2 ^ m * b % (P25 : Int)) (he : e1 * 2 ^ m + e2 = e3) : z % (P25 : Int) = X ^ e3 % (P25 : Int) := by
  have h1 : a ^ 2 ^ m % (P25 : Int) = (X ^ e1) ^ 2 ^ m % (P25 : Int) := by
    have key : ∀ n : Nat, a ^ n % (P25 : Int) = (X ^ e1) ^ n % (P25 : Int) := by
      intro n
      induction n with
      | zero => rw [Int.pow_zero, Int.pow_zero]
      | succ n ih => rw [Int.pow_succ, Int.pow_succ, Int.mul_emod, ih, ha, ← Int.mul_emod]
    exact key _
  rw [hz, Int.mul_emod, h1, hb, ← Int.mul_emod, ← Int.pow_mul, ← Int.pow_add, he]
theorem pow_base (X : Int) : X % (P25 : Int) = X ^ 1 % (P25 : Int) := by rw [Int.pow_succ, Int.pow_zero, Int.one_mul]
set_option maxRecDepth 100000 in
set_option maxHeartbeats 4000000 in
theorem power250_fe (x : L5) (hx : x.Tm) : ∃ z : L5, z.Tm ∧ Hid (z.num % (P25 : Int) = x.num ^ (2 ^ 250 - 1) % (P25 : Int)) ∧ ∀ w : World, Calls Tryd.prog 113 #[.agg #[.int .u64 x.l0, .int .u64 x.l1, .int .u64 x.l2, .int .u64 x.l3, .int .u64 x.l4]] w fun e w' => e = .returned (.agg #[.int .u64 z.l0, .int .u64 z.l1, .int .u64 z.l2, .int .u64 z.l3, .int .u64 z.l4]) ∧ Below w.heap.size w w' := by
  have vx := pow_base x.num
  obtain ⟨b, hb, ub, kb⟩ := join_fe x x 1 1 hx hx (by decide) (by decide)
  have vb := pow_join x.num _ _ _ 1 (1) (1) (2 ^ 2 - 1) vx vx ub (by decide +kernel)
  obtain ⟨c, hc, uc, kc⟩ := join_fe b b 2 2 hb hb (by decide) (by decide)
  have vc := pow_join x.num _ _ _ 2 (2 ^ 2 - 1) (2 ^ 2 - 1) (2 ^ 4 - 1) vb vb uc (by decide +kernel)
  obtain ⟨d, hd, ud, kd⟩ := join_fe c x 1 1 hc hx (by decide) (by decide)
  have vd := pow_join x.num _ _ _ 1 (2 ^ 4 - 1) (1) (2 ^ 5 - 1) vc vx ud (by decide +kernel)
  obtain ⟨e, he, ue, ke⟩ := join_fe d d 5 5 hd hd (by decide) (by decide)
  have ve := pow_join x.num _ _ _ 5 (2 ^ 5 - 1) (2 ^ 5 - 1) (2 ^ 10 - 1) vd vd ue (by decide +kernel)
  obtain ⟨f, hf, uf, kf⟩ := join_fe e e 10 10 he he (by decide) (by decide)
  have vf := pow_join x.num _ _ _ 10 (2 ^ 10 - 1) (2 ^ 10 - 1) (2 ^ 20 - 1) ve ve uf (by decide +kernel)
  obtain ⟨g, hg, ug, kg⟩ := join_fe f f 20 20 hf hf (by decide) (by decide)
  have vg := pow_join x.num _ _ _ 20 (2 ^ 20 - 1) (2 ^ 20 - 1) (2 ^ 40 - 1) vf vf ug (by decide +kernel)
  obtain ⟨h, hh, uh, kh⟩ := join_fe g e 10 10 hg he (by decide) (by decide)
  have vh := pow_join x.num _ _ _ 10 (2 ^ 40 - 1) (2 ^ 10 - 1) (2 ^ 50 - 1) vg ve uh (by decide +kernel)
  obtain ⟨i, hi, ui, ki⟩ := join_fe h h 50 50 hh hh (by decide) (by decide)
  have vi := pow_join x.num _ _ _ 50 (2 ^ 50 - 1) (2 ^ 50 - 1) (2 ^ 100 - 1) vh vh ui (by decide +kernel)
  obtain ⟨j, hj, uj, kj⟩ := join_fe i i 100 100 hi hi (by decide) (by decide)
  have vj := pow_join x.num _ _ _ 100 (2 ^ 100 - 1) (2 ^ 100 - 1) (2 ^ 200 - 1) vi vi uj (by decide +kernel)
  obtain ⟨t, ht, ut, kt⟩ := join_fe j h 50 50 hj hh (by decide) (by decide)
  have vt := pow_join x.num _ _ _ 50 (2 ^ 200 - 1) (2 ^ 50 - 1) (2 ^ 250 - 1) vj vh ut (by decide +kernel)
  refine ⟨t, ht, vt, fun w => ?_⟩
  obtain ⟨x0, x1, x2, x3, x4⟩ := x
  obtain ⟨b0, b1, b2, b3, b4⟩ := b
  obtain ⟨c0, c1, c2, c3, c4⟩ := c
  obtain ⟨d0, d1, d2, d3, d4⟩ := d
  obtain ⟨e0, e1, e2, e3, e4⟩ := e
  obtain ⟨f0, f1, f2, f3, f4⟩ := f
  obtain ⟨g0, g1, g2, g3, g4⟩ := g
  obtain ⟨h0, h1, h2, h3, h4⟩ := h
  obtain ⟨i0, i1, i2, i3, i4⟩ := i
  obtain ⟨j0, j1, j2, j3, j4⟩ := j
  obtain ⟨t0, t1, t2, t3, t4⟩ := t
  dsimp only at kb kc kd ke kf kg kh ki kj kt ⊢
  have Qb : Hid (∀ w : World, Calls Tryd.prog 112 #[.agg #[.int .u64 x0, .int .u64 x1, .int .u64 x2, .int .u64 x3, .int .u64 x4], .int .i64 1, .agg #[.int .u64 x0, .int .u64 x1, .int .u64 x2, .int .u64 x3, .int .u64 x4]] w fun e w' => e = .returned (.agg #[.int .u64 b0, .int .u64 b1, .int .u64 b2, .int .u64 b3, .int .u64 b4]) ∧ Below w.heap.size w w') := kb
  have Qc : Hid (∀ w : World, Calls Tryd.prog 112 #[.agg #[.int .u64 b0, .int .u64 b1, .int .u64 b2, .int .u64 b3, .int .u64 b4], .int .i64 2, .agg #[.int .u64 b0, .int .u64 b1, .int .u64 b2, .int .u64 b3, .int .u64 b4]] w fun e w' => e = .returned (.agg #[.int .u64 c0, .int .u64 c1, .int .u64 c2, .int .u64 c3, .int .u64 c4]) ∧ Below w.heap.size w w') := kc
  have Qd : Hid (∀ w : World, Calls Tryd.prog 112 #[.agg #[.int .u64 c0, .int .u64 c1, .int .u64 c2, .int .u64 c3, .int .u64 c4], .int .i64 1, .agg #[.int .u64 x0, .int .u64 x1, .int .u64 x2, .int .u64 x3, .int .u64 x4]] w fun e w' => e = .returned (.agg #[.int .u64 d0, .int .u64 d1, .int .u64 d2, .int .u64 d3, .int .u64 d4]) ∧ Below w.heap.size w w') := kd
  have Qe : Hid (∀ w : World, Calls Tryd.prog 112 #[.agg #[.int .u64 d0, .int .u64 d1, .int .u64 d2, .int .u64 d3, .int .u64 d4], .int .i64 5, .agg #[.int .u64 d0, .int .u64 d1, .int .u64 d2, .int .u64 d3, .int .u64 d4]] w fun e w' => e = .returned (.agg #[.int .u64 e0, .int .u64 e1, .int .u64 e2, .int .u64 e3, .int .u64 e4]) ∧ Below w.heap.size w w') := ke
  have Qf : Hid (∀ w : World, Calls Tryd.prog 112 #[.agg #[.int .u64 e0, .int .u64 e1, .int .u64 e2, .int .u64 e3, .int .u64 e4], .int .i64 10, .agg #[.int .u64 e0, .int .u64 e1, .int .u64 e2, .int .u64 e3, .int .u64 e4]] w fun e w' => e = .returned (.agg #[.int .u64 f0, .int .u64 f1, .int .u64 f2, .int .u64 f3, .int .u64 f4]) ∧ Below w.heap.size w w') := kf
  have Qg : Hid (∀ w : World, Calls Tryd.prog 112 #[.agg #[.int .u64 f0, .int .u64 f1, .int .u64 f2, .int .u64 f3, .int .u64 f4], .int .i64 20, .agg #[.int .u64 f0, .int .u64 f1, .int .u64 f2, .int .u64 f3, .int .u64 f4]] w fun e w' => e = .returned (.agg #[.int .u64 g0, .int .u64 g1, .int .u64 g2, .int .u64 g3, .int .u64 g4]) ∧ Below w.heap.size w w') := kg
  have Qh : Hid (∀ w : World, Calls Tryd.prog 112 #[.agg #[.int .u64 g0, .int .u64 g1, .int .u64 g2, .int .u64 g3, .int .u64 g4], .int .i64 10, .agg #[.int .u64 e0, .int .u64 e1, .int .u64 e2, .int .u64 e3, .int .u64 e4]] w fun e w' => e = .returned (.agg #[.int .u64 h0, .int .u64 h1, .int .u64 h2, .int .u64 h3, .int .u64 h4]) ∧ Below w.heap.size w w') := kh
  have Qi : Hid (∀ w : World, Calls Tryd.prog 112 #[.agg #[.int .u64 h0, .int .u64 h1, .int .u64 h2, .int .u64 h3, .int .u64 h4], .int .i64 50, .agg #[.int .u64 h0, .int .u64 h1, .int .u64 h2, .int .u64 h3, .int .u64 h4]] w fun e w' => e = .returned (.agg #[.int .u64 i0, .int .u64 i1, .int .u64 i2, .int .u64 i3, .int .u64 i4]) ∧ Below w.heap.size w w') := ki
  have Qj : Hid (∀ w : World, Calls Tryd.prog 112 #[.agg #[.int .u64 i0, .int .u64 i1, .int .u64 i2, .int .u64 i3, .int .u64 i4], .int .i64 100, .agg #[.int .u64 i0, .int .u64 i1, .int .u64 i2, .int .u64 i3, .int .u64 i4]] w fun e w' => e = .returned (.agg #[.int .u64 j0, .int .u64 j1, .int .u64 j2, .int .u64 j3, .int .u64 j4]) ∧ Below w.heap.size w w') := kj
  have Qt : Hid (∀ w : World, Calls Tryd.prog 112 #[.agg #[.int .u64 j0, .int .u64 j1, .int .u64 j2, .int .u64 j3, .int .u64 j4], .int .i64 50, .agg #[.int .u64 h0, .int .u64 h1, .int .u64 h2, .int .u64 h3, .int .u64 h4]] w fun e w' => e = .returned (.agg #[.int .u64 t0, .int .u64 t1, .int .u64 t2, .int .u64 t3, .int .u64 t4]) ∧ Below w.heap.size w w') := kt
  clear hx vx hb ub kb vb hc uc kc vc hd ud kd vd he ue ke ve hf uf kf vf hg ug kg vg hh uh kh vh hi ui ki vi hj uj kj vj ht ut kt vt
  go_enter Tryd.func113, Tryd.ntmps113
  go_wp2_with fail
  refine calls_at (fun V => Bl5 V w.heap.size x0 x1 x2 x3 x4 ∧ Bl5 V (w.heap.size + 1) 0 0 0 0 0 ∧ Below w.heap.size w V) ⟨?_, ?_, ?_⟩ ?_
  · (repeat (first | refine Bl5.drew ?_ | refine Bl5.drewN ?_ _ | (refine Bl5.new _ _ _ _ _ _ _ _ ?_; simp; done) | refine Bl5.alloc ?_ _))
  · (repeat (first | refine Bl5.drew ?_ | refine Bl5.drewN ?_ _ | (refine Bl5.new _ _ _ _ _ _ _ _ ?_; simp; done) | refine Bl5.alloc ?_ _))
  · (repeat (first | exact Below.refl _ _ | refine Below.drew ?_ | refine below_drewN ?_ _ | refine Below.alloc ?_ (by simp <;> omega) _ | refine Below.setCell ?_ (by simp <;> omega) _))
  rintro v1 ⟨k0, k1, k2⟩
  have X_1 : Hid (Bl5 v1 w.heap.size x0 x1 x2 x3 x4) := k0
  have Rr_1 : Hid (Bl5 v1 (w.heap.size + 1) 0 0 0 0 0) := k1
  have G_1 : Hid (Below w.heap.size w v1) := k2
  clear k0 k1 k2
  refine (Qb.out _).mono ?_
  rintro e v2 ⟨rfl, g⟩
  have X_2 := hold (X_1.out.below g)
  have Rr_2 := hold (Rr_1.out.below g)
  have G_2 := hold (G_1.out.trans (g.mono G_1.out.size))
  clear X_1 Rr_1 G_1 g
  go_wp2_with fail
  refine calls_at (fun V => Bl5 V w.heap.size x0 x1 x2 x3 x4 ∧ Bl5 V (w.heap.size + 1) 0 0 0 0 0 ∧ Bl5 V v2.heap.size b0 b1 b2 b3 b4 ∧ Below w.heap.size w V) ⟨X_2.out.alloc _, Rr_2.out.alloc _, Bl5.new v2 _ _ _ _ _ _ _ rfl, G_2.out.alloc G_2.out.size _⟩ ?_
  rintro v3 ⟨k0, k1, k2, k3⟩
  have X_3 : Hid (Bl5 v3 w.heap.size x0 x1 x2 x3 x4) := k0
  have Rr_3 : Hid (Bl5 v3 (w.heap.size + 1) 0 0 0 0 0) := k1
  have Kb_3 : Hid (Bl5 v3 v2.heap.size b0 b1 b2 b3 b4) := k2
  have G_3 : Hid (Below w.heap.size w v3) := k3
  clear k0 k1 k2 k3 X_2 Rr_2 G_2
  refine (Qc.out _).mono ?_
  rintro e v4 ⟨rfl, g⟩
  have X_4 := hold (X_3.out.below g)
  have Rr_4 := hold (Rr_3.out.below g)
  have Kb_4 := hold (Kb_3.out.below g)
  have G_4 := hold (G_3.out.trans (g.mono G_3.out.size))
  clear X_3 Rr_3 Kb_3 G_3 g
  obtain ⟨cxl, cx0, cx1, cx2, cx3, cx4, cxf⟩ := X_4.out
  go_wp2_with fail
  refine calls_at (fun V => Bl5 V w.heap.size x0 x1 x2 x3 x4 ∧ Bl5 V (w.heap.size + 1) 0 0 0 0 0 ∧ Bl5 V v2.heap.size b0 b1 b2 b3 b4 ∧ Bl5 V v4.heap.size c0 c1 c2 c3 c4 ∧ Below w.heap.size w V) ⟨X_4.out.alloc _, Rr_4.out.alloc _, Kb_4.out.alloc _, Bl5.new v4 _ _ _ _ _ _ _ rfl, G_4.out.alloc G_4.out.size _⟩ ?_
  rintro v5 ⟨k0, k1, k2, k3, k4⟩
  have X_5 : Hid (Bl5 v5 w.heap.size x0 x1 x2 x3 x4) := k0
  have Rr_5 : Hid (Bl5 v5 (w.heap.size + 1) 0 0 0 0 0) := k1
  have Kb_5 : Hid (Bl5 v5 v2.heap.size b0 b1 b2 b3 b4) := k2
  have Kc_5 : Hid (Bl5 v5 v4.heap.size c0 c1 c2 c3 c4) := k3
  have G_5 : Hid (Below w.heap.size w v5) := k4
  clear k0 k1 k2 k3 k4 X_4 Rr_4 Kb_4 G_4
  refine (Qd.out _).mono ?_
  rintro e v6 ⟨rfl, g⟩
  clear cxl cx0 cx1 cx2 cx3 cx4 cxf
  have X_6 := hold (X_5.out.below g)
  have Rr_6 := hold (Rr_5.out.below g)
  have Kb_6 := hold (Kb_5.out.below g)
  have Kc_6 := hold (Kc_5.out.below g)
  have G_6 := hold (G_5.out.trans (g.mono G_5.out.size))
  clear X_5 Rr_5 Kb_5 Kc_5 G_5 g
  go_wp2_with fail
  refine calls_at (fun V => Bl5 V w.heap.size x0 x1 x2 x3 x4 ∧ Bl5 V (w.heap.size + 1) 0 0 0 0 0 ∧ Bl5 V v2.heap.size b0 b1 b2 b3 b4 ∧ Bl5 V v4.heap.size c0 c1 c2 c3 c4 ∧ Bl5 V v6.heap.size d0 d1 d2 d3 d4 ∧ Below w.heap.size w V) ⟨X_6.out.alloc _, Rr_6.out.alloc _, Kb_6.out.alloc _, Kc_6.out.alloc _, Bl5.new v6 _ _ _ _ _ _ _ rfl, G_6.out.alloc G_6.out.size _⟩ ?_
  rintro v7 ⟨k0, k1, k2, k3, k4, k5⟩
  have X_7 : Hid (Bl5 v7 w.heap.size x0 x1 x2 x3 x4) := k0
  have Rr_7 : Hid (Bl5 v7 (w.heap.size + 1) 0 0 0 0 0) := k1
  have Kb_7 : Hid (Bl5 v7 v2.heap.size b0 b1 b2 b3 b4) := k2
  have Kc_7 : Hid (Bl5 v7 v4.heap.size c0 c1 c2 c3 c4) := k3
  have Kd_7 : Hid (Bl5 v7 v6.heap.size d0 d1 d2 d3 d4) := k4
  have G_7 : Hid (Below w.heap.size w v7) := k5
  clear k0 k1 k2 k3 k4 k5 X_6 Rr_6 Kb_6 Kc_6 G_6
  refine (Qe.out _).mono ?_
  rintro e v8 ⟨rfl, g⟩
  have X_8 := hold (X_7.out.below g)
  have Rr_8 := hold (Rr_7.out.below g)
  have Kb_8 := hold (Kb_7.out.below g)
  have Kc_8 := hold (Kc_7.out.below g)
  have Kd_8 := hold (Kd_7.out.below g)
  have G_8 := hold (G_7.out.trans (g.mono G_7.out.size))
  clear X_7 Rr_7 Kb_7 Kc_7 Kd_7 G_7 g
  go_wp2_with fail
  refine calls_at (fun V => Bl5 V w.heap.size x0 x1 x2 x3 x4 ∧ Bl5 V (w.heap.size + 1) 0 0 0 0 0 ∧ Bl5 V v2.heap.size b0 b1 b2 b3 b4 ∧ Bl5 V v4.heap.size c0 c1 c2 c3 c4 ∧ Bl5 V v6.heap.size d0 d1 d2 d3 d4 ∧ Bl5 V v8.heap.size e0 e1 e2 e3 e4 ∧ Below w.heap.size w V) ⟨X_8.out.alloc _, Rr_8.out.alloc _, Kb_8.out.alloc _, Kc_8.out.alloc _, Kd_8.out.alloc _, Bl5.new v8 _ _ _ _ _ _ _ rfl, G_8.out.alloc G_8.out.size _⟩ ?_
  rintro v9 ⟨k0, k1, k2, k3, k4, k5, k6⟩
  have X_9 : Hid (Bl5 v9 w.heap.size x0 x1 x2 x3 x4) := k0
  have Rr_9 : Hid (Bl5 v9 (w.heap.size + 1) 0 0 0 0 0) := k1
  have Kb_9 : Hid (Bl5 v9 v2.heap.size b0 b1 b2 b3 b4) := k2
  have Kc_9 : Hid (Bl5 v9 v4.heap.size c0 c1 c2 c3 c4) := k3
  have Kd_9 : Hid (Bl5 v9 v6.heap.size d0 d1 d2 d3 d4) := k4
  have Ke_9 : Hid (Bl5 v9 v8.heap.size e0 e1 e2 e3 e4) := k5
  have G_9 : Hid (Below w.heap.size w v9) := k6
  clear k0 k1 k2 k3 k4 k5 k6 X_8 Rr_8 Kb_8 Kc_8 Kd_8 G_8
  refine (Qf.out _).mono ?_
  rintro e v10 ⟨rfl, g⟩
  have X_10 := hold (X_9.out.below g)
  have Rr_10 := hold (Rr_9.out.below g)
  have Kb_10 := hold (Kb_9.out.below g)
  have Kc_10 := hold (Kc_9.out.below g)
  have Kd_10 := hold (Kd_9.out.below g)
  have Ke_10 := hold (Ke_9.out.below g)
  have G_10 := hold (G_9.out.trans (g.mono G_9.out.size))
  clear X_9 Rr_9 Kb_9 Kc_9 Kd_9 Ke_9 G_9 g
  go_wp2_with fail
  refine calls_at (fun V => Bl5 V w.heap.size x0 x1 x2 x3 x4 ∧ Bl5 V (w.heap.size + 1) 0 0 0 0 0 ∧ Bl5 V v2.heap.size b0 b1 b2 b3 b4 ∧ Bl5 V v4.heap.size c0 c1 c2 c3 c4 ∧ Bl5 V v6.heap.size d0 d1 d2 d3 d4 ∧ Bl5 V v8.heap.size e0 e1 e2 e3 e4 ∧ Bl5 V v10.heap.size f0 f1 f2 f3 f4 ∧ Below w.heap.size w V) ⟨X_10.out.alloc _, Rr_10.out.alloc _, Kb_10.out.alloc _, Kc_10.out.alloc _, Kd_10.out.alloc _, Ke_10.out.alloc _, Bl5.new v10 _ _ _ _ _ _ _ rfl, G_10.out.alloc G_10.out.size _⟩ ?_
  rintro v11 ⟨k0, k1, k2, k3, k4, k5, k6, k7⟩
  have X_11 : Hid (Bl5 v11 w.heap.size x0 x1 x2 x3 x4) := k0
  have Rr_11 : Hid (Bl5 v11 (w.heap.size + 1) 0 0 0 0 0) := k1
  have Kb_11 : Hid (Bl5 v11 v2.heap.size b0 b1 b2 b3 b4) := k2
  have Kc_11 : Hid (Bl5 v11 v4.heap.size c0 c1 c2 c3 c4) := k3
  have Kd_11 : Hid (Bl5 v11 v6.heap.size d0 d1 d2 d3 d4) := k4
  have Ke_11 : Hid (Bl5 v11 v8.heap.size e0 e1 e2 e3 e4) := k5
  have Kf_11 : Hid (Bl5 v11 v10.heap.size f0 f1 f2 f3 f4) := k6
  have G_11 : Hid (Below w.heap.size w v11) := k7
  clear k0 k1 k2 k3 k4 k5 k6 k7 X_10 Rr_10 Kb_10 Kc_10 Kd_10 Ke_10 G_10
  refine (Qg.out _).mono ?_
  rintro e v12 ⟨rfl, g⟩
  have X_12 := hold (X_11.out.below g)
  have Rr_12 := hold (Rr_11.out.below g)
  have Kb_12 := hold (Kb_11.out.below g)
  have Kc_12 := hold (Kc_11.out.below g)
  have Kd_12 := hold (Kd_11.out.below g)
  have Ke_12 := hold (Ke_11.out.below g)
  have Kf_12 := hold (Kf_11.out.below g)
  have G_12 := hold (G_11.out.trans (g.mono G_11.out.size))
  clear X_11 Rr_11 Kb_11 Kc_11 Kd_11 Ke_11 Kf_11 G_11 g
  obtain ⟨ckel, cke0, cke1, cke2, cke3, cke4, ckef⟩ := Ke_12.out
  go_wp2_with fail
  refine calls_at (fun V => Bl5 V w.heap.size x0 x1 x2 x3 x4 ∧ Bl5 V (w.heap.size + 1) 0 0 0 0 0 ∧ Bl5 V v2.heap.size b0 b1 b2 b3 b4 ∧ Bl5 V v4.heap.size c0 c1 c2 c3 c4 ∧ Bl5 V v6.heap.size d0 d1 d2 d3 d4 ∧ Bl5 V v8.heap.size e0 e1 e2 e3 e4 ∧ Bl5 V v10.heap.size f0 f1 f2 f3 f4 ∧ Bl5 V v12.heap.size g0 g1 g2 g3 g4 ∧ Below w.heap.size w V) ⟨X_12.out.alloc _, Rr_12.out.alloc _, Kb_12.out.alloc _, Kc_12.out.alloc _, Kd_12.out.alloc _, Ke_12.out.alloc _, Kf_12.out.alloc _, Bl5.new v12 _ _ _ _ _ _ _ rfl, G_12.out.alloc G_12.out.size _⟩ ?_
  rintro v13 ⟨k0, k1, k2, k3, k4, k5, k6, k7, k8⟩
  have X_13 : Hid (Bl5 v13 w.heap.size x0 x1 x2 x3 x4) := k0
  have Rr_13 : Hid (Bl5 v13 (w.heap.size + 1) 0 0 0 0 0) := k1
  have Kb_13 : Hid (Bl5 v13 v2.heap.size b0 b1 b2 b3 b4) := k2
  have Kc_13 : Hid (Bl5 v13 v4.heap.size c0 c1 c2 c3 c4) := k3
  have Kd_13 : Hid (Bl5 v13 v6.heap.size d0 d1 d2 d3 d4) := k4
  have Ke_13 : Hid (Bl5 v13 v8.heap.size e0 e1 e2 e3 e4) := k5
  have Kf_13 : Hid (Bl5 v13 v10.heap.size f0 f1 f2 f3 f4) := k6
  have Kg_13 : Hid (Bl5 v13 v12.heap.size g0 g1 g2 g3 g4) := k7
  have G_13 : Hid (Below w.heap.size w v13) := k8
  clear k0 k1 k2 k3 k4 k5 k6 k7 k8 X_12 Rr_12 Kb_12 Kc_12 Kd_12 Ke_12 Kf_12 G_12
  refine (Qh.out _).mono ?_
  rintro e v14 ⟨rfl, g⟩
  clear ckel cke0 cke1 cke2 cke3 cke4 ckef
  have X_14 := hold (X_13.out.below g)
  have Rr_14 := hold (Rr_13.out.below g)
  have Kb_14 := hold (Kb_13.out.below g)
  have Kc_14 := hold (Kc_13.out.below g)
  have Kd_14 := hold (Kd_13.out.below g)
  have Ke_14 := hold (Ke_13.out.below g)
  have Kf_14 := hold (Kf_13.out.below g)
  have Kg_14 := hold (Kg_13.out.below g)
  have G_14 := hold (G_13.out.trans (g.mono G_13.out.size))
  clear X_13 Rr_13 Kb_13 Kc_13 Kd_13 Ke_13 Kf_13 Kg_13 G_13 g
  go_wp2_with fail
  refine calls_at (fun V => Bl5 V w.heap.size x0 x1 x2 x3 x4 ∧ Bl5 V (w.heap.size + 1) 0 0 0 0 0 ∧ Bl5 V v2.heap.size b0 b1 b2 b3 b4 ∧ Bl5 V v4.heap.size c0 c1 c2 c3 c4 ∧ Bl5 V v6.heap.size d0 d1 d2 d3 d4 ∧ Bl5 V v8.heap.size e0 e1 e2 e3 e4 ∧ Bl5 V v10.heap.size f0 f1 f2 f3 f4 ∧ Bl5 V v12.heap.size g0 g1 g2 g3 g4 ∧ Bl5 V v14.heap.size h0 h1 h2 h3 h4 ∧ Below w.heap.size w V) ⟨X_14.out.alloc _, Rr_14.out.alloc _, Kb_14.out.alloc _, Kc_14.out.alloc _, Kd_14.out.alloc _, Ke_14.out.alloc _, Kf_14.out.alloc _, Kg_14.out.alloc _, Bl5.new v14 _ _ _ _ _ _ _ rfl, G_14.out.alloc G_14.out.size _⟩ ?_
  rintro v15 ⟨k0, k1, k2, k3, k4, k5, k6, k7, k8, k9⟩
  have X_15 : Hid (Bl5 v15 w.heap.size x0 x1 x2 x3 x4) := k0
  have Rr_15 : Hid (Bl5 v15 (w.heap.size + 1) 0 0 0 0 0) := k1
  have Kb_15 : Hid (Bl5 v15 v2.heap.size b0 b1 b2 b3 b4) := k2
  have Kc_15 : Hid (Bl5 v15 v4.heap.size c0 c1 c2 c3 c4) := k3
  have Kd_15 : Hid (Bl5 v15 v6.heap.size d0 d1 d2 d3 d4) := k4
  have Ke_15 : Hid (Bl5 v15 v8.heap.size e0 e1 e2 e3 e4) := k5
  have Kf_15 : Hid (Bl5 v15 v10.heap.size f0 f1 f2 f3 f4) := k6
  have Kg_15 : Hid (Bl5 v15 v12.heap.size g0 g1 g2 g3 g4) := k7
  have Kh_15 : Hid (Bl5 v15 v14.heap.size h0 h1 h2 h3 h4) := k8
  have G_15 : Hid (Below w.heap.size w v15) := k9
  clear k0 k1 k2 k3 k4 k5 k6 k7 k8 k9 X_14 Rr_14 Kb_14 Kc_14 Kd_14 Ke_14 Kf_14 Kg_14 G_14
  refine (Qi.out _).mono ?_
  rintro e v16 ⟨rfl, g⟩
  have X_16 := hold (X_15.out.below g)
  have Rr_16 := hold (Rr_15.out.below g)
  have Kb_16 := hold (Kb_15.out.below g)
  have Kc_16 := hold (Kc_15.out.below g)
  have Kd_16 := hold (Kd_15.out.below g)
  have Ke_16 := hold (Ke_15.out.below g)
  have Kf_16 := hold (Kf_15.out.below g)
  have Kg_16 := hold (Kg_15.out.below g)
  have Kh_16 := hold (Kh_15.out.below g)
  have G_16 := hold (G_15.out.trans (g.mono G_15.out.size))
  clear X_15 Rr_15 Kb_15 Kc_15 Kd_15 Ke_15 Kf_15 Kg_15 Kh_15 G_15 g
  go_wp2_with fail
  refine calls_at (fun V => Bl5 V w.heap.size x0 x1 x2 x3 x4 ∧ Bl5 V (w.heap.size + 1) 0 0 0 0 0 ∧ Bl5 V v2.heap.size b0 b1 b2 b3 b4 ∧ Bl5 V v4.heap.size c0 c1 c2 c3 c4 ∧ Bl5 V v6.heap.size d0 d1 d2 d3 d4 ∧ Bl5 V v8.heap.size e0 e1 e2 e3 e4 ∧ Bl5 V v10.heap.size f0 f1 f2 f3 f4 ∧ Bl5 V v12.heap.size g0 g1 g2 g3 g4 ∧ Bl5 V v14.heap.size h0 h1 h2 h3 h4 ∧ Bl5 V v16.heap.size i0 i1 i2 i3 i4 ∧ Below w.heap.size w V) ⟨X_16.out.alloc _, Rr_16.out.alloc _, Kb_16.out.alloc _, Kc_16.out.alloc _, Kd_16.out.alloc _, Ke_16.out.alloc _, Kf_16.out.alloc _, Kg_16.out.alloc _, Kh_16.out.alloc _, Bl5.new v16 _ _ _ _ _ _ _ rfl, G_16.out.alloc G_16.out.size _⟩ ?_
  rintro v17 ⟨k0, k1, k2, k3, k4, k5, k6, k7, k8, k9, k10⟩
  have X_17 : Hid (Bl5 v17 w.heap.size x0 x1 x2 x3 x4) := k0
  have Rr_17 : Hid (Bl5 v17 (w.heap.size + 1) 0 0 0 0 0) := k1
  have Kb_17 : Hid (Bl5 v17 v2.heap.size b0 b1 b2 b3 b4) := k2
  have Kc_17 : Hid (Bl5 v17 v4.heap.size c0 c1 c2 c3 c4) := k3
  have Kd_17 : Hid (Bl5 v17 v6.heap.size d0 d1 d2 d3 d4) := k4
  have Ke_17 : Hid (Bl5 v17 v8.heap.size e0 e1 e2 e3 e4) := k5
  have Kf_17 : Hid (Bl5 v17 v10.heap.size f0 f1 f2 f3 f4) := k6
  have Kg_17 : Hid (Bl5 v17 v12.heap.size g0 g1 g2 g3 g4) := k7
  have Kh_17 : Hid (Bl5 v17 v14.heap.size h0 h1 h2 h3 h4) := k8
  have Ki_17 : Hid (Bl5 v17 v16.heap.size i0 i1 i2 i3 i4) := k9
  have G_17 : Hid (Below w.heap.size w v17) := k10
  clear k0 k1 k2 k3 k4 k5 k6 k7 k8 k9 k10 X_16 Rr_16 Kb_16 Kc_16 Kd_16 Ke_16 Kf_16 Kg_16 Kh_16 G_16
  refine (Qj.out _).mono ?_
  rintro e v18 ⟨rfl, g⟩
  have X_18 := hold (X_17.out.below g)
  have Rr_18 := hold (Rr_17.out.below g)
  have Kb_18 := hold (Kb_17.out.below g)
  have Kc_18 := hold (Kc_17.out.below g)
  have Kd_18 := hold (Kd_17.out.below g)
  have Ke_18 := hold (Ke_17.out.below g)
  have Kf_18 := hold (Kf_17.out.below g)
  have Kg_18 := hold (Kg_17.out.below g)
  have Kh_18 := hold (Kh_17.out.below g)
  have Ki_18 := hold (Ki_17.out.below g)
  have G_18 := hold (G_17.out.trans (g.mono G_17.out.size))
  clear X_17 Rr_17 Kb_17 Kc_17 Kd_17 Ke_17 Kf_17 Kg_17 Kh_17 Ki_17 G_17 g
  obtain ⟨ckhl, ckh0, ckh1, ckh2, ckh3, ckh4, ckhf⟩ := Kh_18.out
  go_wp2_with fail
  refine calls_at (fun V => Bl5 V w.heap.size x0 x1 x2 x3 x4 ∧ Bl5 V (w.heap.size + 1) 0 0 0 0 0 ∧ Bl5 V v2.heap.size b0 b1 b2 b3 b4 ∧ Bl5 V v4.heap.size c0 c1 c2 c3 c4 ∧ Bl5 V v6.heap.size d0 d1 d2 d3 d4 ∧ Bl5 V v8.heap.size e0 e1 e2 e3 e4 ∧ Bl5 V v10.heap.size f0 f1 f2 f3 f4 ∧ Bl5 V v12.heap.size g0 g1 g2 g3 g4 ∧ Bl5 V v14.heap.size h0 h1 h2 h3 h4 ∧ Bl5 V v16.heap.size i0 i1 i2 i3 i4 ∧ Bl5 V v18.heap.size j0 j1 j2 j3 j4 ∧ Below w.heap.size w V) ⟨X_18.out.alloc _, Rr_18.out.alloc _, Kb_18.out.alloc _, Kc_18.out.alloc _, Kd_18.out.alloc _, Ke_18.out.alloc _, Kf_18.out.alloc _, Kg_18.out.alloc _, Kh_18.out.alloc _, Ki_18.out.alloc _, Bl5.new v18 _ _ _ _ _ _ _ rfl, G_18.out.alloc G_18.out.size _⟩ ?_
  rintro v19 ⟨k0, k1, k2, k3, k4, k5, k6, k7, k8, k9, k10, k11⟩
  have X_19 : Hid (Bl5 v19 w.heap.size x0 x1 x2 x3 x4) := k0
  have Rr_19 : Hid (Bl5 v19 (w.heap.size + 1) 0 0 0 0 0) := k1
  have Kb_19 : Hid (Bl5 v19 v2.heap.size b0 b1 b2 b3 b4) := k2
  have Kc_19 : Hid (Bl5 v19 v4.heap.size c0 c1 c2 c3 c4) := k3
  have Kd_19 : Hid (Bl5 v19 v6.heap.size d0 d1 d2 d3 d4) := k4
  have Ke_19 : Hid (Bl5 v19 v8.heap.size e0 e1 e2 e3 e4) := k5
  have Kf_19 : Hid (Bl5 v19 v10.heap.size f0 f1 f2 f3 f4) := k6
  have Kg_19 : Hid (Bl5 v19 v12.heap.size g0 g1 g2 g3 g4) := k7
  have Kh_19 : Hid (Bl5 v19 v14.heap.size h0 h1 h2 h3 h4) := k8
  have Ki_19 : Hid (Bl5 v19 v16.heap.size i0 i1 i2 i3 i4) := k9
  have Kj_19 : Hid (Bl5 v19 v18.heap.size j0 j1 j2 j3 j4) := k10
  have G_19 : Hid (Below w.heap.size w v19) := k11
  clear k0 k1 k2 k3 k4 k5 k6 k7 k8 k9 k10 k11 X_18 Rr_18 Kb_18 Kc_18 Kd_18 Ke_18 Kf_18 Kg_18 Kh_18 Ki_18 G_18
  refine (Qt.out _).mono ?_
  rintro e v20 ⟨rfl, g⟩
  clear ckhl ckh0 ckh1 ckh2 ckh3 ckh4 ckhf
  have X_20 := hold (X_19.out.below g)
  have Rr_20 := hold (Rr_19.out.below g)
  have Kb_20 := hold (Kb_19.out.below g)
  have Kc_20 := hold (Kc_19.out.below g)
  have Kd_20 := hold (Kd_19.out.below g)
  have Ke_20 := hold (Ke_19.out.below g)
  have Kf_20 := hold (Kf_19.out.below g)
  have Kg_20 := hold (Kg_19.out.below g)
  have Kh_20 := hold (Kh_19.out.below g)
  have Ki_20 := hold (Ki_19.out.below g)
  have Kj_20 := hold (Kj_19.out.below g)
  have G_20 := hold (G_19.out.trans (g.mono G_19.out.size))
  clear X_19 Rr_19 Kb_19 Kc_19 Kd_19 Ke_19 Kf_19 Kg_19 Kh_19 Ki_19 Kj_19 G_19 g
  obtain ⟨crrl, crr0, crr1, crr2, crr3, crr4, crrf⟩ := Rr_20.out
  go_wp2_with fail
  refine body_cut (fun W => Bl5 W (w.heap.size + 1) t0 t1 t2 t3 t4 ∧ Below w.heap.size w W) ⟨Rr_20.out.set t0 t1 t2 t3 t4, ?_⟩ ?_
  · iterate 5 (refine Below.setCell ?_ (by simp <;> omega) _)
    exact G_20.out
  · rintro W ⟨⟨rl, r0, r1, r2, r3, r4, rf⟩, hb⟩
    exact bodyPost_ret (v := .agg #[.int .u64 t0, .int .u64 t1, .int .u64 t2, .int .u64 t3, .int .u64 t4]) (by simp [results, Tryd.results113, go_sem, r0, r1, r2, r3, r4]) rfl ⟨rfl, hb⟩

end Go.Proofs.YtedhfimjcpbcpaaDoor

/-
  The contract of the field's Inv: for a tame element it returns a tame element of the power of p - 2, and changes no memory that was there. Conditions: as each theorem says.
-/
namespace Go.Proofs.YtedhfimjcpbcpaaDoor
open Go.RowKit
set_option linter.unusedVariables false
set_option linter.unusedSimpArgs false

theorem bl5_of_heap {W : World} {g : Nat} {v0 v1 v2 v3 v4 : Int} {t : TypeId} (h : W.heap[g]? = some (.cells #[.int .u64 v0, .int .u64 v1, .int .u64 v2, .int .u64 v3, .int .u64 v4] t)) : Bl5 W g v0 v1 v2 v3 v4 := by
  refine ⟨(Array.getElem?_eq_some_iff.1 h).1, ?_, ?_, ?_, ?_, ?_, fun j => ?_⟩ <;> simp [World.cell?, World.frozen?, h]
theorem set_here5 {w : World} {g : Nat} {c : Array Value} {t : TypeId} {fz : Nat × Nat} (i : Nat) (v : Value) (h : w.heap[g]? = some (.cells c t fz)) : (w.setCell ⟨g, i, none⟩ v).heap[g]? = some (.cells (c.setIfInBounds i v) t fz) := by
  obtain ⟨hlt, h'⟩ := Array.getElem?_eq_some_iff.1 h
  show (w.heap.modify g _)[g]? = _
  rw [Array.getElem?_eq_getElem (by simpa using hlt), Array.getElem_modify_self, h']
  rfl
theorem turned_set5 {w : World} {g : Nat} {t : TypeId} {z0 z1 z2 z3 z4 : Int} (v0 v1 v2 v3 v4 : Int) (h : w.heap[g]? = some (.cells #[.int .u64 z0, .int .u64 z1, .int .u64 z2, .int .u64 z3, .int .u64 z4] t)) :
    Turned w (((((w.setCell ⟨g, 0, none⟩ (.int .u64 v0)).setCell ⟨g, 1, none⟩ (.int .u64 v1)).setCell ⟨g, 2, none⟩ (.int .u64 v2)).setCell ⟨g, 3, none⟩ (.int .u64 v3)).setCell ⟨g, 4, none⟩ (.int .u64 v4)) g (.cells #[.int .u64 v0, .int .u64 v1, .int .u64 v2, .int .u64 v3, .int .u64 v4] t) := by
  have b : Below g w (((((w.setCell ⟨g, 0, none⟩ (.int .u64 v0)).setCell ⟨g, 1, none⟩ (.int .u64 v1)).setCell ⟨g, 2, none⟩ (.int .u64 v2)).setCell ⟨g, 3, none⟩ (.int .u64 v3)).setCell ⟨g, 4, none⟩ (.int .u64 v4)) :=
    (((((Below.refl g w).setCell (Nat.le_refl _) _).setCell (Nat.le_refl _) _).setCell (Nat.le_refl _) _).setCell (Nat.le_refl _) _).setCell (Nat.le_refl _) _
  refine ⟨b.os, b.tape, b.output, by simp, fun k hk => ?_, ?_⟩
  · rw [Below.heap_setCell _ _ _ k hk, Below.heap_setCell _ _ _ k hk, Below.heap_setCell _ _ _ k hk, Below.heap_setCell _ _ _ k hk, Below.heap_setCell _ _ _ k hk]
  · exact (set_here5 4 _ (set_here5 3 _ (set_here5 2 _ (set_here5 1 _ (set_here5 0 _ h))))).trans (by simp)

end Go.Proofs.YtedhfimjcpbcpaaDoor

/-
  The contract of the field's nearRoot: for tame elements it returns a tame element of the number that the program takes for a root at first, and changes no memory that was there. Conditions: as each theorem says.
-/
namespace Go.Proofs.YtedhfimjcpbcpaaDoor
open Go.RowKit
set_option linter.unusedVariables false
set_option linter.unusedSimpArgs false

theorem mul_congZ {a b c d : Int} (h1 : a % (P25 : Int) = b % (P25 : Int)) (h2 : c % (P25 : Int) = d % (P25 : Int)) : a * c % (P25 : Int) = b * d % (P25 : Int) := by rw [Int.mul_emod, h1, h2, ← Int.mul_emod]
theorem pow_congZ {a b : Int} (h : a % (P25 : Int) = b % (P25 : Int)) (n : Nat) : a ^ n % (P25 : Int) = b ^ n % (P25 : Int) := by
  induction n with
  | zero => rw [Int.pow_zero, Int.pow_zero]
  | succ n ih => rw [Int.pow_succ, Int.pow_succ]; exact mul_congZ ih h
/-- An element's number. -/
def L5.nn (x : L5) : Nat := (x.num % (P25 : Int)).toNat
theorem P25_posZ : (0 : Int) < (P25 : Int) := by decide +kernel
theorem L5.nn_eq (x : L5) : (x.nn : Int) = x.num % (P25 : Int) := Int.toNat_of_nonneg (Int.emod_nonneg _ (by have := P25_posZ; omega))
theorem L5.nn_lt (x : L5) : x.nn < P25 := by
  have h1 := x.nn_eq
  have h2 := Int.emod_lt_of_pos x.num P25_posZ
  omega
theorem L5.nn_of {x : L5} {n : Nat} (h : x.num % (P25 : Int) = (n : Int) % (P25 : Int)) : x.nn = n % P25 := by
  unfold L5.nn
  rw [h, ← Int.natCast_emod, Int.toNat_natCast]
theorem L5.nn_mod (x : L5) : x.num % (P25 : Int) = (x.nn : Int) % (P25 : Int) := by rw [x.nn_eq, Int.emod_emod]
theorem near_nat (u v z : L5) (k : Nat) (h : z.num % (P25 : Int) = u.num * v.num ^ 3 * (u.num * v.num ^ 7) ^ k % (P25 : Int)) : z.nn = u.nn * v.nn ^ 3 * (u.nn * v.nn ^ 7) ^ k % P25 := by
  refine L5.nn_of ?_
  rw [h, Int.natCast_mul, Int.natCast_mul, Int.natCast_pow, Int.natCast_pow, Int.natCast_mul, Int.natCast_pow]
  exact mul_congZ (mul_congZ u.nn_mod (pow_congZ v.nn_mod 3)) (pow_congZ (mul_congZ u.nn_mod (pow_congZ v.nn_mod 7)) k)
set_option maxRecDepth 100000 in
set_option maxHeartbeats 8000000 in
theorem near_fe (x y : L5) (hx : x.Tm) (hy : y.Tm) : ∃ z : L5, z.Tm ∧ Hid (z.nn = nearN x.nn y.nn) ∧ ∀ w : World, Calls Tryd.prog 107 #[.agg #[.int .u64 x.l0, .int .u64 x.l1, .int .u64 x.l2, .int .u64 x.l3, .int .u64 x.l4], .agg #[.int .u64 y.l0, .int .u64 y.l1, .int .u64 y.l2, .int .u64 y.l3, .int .u64 y.l4]] w fun e w' => e = .returned (.agg #[.int .u64 z.l0, .int .u64 z.l1, .int .u64 z.l2, .int .u64 z.l3, .int .u64 z.l4]) ∧ Below w.heap.size w w' := by
  have vy := pow_base y.num
  obtain ⟨c, hc, uc, kc⟩ := join_fe y y 1 1 hy hy (by decide) (by decide)
  have vc := pow_join y.num _ _ _ 1 1 1 3 vy vy uc (by decide +kernel)
  obtain ⟨s, hs, us, ks⟩ := join_fe c y 1 1 hc hy (by decide) (by decide)
  have vs := pow_join y.num _ _ _ 1 3 1 7 vc vy us (by decide +kernel)
  obtain ⟨b, hb, ub, kb⟩ := mul_fe x s hx hs
  obtain ⟨m, hm, um, km⟩ := mul_fe x c hx hc
  obtain ⟨p, hp, up, kp⟩ := power250_fe b hb
  obtain ⟨j, hj, uj, kj⟩ := join_fe p b 2 2 hp hb (by decide) (by decide)
  have vj := pow_join b.num _ _ _ 2 (2 ^ 250 - 1) 1 nearK up.out (pow_base _) uj (by decide +kernel)
  obtain ⟨t, ht, ut, kt⟩ := mul_fe m j hm hj
  refine ⟨t, ht, ?_, fun w => ?_⟩
  · have e : t.num % (P25 : Int) = x.num * y.num ^ 3 * (x.num * y.num ^ 7) ^ nearK % (P25 : Int) := by
      rw [ut.out]
      refine mul_congZ (um.out.trans (mul_congZ rfl vc)) (vj.trans (pow_congZ (ub.out.trans (mul_congZ rfl vs)) _))
    exact near_nat x y t nearK e
  obtain ⟨x0, x1, x2, x3, x4⟩ := x
  obtain ⟨y0, y1, y2, y3, y4⟩ := y
  obtain ⟨c0, c1, c2, c3, c4⟩ := c
  obtain ⟨s0, s1, s2, s3, s4⟩ := s
  obtain ⟨b0, b1, b2, b3, b4⟩ := b
  obtain ⟨m0, m1, m2, m3, m4⟩ := m
  obtain ⟨p0, p1, p2, p3, p4⟩ := p
  obtain ⟨j0, j1, j2, j3, j4⟩ := j
  obtain ⟨t0, t1, t2, t3, t4⟩ := t
  dsimp only at kc ks kb km kp kj kt ⊢
  have Qc : Hid (∀ w : World, Calls Tryd.prog 112 #[.agg #[.int .u64 y0, .int .u64 y1, .int .u64 y2, .int .u64 y3, .int .u64 y4], .int .i64 1, .agg #[.int .u64 y0, .int .u64 y1, .int .u64 y2, .int .u64 y3, .int .u64 y4]] w fun e w' => e = .returned (.agg #[.int .u64 c0, .int .u64 c1, .int .u64 c2, .int .u64 c3, .int .u64 c4]) ∧ Below w.heap.size w w') := kc
  have Qs : Hid (∀ w : World, Calls Tryd.prog 112 #[.agg #[.int .u64 c0, .int .u64 c1, .int .u64 c2, .int .u64 c3, .int .u64 c4], .int .i64 1, .agg #[.int .u64 y0, .int .u64 y1, .int .u64 y2, .int .u64 y3, .int .u64 y4]] w fun e w' => e = .returned (.agg #[.int .u64 s0, .int .u64 s1, .int .u64 s2, .int .u64 s3, .int .u64 s4]) ∧ Below w.heap.size w w') := ks
  have Qb : Hid (∀ w : World, Calls Tryd.prog 66 #[.agg #[.int .u64 x0, .int .u64 x1, .int .u64 x2, .int .u64 x3, .int .u64 x4], .agg #[.int .u64 s0, .int .u64 s1, .int .u64 s2, .int .u64 s3, .int .u64 s4]] w fun e w' => e = .returned (.agg #[.int .u64 b0, .int .u64 b1, .int .u64 b2, .int .u64 b3, .int .u64 b4]) ∧ Below w.heap.size w w') := kb
  have Qm : Hid (∀ w : World, Calls Tryd.prog 66 #[.agg #[.int .u64 x0, .int .u64 x1, .int .u64 x2, .int .u64 x3, .int .u64 x4], .agg #[.int .u64 c0, .int .u64 c1, .int .u64 c2, .int .u64 c3, .int .u64 c4]] w fun e w' => e = .returned (.agg #[.int .u64 m0, .int .u64 m1, .int .u64 m2, .int .u64 m3, .int .u64 m4]) ∧ Below w.heap.size w w') := km
  have Qp : Hid (∀ w : World, Calls Tryd.prog 113 #[.agg #[.int .u64 b0, .int .u64 b1, .int .u64 b2, .int .u64 b3, .int .u64 b4]] w fun e w' => e = .returned (.agg #[.int .u64 p0, .int .u64 p1, .int .u64 p2, .int .u64 p3, .int .u64 p4]) ∧ Below w.heap.size w w') := kp
  have Qj : Hid (∀ w : World, Calls Tryd.prog 112 #[.agg #[.int .u64 p0, .int .u64 p1, .int .u64 p2, .int .u64 p3, .int .u64 p4], .int .i64 2, .agg #[.int .u64 b0, .int .u64 b1, .int .u64 b2, .int .u64 b3, .int .u64 b4]] w fun e w' => e = .returned (.agg #[.int .u64 j0, .int .u64 j1, .int .u64 j2, .int .u64 j3, .int .u64 j4]) ∧ Below w.heap.size w w') := kj
  have Qt : Hid (∀ w : World, Calls Tryd.prog 66 #[.agg #[.int .u64 m0, .int .u64 m1, .int .u64 m2, .int .u64 m3, .int .u64 m4], .agg #[.int .u64 j0, .int .u64 j1, .int .u64 j2, .int .u64 j3, .int .u64 j4]] w fun e w' => e = .returned (.agg #[.int .u64 t0, .int .u64 t1, .int .u64 t2, .int .u64 t3, .int .u64 t4]) ∧ Below w.heap.size w w') := kt
  clear vy vc vs vj hx hy hc uc kc hs us ks hb ub kb hm um km hp up kp hj uj kj ht ut kt
  go_enter Tryd.func107, Tryd.ntmps107
  go_wp2_with fail
  refine calls_at (fun V => Bl5 V w.heap.size x0 x1 x2 x3 x4 ∧ Bl5 V (w.heap.size + 1) y0 y1 y2 y3 y4 ∧ Bl5 V (w.heap.size + 1 + 1) 0 0 0 0 0 ∧ Below w.heap.size w V) ⟨?_, ?_, ?_, ?_⟩ ?_
  · (repeat (first | refine Bl5.drew ?_ | refine Bl5.drewN ?_ _ | (refine Bl5.new _ _ _ _ _ _ _ _ ?_; simp; done) | refine Bl5.alloc ?_ _))
  · (repeat (first | refine Bl5.drew ?_ | refine Bl5.drewN ?_ _ | (refine Bl5.new _ _ _ _ _ _ _ _ ?_; simp; done) | refine Bl5.alloc ?_ _))
  · (repeat (first | refine Bl5.drew ?_ | refine Bl5.drewN ?_ _ | (refine Bl5.new _ _ _ _ _ _ _ _ ?_; simp; done) | refine Bl5.alloc ?_ _))
  · (repeat (first | exact Below.refl _ _ | refine Below.drew ?_ | refine below_drewN ?_ _ | refine Below.alloc ?_ (by simp <;> omega) _ | refine Below.setCell ?_ (by simp <;> omega) _))
  rintro v1 ⟨k0, k1, k2, k3⟩
  have X_1 : Hid (Bl5 v1 w.heap.size x0 x1 x2 x3 x4) := k0
  have Y_1 : Hid (Bl5 v1 (w.heap.size + 1) y0 y1 y2 y3 y4) := k1
  have R_1 : Hid (Bl5 v1 (w.heap.size + 1 + 1) 0 0 0 0 0) := k2
  have G_1 : Hid (Below w.heap.size w v1) := k3
  clear k0 k1 k2 k3
  refine (Qc.out _).mono ?_
  rintro e v2 ⟨rfl, g⟩
  have X_2 := hold (X_1.out.below g)
  have Y_2 := hold (Y_1.out.below g)
  have R_2 := hold (R_1.out.below g)
  have G_2 := hold (G_1.out.trans (g.mono G_1.out.size))
  clear X_1 Y_1 R_1 G_1 g
  obtain ⟨cyl, cy0, cy1, cy2, cy3, cy4, cyf⟩ := Y_2.out
  go_wp2_with fail
  have szC : w.heap.size ≤ v2.heap.size := G_2.out.size
  have nbCX : ¬ (v2.heap.size = w.heap.size) := by have := X_2.out.lt; omega
  have nbCY : ¬ (v2.heap.size = (w.heap.size + 1)) := by have := Y_2.out.lt; omega
  have nbCR : ¬ (v2.heap.size = (w.heap.size + 1 + 1)) := by have := R_2.out.lt; omega
  refine calls_at (fun V => Bl5 V w.heap.size x0 x1 x2 x3 x4 ∧ Bl5 V (w.heap.size + 1) y0 y1 y2 y3 y4 ∧ Bl5 V (w.heap.size + 1 + 1) 0 0 0 0 0 ∧ Bl5 V v2.heap.size c0 c1 c2 c3 c4 ∧ Below w.heap.size w V) ⟨X_2.out.alloc _, Y_2.out.alloc _, R_2.out.alloc _, Bl5.new v2 _ _ _ _ _ _ _ rfl, G_2.out.alloc G_2.out.size _⟩ ?_
  rintro v3 ⟨k0, k1, k2, k3, k4⟩
  have X_3 : Hid (Bl5 v3 w.heap.size x0 x1 x2 x3 x4) := k0
  have Y_3 : Hid (Bl5 v3 (w.heap.size + 1) y0 y1 y2 y3 y4) := k1
  have R_3 : Hid (Bl5 v3 (w.heap.size + 1 + 1) 0 0 0 0 0) := k2
  have C_3 : Hid (Bl5 v3 v2.heap.size c0 c1 c2 c3 c4) := k3
  have G_3 : Hid (Below w.heap.size w v3) := k4
  clear k0 k1 k2 k3 k4 X_2 Y_2 R_2 G_2
  refine (Qs.out _).mono ?_
  rintro e v4 ⟨rfl, g⟩
  clear cyl cy0 cy1 cy2 cy3 cy4 cyf
  have X_4 := hold (X_3.out.below g)
  have Y_4 := hold (Y_3.out.below g)
  have R_4 := hold (R_3.out.below g)
  have C_4 := hold (C_3.out.below g)
  have G_4 := hold (G_3.out.trans (g.mono G_3.out.size))
  clear X_3 Y_3 R_3 C_3 G_3 g
  obtain ⟨cxl, cx0, cx1, cx2, cx3, cx4, cxf⟩ := X_4.out
  go_wp2_with fail
  have szS : w.heap.size ≤ v4.heap.size := G_4.out.size
  have nbSX : ¬ (v4.heap.size = w.heap.size) := by have := X_4.out.lt; omega
  have nbSY : ¬ (v4.heap.size = (w.heap.size + 1)) := by have := Y_4.out.lt; omega
  have nbSR : ¬ (v4.heap.size = (w.heap.size + 1 + 1)) := by have := R_4.out.lt; omega
  have nbSC : ¬ (v4.heap.size = v2.heap.size) := by have := C_4.out.lt; omega
  refine calls_at (fun V => Bl5 V w.heap.size x0 x1 x2 x3 x4 ∧ Bl5 V (w.heap.size + 1) y0 y1 y2 y3 y4 ∧ Bl5 V (w.heap.size + 1 + 1) 0 0 0 0 0 ∧ Bl5 V v2.heap.size c0 c1 c2 c3 c4 ∧ Bl5 V v4.heap.size s0 s1 s2 s3 s4 ∧ Below w.heap.size w V) ⟨X_4.out.alloc _, Y_4.out.alloc _, R_4.out.alloc _, C_4.out.alloc _, Bl5.new v4 _ _ _ _ _ _ _ rfl, G_4.out.alloc G_4.out.size _⟩ ?_
  rintro v5 ⟨k0, k1, k2, k3, k4, k5⟩
  have X_5 : Hid (Bl5 v5 w.heap.size x0 x1 x2 x3 x4) := k0
  have Y_5 : Hid (Bl5 v5 (w.heap.size + 1) y0 y1 y2 y3 y4) := k1
  have R_5 : Hid (Bl5 v5 (w.heap.size + 1 + 1) 0 0 0 0 0) := k2
  have C_5 : Hid (Bl5 v5 v2.heap.size c0 c1 c2 c3 c4) := k3
  have S_5 : Hid (Bl5 v5 v4.heap.size s0 s1 s2 s3 s4) := k4
  have G_5 : Hid (Below w.heap.size w v5) := k5
  clear k0 k1 k2 k3 k4 k5 X_4 Y_4 R_4 C_4 G_4
  refine (Qb.out _).mono ?_
  rintro e v6 ⟨rfl, g⟩
  clear cxl cx0 cx1 cx2 cx3 cx4 cxf
  have X_6 := hold (X_5.out.below g)
  have Y_6 := hold (Y_5.out.below g)
  have R_6 := hold (R_5.out.below g)
  have C_6 := hold (C_5.out.below g)
  have S_6 := hold (S_5.out.below g)
  have G_6 := hold (G_5.out.trans (g.mono G_5.out.size))
  clear X_5 Y_5 R_5 C_5 S_5 G_5 g
  go_wp2_with fail
  have szB : w.heap.size ≤ v6.heap.size := G_6.out.size
  have nbBX : ¬ (v6.heap.size = w.heap.size) := by have := X_6.out.lt; omega
  have nbBY : ¬ (v6.heap.size = (w.heap.size + 1)) := by have := Y_6.out.lt; omega
  have nbBR : ¬ (v6.heap.size = (w.heap.size + 1 + 1)) := by have := R_6.out.lt; omega
  have nbBC : ¬ (v6.heap.size = v2.heap.size) := by have := C_6.out.lt; omega
  have nbBS : ¬ (v6.heap.size = v4.heap.size) := by have := S_6.out.lt; omega
  refine wp_cut (fun V => Bl5 V w.heap.size x0 x1 x2 x3 x4 ∧ Bl5 V (w.heap.size + 1) y0 y1 y2 y3 y4 ∧ Bl5 V (w.heap.size + 1 + 1) 0 0 0 0 0 ∧ Bl5 V v2.heap.size c0 c1 c2 c3 c4 ∧ Bl5 V v4.heap.size s0 s1 s2 s3 s4 ∧ Bl5 V v6.heap.size b0 b1 b2 b3 b4 ∧ Below w.heap.size w V) ⟨X_6.out.alloc _, Y_6.out.alloc _, R_6.out.alloc _, C_6.out.alloc _, S_6.out.alloc _, Bl5.new v6 _ _ _ _ _ _ _ rfl, G_6.out.alloc G_6.out.size _⟩ ?_
  rintro v7 ⟨k0, k1, k2, k3, k4, k5, k6⟩
  have X_7 : Hid (Bl5 v7 w.heap.size x0 x1 x2 x3 x4) := k0
  have Y_7 : Hid (Bl5 v7 (w.heap.size + 1) y0 y1 y2 y3 y4) := k1
  have R_7 : Hid (Bl5 v7 (w.heap.size + 1 + 1) 0 0 0 0 0) := k2
  have C_7 : Hid (Bl5 v7 v2.heap.size c0 c1 c2 c3 c4) := k3
  have S_7 : Hid (Bl5 v7 v4.heap.size s0 s1 s2 s3 s4) := k4
  have B_7 : Hid (Bl5 v7 v6.heap.size b0 b1 b2 b3 b4) := k5
  have G_7 : Hid (Below w.heap.size w v7) := k6
  clear k0 k1 k2 k3 k4 k5 k6 X_6 Y_6 R_6 C_6 S_6 G_6
  have K : v7.drew.cell? ⟨w.heap.size, 0, none⟩ = some (.int .u64 x0) ∧ v7.drew.cell? ⟨w.heap.size, 1, none⟩ = some (.int .u64 x1) ∧ v7.drew.cell? ⟨w.heap.size, 2, none⟩ = some (.int .u64 x2) ∧ v7.drew.cell? ⟨w.heap.size, 3, none⟩ = some (.int .u64 x3) ∧ v7.drew.cell? ⟨w.heap.size, 4, none⟩ = some (.int .u64 x4) ∧ v7.drew.cell? ⟨v2.heap.size, 0, none⟩ = some (.int .u64 c0) ∧ v7.drew.cell? ⟨v2.heap.size, 1, none⟩ = some (.int .u64 c1) ∧ v7.drew.cell? ⟨v2.heap.size, 2, none⟩ = some (.int .u64 c2) ∧ v7.drew.cell? ⟨v2.heap.size, 3, none⟩ = some (.int .u64 c3) ∧ v7.drew.cell? ⟨v2.heap.size, 4, none⟩ = some (.int .u64 c4) ∧ v7.drew.cell? ⟨v6.heap.size, 0, none⟩ = some (.int .u64 b0) ∧ v7.drew.cell? ⟨v6.heap.size, 1, none⟩ = some (.int .u64 b1) ∧ v7.drew.cell? ⟨v6.heap.size, 2, none⟩ = some (.int .u64 b2) ∧ v7.drew.cell? ⟨v6.heap.size, 3, none⟩ = some (.int .u64 b3) ∧ v7.drew.cell? ⟨v6.heap.size, 4, none⟩ = some (.int .u64 b4) := ⟨X_7.out.drew.c0, X_7.out.drew.c1, X_7.out.drew.c2, X_7.out.drew.c3, X_7.out.drew.c4, C_7.out.drew.c0, C_7.out.drew.c1, C_7.out.drew.c2, C_7.out.drew.c3, C_7.out.drew.c4, B_7.out.drew.c0, B_7.out.drew.c1, B_7.out.drew.c2, B_7.out.drew.c3, B_7.out.drew.c4⟩
  have X_7' : Hid (Bl5 v7.drew w.heap.size x0 x1 x2 x3 x4) := X_7.out.drew
  have Y_7' : Hid (Bl5 v7.drew (w.heap.size + 1) y0 y1 y2 y3 y4) := Y_7.out.drew
  have R_7' : Hid (Bl5 v7.drew (w.heap.size + 1 + 1) 0 0 0 0 0) := R_7.out.drew
  have C_7' : Hid (Bl5 v7.drew v2.heap.size c0 c1 c2 c3 c4) := C_7.out.drew
  have S_7' : Hid (Bl5 v7.drew v4.heap.size s0 s1 s2 s3 s4) := S_7.out.drew
  have B_7' : Hid (Bl5 v7.drew v6.heap.size b0 b1 b2 b3 b4) := B_7.out.drew
  have G_7' : Hid (Below w.heap.size w v7.drew) := G_7.out.drew
  have neX : ¬ ((w.heap.size + 1 + 1) = w.heap.size) := by omega
  have neX' : ¬ (w.heap.size = (w.heap.size + 1 + 1)) := by omega
  have neC : ¬ ((w.heap.size + 1 + 1) = v2.heap.size) := by omega
  have neC' : ¬ (v2.heap.size = (w.heap.size + 1 + 1)) := by omega
  have neB : ¬ ((w.heap.size + 1 + 1) = v6.heap.size) := by omega
  have neB' : ¬ (v6.heap.size = (w.heap.size + 1 + 1)) := by omega
  go_wp2_with fail
  go_region_held3 (fun w' => w'.cell? ⟨w.heap.size, 0, none⟩ = some (.int .u64 x0) ∧ w'.cell? ⟨w.heap.size, 1, none⟩ = some (.int .u64 x1) ∧ w'.cell? ⟨w.heap.size, 2, none⟩ = some (.int .u64 x2) ∧ w'.cell? ⟨w.heap.size, 3, none⟩ = some (.int .u64 x3) ∧ w'.cell? ⟨w.heap.size, 4, none⟩ = some (.int .u64 x4) ∧ w'.cell? ⟨v2.heap.size, 0, none⟩ = some (.int .u64 c0) ∧ w'.cell? ⟨v2.heap.size, 1, none⟩ = some (.int .u64 c1) ∧ w'.cell? ⟨v2.heap.size, 2, none⟩ = some (.int .u64 c2) ∧ w'.cell? ⟨v2.heap.size, 3, none⟩ = some (.int .u64 c3) ∧ w'.cell? ⟨v2.heap.size, 4, none⟩ = some (.int .u64 c4) ∧ w'.cell? ⟨v6.heap.size, 0, none⟩ = some (.int .u64 b0) ∧ w'.cell? ⟨v6.heap.size, 1, none⟩ = some (.int .u64 b1) ∧ w'.cell? ⟨v6.heap.size, 2, none⟩ = some (.int .u64 b2) ∧ w'.cell? ⟨v6.heap.size, 3, none⟩ = some (.int .u64 b3) ∧ w'.cell? ⟨v6.heap.size, 4, none⟩ = some (.int .u64 b4)) (first | with_reducible assumption | go_keep)
    (first
      | (go_at_call 66; have gg := G_10; clear gg; (refine (Qt.out _).mono ?_); (rintro e v11 ⟨rfl, g⟩; have X_11 := hold (X_10.out.below g); have Y_11 := hold (Y_10.out.below g); have R_11 := hold (R_10.out.below g); have C_11 := hold (C_10.out.below g); have S_11 := hold (S_10.out.below g); have B_11 := hold (B_10.out.below g); have G_11 := hold (G_10.out.trans (g.mono G_10.out.size)); clear g; clear K; have K : v11.cell? ⟨w.heap.size, 0, none⟩ = some (.int .u64 x0) ∧ v11.cell? ⟨w.heap.size, 1, none⟩ = some (.int .u64 x1) ∧ v11.cell? ⟨w.heap.size, 2, none⟩ = some (.int .u64 x2) ∧ v11.cell? ⟨w.heap.size, 3, none⟩ = some (.int .u64 x3) ∧ v11.cell? ⟨w.heap.size, 4, none⟩ = some (.int .u64 x4) ∧ v11.cell? ⟨v2.heap.size, 0, none⟩ = some (.int .u64 c0) ∧ v11.cell? ⟨v2.heap.size, 1, none⟩ = some (.int .u64 c1) ∧ v11.cell? ⟨v2.heap.size, 2, none⟩ = some (.int .u64 c2) ∧ v11.cell? ⟨v2.heap.size, 3, none⟩ = some (.int .u64 c3) ∧ v11.cell? ⟨v2.heap.size, 4, none⟩ = some (.int .u64 c4) ∧ v11.cell? ⟨v6.heap.size, 0, none⟩ = some (.int .u64 b0) ∧ v11.cell? ⟨v6.heap.size, 1, none⟩ = some (.int .u64 b1) ∧ v11.cell? ⟨v6.heap.size, 2, none⟩ = some (.int .u64 b2) ∧ v11.cell? ⟨v6.heap.size, 3, none⟩ = some (.int .u64 b3) ∧ v11.cell? ⟨v6.heap.size, 4, none⟩ = some (.int .u64 b4) := ⟨X_11.out.c0, X_11.out.c1, X_11.out.c2, X_11.out.c3, X_11.out.c4, C_11.out.c0, C_11.out.c1, C_11.out.c2, C_11.out.c3, C_11.out.c4, B_11.out.c0, B_11.out.c1, B_11.out.c2, B_11.out.c3, B_11.out.c4⟩; obtain ⟨stl, st0, st1, st2, st3, st4, stf⟩ := R_11.out))
      | (go_at_call 112; have gg := G_9; clear gg; (refine (Qj.out _).mono ?_); (rintro e v10 ⟨rfl, g⟩; have X_10 := hold (X_9.out.below g); have Y_10 := hold (Y_9.out.below g); have R_10 := hold (R_9.out.below g); have C_10 := hold (C_9.out.below g); have S_10 := hold (S_9.out.below g); have B_10 := hold (B_9.out.below g); have G_10 := hold (G_9.out.trans (g.mono G_9.out.size)); clear g; clear K; have K : v10.cell? ⟨w.heap.size, 0, none⟩ = some (.int .u64 x0) ∧ v10.cell? ⟨w.heap.size, 1, none⟩ = some (.int .u64 x1) ∧ v10.cell? ⟨w.heap.size, 2, none⟩ = some (.int .u64 x2) ∧ v10.cell? ⟨w.heap.size, 3, none⟩ = some (.int .u64 x3) ∧ v10.cell? ⟨w.heap.size, 4, none⟩ = some (.int .u64 x4) ∧ v10.cell? ⟨v2.heap.size, 0, none⟩ = some (.int .u64 c0) ∧ v10.cell? ⟨v2.heap.size, 1, none⟩ = some (.int .u64 c1) ∧ v10.cell? ⟨v2.heap.size, 2, none⟩ = some (.int .u64 c2) ∧ v10.cell? ⟨v2.heap.size, 3, none⟩ = some (.int .u64 c3) ∧ v10.cell? ⟨v2.heap.size, 4, none⟩ = some (.int .u64 c4) ∧ v10.cell? ⟨v6.heap.size, 0, none⟩ = some (.int .u64 b0) ∧ v10.cell? ⟨v6.heap.size, 1, none⟩ = some (.int .u64 b1) ∧ v10.cell? ⟨v6.heap.size, 2, none⟩ = some (.int .u64 b2) ∧ v10.cell? ⟨v6.heap.size, 3, none⟩ = some (.int .u64 b3) ∧ v10.cell? ⟨v6.heap.size, 4, none⟩ = some (.int .u64 b4) := ⟨X_10.out.c0, X_10.out.c1, X_10.out.c2, X_10.out.c3, X_10.out.c4, C_10.out.c0, C_10.out.c1, C_10.out.c2, C_10.out.c3, C_10.out.c4, B_10.out.c0, B_10.out.c1, B_10.out.c2, B_10.out.c3, B_10.out.c4⟩))
      | (go_at_call 113; have gg := G_8; clear gg; (refine (Qp.out _).mono ?_); (rintro e v9 ⟨rfl, g⟩; have X_9 := hold (X_8.out.below g); have Y_9 := hold (Y_8.out.below g); have R_9 := hold (R_8.out.below g); have C_9 := hold (C_8.out.below g); have S_9 := hold (S_8.out.below g); have B_9 := hold (B_8.out.below g); have G_9 := hold (G_8.out.trans (g.mono G_8.out.size)); clear g; clear K; have K : v9.cell? ⟨w.heap.size, 0, none⟩ = some (.int .u64 x0) ∧ v9.cell? ⟨w.heap.size, 1, none⟩ = some (.int .u64 x1) ∧ v9.cell? ⟨w.heap.size, 2, none⟩ = some (.int .u64 x2) ∧ v9.cell? ⟨w.heap.size, 3, none⟩ = some (.int .u64 x3) ∧ v9.cell? ⟨w.heap.size, 4, none⟩ = some (.int .u64 x4) ∧ v9.cell? ⟨v2.heap.size, 0, none⟩ = some (.int .u64 c0) ∧ v9.cell? ⟨v2.heap.size, 1, none⟩ = some (.int .u64 c1) ∧ v9.cell? ⟨v2.heap.size, 2, none⟩ = some (.int .u64 c2) ∧ v9.cell? ⟨v2.heap.size, 3, none⟩ = some (.int .u64 c3) ∧ v9.cell? ⟨v2.heap.size, 4, none⟩ = some (.int .u64 c4) ∧ v9.cell? ⟨v6.heap.size, 0, none⟩ = some (.int .u64 b0) ∧ v9.cell? ⟨v6.heap.size, 1, none⟩ = some (.int .u64 b1) ∧ v9.cell? ⟨v6.heap.size, 2, none⟩ = some (.int .u64 b2) ∧ v9.cell? ⟨v6.heap.size, 3, none⟩ = some (.int .u64 b3) ∧ v9.cell? ⟨v6.heap.size, 4, none⟩ = some (.int .u64 b4) := ⟨X_9.out.c0, X_9.out.c1, X_9.out.c2, X_9.out.c3, X_9.out.c4, C_9.out.c0, C_9.out.c1, C_9.out.c2, C_9.out.c3, C_9.out.c4, B_9.out.c0, B_9.out.c1, B_9.out.c2, B_9.out.c3, B_9.out.c4⟩))
      | (go_at_call 66; have gg := G_7'; clear gg; (refine (Qm.out _).mono ?_); (rintro e v8 ⟨rfl, g⟩; have X_8 := hold (X_7'.out.below g); have Y_8 := hold (Y_7'.out.below g); have R_8 := hold (R_7'.out.below g); have C_8 := hold (C_7'.out.below g); have S_8 := hold (S_7'.out.below g); have B_8 := hold (B_7'.out.below g); have G_8 := hold (G_7'.out.trans (g.mono G_7'.out.size)); clear g; clear K; have K : v8.cell? ⟨w.heap.size, 0, none⟩ = some (.int .u64 x0) ∧ v8.cell? ⟨w.heap.size, 1, none⟩ = some (.int .u64 x1) ∧ v8.cell? ⟨w.heap.size, 2, none⟩ = some (.int .u64 x2) ∧ v8.cell? ⟨w.heap.size, 3, none⟩ = some (.int .u64 x3) ∧ v8.cell? ⟨w.heap.size, 4, none⟩ = some (.int .u64 x4) ∧ v8.cell? ⟨v2.heap.size, 0, none⟩ = some (.int .u64 c0) ∧ v8.cell? ⟨v2.heap.size, 1, none⟩ = some (.int .u64 c1) ∧ v8.cell? ⟨v2.heap.size, 2, none⟩ = some (.int .u64 c2) ∧ v8.cell? ⟨v2.heap.size, 3, none⟩ = some (.int .u64 c3) ∧ v8.cell? ⟨v2.heap.size, 4, none⟩ = some (.int .u64 c4) ∧ v8.cell? ⟨v6.heap.size, 0, none⟩ = some (.int .u64 b0) ∧ v8.cell? ⟨v6.heap.size, 1, none⟩ = some (.int .u64 b1) ∧ v8.cell? ⟨v6.heap.size, 2, none⟩ = some (.int .u64 b2) ∧ v8.cell? ⟨v6.heap.size, 3, none⟩ = some (.int .u64 b3) ∧ v8.cell? ⟨v6.heap.size, 4, none⟩ = some (.int .u64 b4) := ⟨X_8.out.c0, X_8.out.c1, X_8.out.c2, X_8.out.c3, X_8.out.c4, C_8.out.c0, C_8.out.c1, C_8.out.c2, C_8.out.c3, C_8.out.c4, B_8.out.c0, B_8.out.c1, B_8.out.c2, B_8.out.c3, B_8.out.c4⟩))
      | fail)
  clear K neX neX' neC neC' neB neB'
  go_wp2_with fail
  refine body_cut (fun W => Bl5 W (w.heap.size + 1 + 1) t0 t1 t2 t3 t4 ∧ Below w.heap.size w W) ⟨R_11.out.set t0 t1 t2 t3 t4, ?_⟩ ?_
  · iterate 5 (refine Below.setCell ?_ (by simp <;> omega) _)
    exact G_11.out
  · rintro W ⟨⟨rl, r0, r1, r2, r3, r4, rf⟩, hb⟩
    exact bodyPost_ret (v := .agg #[.int .u64 t0, .int .u64 t1, .int .u64 t2, .int .u64 t3, .int .u64 t4]) (by simp [results, Tryd.results107, go_sem, r0, r1, r2, r3, r4]) rfl ⟨rfl, hb⟩

end Go.Proofs.YtedhfimjcpbcpaaDoor

/-
  The contract of the field's Root: for tame elements it returns the program's root, as the document says, and whether there is one, and changes no memory that was there. Conditions: as each theorem says.
-/
namespace Go.Proofs.YtedhfimjcpbcpaaDoor
open Go.RowKit
set_option linter.unusedVariables false
set_option linter.unusedSimpArgs false

theorem tame_I : Tame 1718705420411056 234908883556509 2233514472574048 2117202627021982 765476049583133 := by unfold Tame; omega
theorem num_I : L5.num ⟨1718705420411056, 234908883556509, 2233514472574048, 2117202627021982, 765476049583133⟩ = (I25 : Int) := by decide +kernel
theorem nn_neg (x z : L5) (h : z.num % (P25 : Int) = (- x.num) % (P25 : Int)) : z.nn = (P25 - x.nn) % P25 := by
  refine L5.nn_of ?_
  have hl := x.nn_lt
  have e : ((P25 - x.nn : Nat) : Int) = - (x.nn : Int) + (P25 : Int) * 1 := by omega
  rw [h, e, Int.add_mul_emod_self_left, show - x.num = (-1) * x.num by omega, show - (x.nn : Int) = (-1) * (x.nn : Int) by omega]
  exact mul_congZ rfl x.nn_mod
theorem nn_mul (x y z : L5) (h : z.num % (P25 : Int) = x.num * y.num % (P25 : Int)) : z.nn = x.nn * y.nn % P25 := by
  refine L5.nn_of ?_
  rw [h, Int.natCast_mul]
  exact mul_congZ x.nn_mod y.nn_mod
theorem low_zero : L5.Low ⟨0, 0, 0, 0, 0⟩ := by unfold L5.Low; decide
theorem nn_low {z : L5} {n : Nat} (h : z.num = (n : Int)) (hn : n < P25) : z.nn = n := by
  unfold L5.nn
  rw [h, ← Int.natCast_emod, Int.toNat_natCast, Nat.mod_eq_of_lt hn]
/-- The end of a root: the number's limbs, its other sign, which of them is even, and its limbs. -/
theorem rootEnd (x : L5) (hx : x.Tm) : ∃ y h s z : L5, z.Low ∧ z.num = ((evn x.nn : Nat) : Int) ∧
    (∀ w : World, Calls Tryd.prog 82 #[.agg #[.int .u64 x.l0, .int .u64 x.l1, .int .u64 x.l2, .int .u64 x.l3, .int .u64 x.l4]] w fun e w' => e = .returned (.agg #[.int .u64 y.l0, .int .u64 y.l1, .int .u64 y.l2, .int .u64 y.l3, .int .u64 y.l4]) ∧ Below w.heap.size w w') ∧
    (∀ w : World, Gl w → Calls Tryd.prog 38 #[.agg #[.int .u64 y.l0, .int .u64 y.l1, .int .u64 y.l2, .int .u64 y.l3, .int .u64 y.l4]] w fun e w' => e = .returned (.agg #[.int .u64 h.l0, .int .u64 h.l1, .int .u64 h.l2, .int .u64 h.l3, .int .u64 h.l4]) ∧ Below w.heap.size w w') ∧
    (∀ w : World, Calls Tryd.prog 108 #[.int .u64 y.l0, .agg #[.int .u64 h.l0, .int .u64 h.l1, .int .u64 h.l2, .int .u64 h.l3, .int .u64 h.l4], .agg #[.int .u64 y.l0, .int .u64 y.l1, .int .u64 y.l2, .int .u64 y.l3, .int .u64 y.l4]] w fun e w' => e = .returned (.agg #[.int .u64 s.l0, .int .u64 s.l1, .int .u64 s.l2, .int .u64 s.l3, .int .u64 s.l4]) ∧ Below w.heap.size w w') ∧
    (∀ w : World, Calls Tryd.prog 82 #[.agg #[.int .u64 s.l0, .int .u64 s.l1, .int .u64 s.l2, .int .u64 s.l3, .int .u64 s.l4]] w fun e w' => e = .returned (.agg #[.int .u64 z.l0, .int .u64 z.l1, .int .u64 z.l2, .int .u64 z.l3, .int .u64 z.l4]) ∧ Below w.heap.size w w') := by
  obtain ⟨y, hy, ey, ky⟩ := reduced_fe x hx
  obtain ⟨h, hh, eh, kh⟩ := neg_fe y hy.tm
  have hyn : y.nn = x.nn := by unfold L5.nn; rw [ey.out, Int.emod_emod]
  have hyv : y.num = (x.nn : Int) := by rw [ey.out, x.nn_eq]
  have e1 : bits .and .u64 y.l0 1 = ((x.nn % 2 : Nat) : Int) := by
    rw [and1_int _ (by unfold L5.Low at hy; unfold Wd; omega), low_parity, hyv]; omega
  have hn := nn_neg y h eh.out
  rw [hyn] at hn
  by_cases hp : x.nn % 2 = 1
  · obtain ⟨z, hz, ez, kz⟩ := reduced_fe h hh
    rw [hp] at e1
    refine ⟨y, h, h, z, hz, ?_, ky, kh, fun w => select_yes _ h y hh hy.tm e1 w, kz⟩
    rw [ez.out, ← h.nn_eq, hn]
    unfold evn
    rw [if_pos hp]
  · obtain ⟨z, hz, ez, kz⟩ := reduced_fe y hy.tm
    rw [show x.nn % 2 = 0 by omega] at e1
    refine ⟨y, h, y, z, hz, ?_, ky, kh, fun w => select_no _ h y hh hy.tm e1 w, kz⟩
    rw [ez.out, ← y.nn_eq, hyn]
    unfold evn
    rw [if_neg hp]

set_option maxRecDepth 100000 in
set_option maxHeartbeats 16000000 in
theorem root_fe (x y : L5) (hx : x.Tm) (hy : y.Tm) : ∃ z : L5, z.Low ∧ z.num = ((codeN x.nn y.nn : Nat) : Int) ∧ ∀ w : World, Gl w → Calls Tryd.prog 83 #[.agg #[.int .u64 x.l0, .int .u64 x.l1, .int .u64 x.l2, .int .u64 x.l3, .int .u64 x.l4], .agg #[.int .u64 y.l0, .int .u64 y.l1, .int .u64 y.l2, .int .u64 y.l3, .int .u64 y.l4]] w fun e w' => e = .returned (.tuple #[.agg #[.int .u64 z.l0, .int .u64 z.l1, .int .u64 z.l2, .int .u64 z.l3, .int .u64 z.l4], .bool (codeOk x.nn y.nn)]) ∧ Below w.heap.size w w' := by
  obtain ⟨n, hn, en, kn⟩ := near_fe x y hx hy
  obtain ⟨q, hq, eq, kq⟩ := square_fe n 1 hn (by decide) 1 (by decide)
  obtain ⟨f, hf, ef, kf⟩ := mul_fe q y hq hy
  obtain ⟨g, hg, eg, kg⟩ := neg_fe x hx
  have vq : q.nn = n.nn * n.nn % P25 := nn_mul n n q (by rw [eq.out, Nat.pow_one, Int.pow_succ, Int.pow_succ, Int.pow_zero, Int.one_mul])
  have vf : f.nn = n.nn * n.nn % P25 * y.nn % P25 := by rw [nn_mul q y f ef.out, vq]
  have vg := nn_neg x g eg.out
  have ks1 := fun w => same_fe f x hf hx _ rfl w
  have ks2 := fun w => same_fe f g hf hg _ rfl w
  have d1 : (f.num % (P25 : Int) = x.num % (P25 : Int)) ↔ (f.nn = x.nn) := by rw [← f.nn_eq, ← x.nn_eq]; omega
  have d2 : (f.num % (P25 : Int) = g.num % (P25 : Int)) ↔ (f.nn = (P25 - x.nn) % P25) := by rw [← f.nn_eq, ← g.nn_eq, ← vg]; omega
  unfold codeOk codeN
  rw [← en.out, ← vf]
  by_cases h1 : f.nn = x.nn
  · obtain ⟨r, h, s, t, ht, vt, kr, kh, ks, kt⟩ := rootEnd n hn
    rw [if_pos h1, if_pos h1]
    refine ⟨t, ht, vt, fun w HG' => ?_⟩
    rw [decide_eq_true (d1.2 h1)] at ks1
    have HG : Hid (Gl w) := HG'
    clear HG' vt vf vq vg ks2 d1 d2 en eq ef eg hn hq hf hg ht h1 kg hx hy
    obtain ⟨x0, x1, x2, x3, x4⟩ := x
    obtain ⟨y0, y1, y2, y3, y4⟩ := y
    obtain ⟨n0, n1, n2, n3, n4⟩ := n
    obtain ⟨q0, q1, q2, q3, q4⟩ := q
    obtain ⟨f0, f1, f2, f3, f4⟩ := f
    obtain ⟨r0, r1, r2, r3, r4⟩ := r
    obtain ⟨h0, h1, h2, h3, h4⟩ := h
    obtain ⟨s0, s1, s2, s3, s4⟩ := s
    obtain ⟨t0, t1, t2, t3, t4⟩ := t
    dsimp only at kn kq kf ks1 kr kh ks kt ⊢
    have Qn : Hid (∀ w : World, Calls Tryd.prog 107 #[.agg #[.int .u64 x0, .int .u64 x1, .int .u64 x2, .int .u64 x3, .int .u64 x4], .agg #[.int .u64 y0, .int .u64 y1, .int .u64 y2, .int .u64 y3, .int .u64 y4]] w fun e w' => e = .returned (.agg #[.int .u64 n0, .int .u64 n1, .int .u64 n2, .int .u64 n3, .int .u64 n4]) ∧ Below w.heap.size w w') := kn
    have Qq : Hid (∀ w : World, Calls Tryd.prog 80 #[.agg #[.int .u64 n0, .int .u64 n1, .int .u64 n2, .int .u64 n3, .int .u64 n4], .int .i64 1] w fun e w' => e = .returned (.agg #[.int .u64 q0, .int .u64 q1, .int .u64 q2, .int .u64 q3, .int .u64 q4]) ∧ Below w.heap.size w w') := kq
    have Qf : Hid (∀ w : World, Calls Tryd.prog 66 #[.agg #[.int .u64 q0, .int .u64 q1, .int .u64 q2, .int .u64 q3, .int .u64 q4], .agg #[.int .u64 y0, .int .u64 y1, .int .u64 y2, .int .u64 y3, .int .u64 y4]] w fun e w' => e = .returned (.agg #[.int .u64 f0, .int .u64 f1, .int .u64 f2, .int .u64 f3, .int .u64 f4]) ∧ Below w.heap.size w w') := kf
    have Q1 : Hid (∀ w : World, Calls Tryd.prog 65 #[.agg #[.int .u64 f0, .int .u64 f1, .int .u64 f2, .int .u64 f3, .int .u64 f4], .agg #[.int .u64 x0, .int .u64 x1, .int .u64 x2, .int .u64 x3, .int .u64 x4]] w fun e w' => e = .returned (.bool true) ∧ Below w.heap.size w w') := ks1
    have Qr : Hid (∀ w : World, Calls Tryd.prog 82 #[.agg #[.int .u64 n0, .int .u64 n1, .int .u64 n2, .int .u64 n3, .int .u64 n4]] w fun e w' => e = .returned (.agg #[.int .u64 r0, .int .u64 r1, .int .u64 r2, .int .u64 r3, .int .u64 r4]) ∧ Below w.heap.size w w') := kr
    have Qh : Hid (∀ w : World, Gl w → Calls Tryd.prog 38 #[.agg #[.int .u64 r0, .int .u64 r1, .int .u64 r2, .int .u64 r3, .int .u64 r4]] w fun e w' => e = .returned (.agg #[.int .u64 h0, .int .u64 h1, .int .u64 h2, .int .u64 h3, .int .u64 h4]) ∧ Below w.heap.size w w') := kh
    have Qs : Hid (∀ w : World, Calls Tryd.prog 108 #[.int .u64 r0, .agg #[.int .u64 h0, .int .u64 h1, .int .u64 h2, .int .u64 h3, .int .u64 h4], .agg #[.int .u64 r0, .int .u64 r1, .int .u64 r2, .int .u64 r3, .int .u64 r4]] w fun e w' => e = .returned (.agg #[.int .u64 s0, .int .u64 s1, .int .u64 s2, .int .u64 s3, .int .u64 s4]) ∧ Below w.heap.size w w') := ks
    have Qt : Hid (∀ w : World, Calls Tryd.prog 82 #[.agg #[.int .u64 s0, .int .u64 s1, .int .u64 s2, .int .u64 s3, .int .u64 s4]] w fun e w' => e = .returned (.agg #[.int .u64 t0, .int .u64 t1, .int .u64 t2, .int .u64 t3, .int .u64 t4]) ∧ Below w.heap.size w w') := kt
    clear kn kq kf ks1 kr kh ks kt
    have gl := HG.out.lt
    go_enter Tryd.func83, Tryd.ntmps83
    go_wp2_with fail
    refine calls_at (fun V => Bl5 V w.heap.size x0 x1 x2 x3 x4 ∧ Bl5 V (w.heap.size + 1) y0 y1 y2 y3 y4 ∧ Bl5 V (w.heap.size + 1 + 1) 0 0 0 0 0 ∧ Gl V ∧ Below w.heap.size w V) ⟨?_, ?_, ?_, ?_, ?_⟩ ?_
    · (repeat (first | refine Bl5.drew ?_ | refine Bl5.drewN ?_ _ | (refine Bl5.new _ _ _ _ _ _ _ _ ?_; simp; done) | refine Bl5.alloc ?_ _))
    · (repeat (first | refine Bl5.drew ?_ | refine Bl5.drewN ?_ _ | (refine Bl5.new _ _ _ _ _ _ _ _ ?_; simp; done) | refine Bl5.alloc ?_ _))
    · (repeat (first | refine Bl5.drew ?_ | refine Bl5.drewN ?_ _ | (refine Bl5.new _ _ _ _ _ _ _ _ ?_; simp; done) | refine Bl5.alloc ?_ _))
    · refine Gl.grown HG.out ?_
      (repeat (first | exact Below.refl _ _ | refine Below.drew ?_ | refine below_drewN ?_ _ | refine Below.alloc ?_ (by simp <;> omega) _))
    · (repeat (first | exact Below.refl _ _ | refine Below.drew ?_ | refine below_drewN ?_ _ | refine Below.alloc ?_ (by simp <;> omega) _ | refine Below.setCell ?_ (by simp <;> omega) _))
    rintro v1 ⟨k0, k1, k2, k3, k4⟩
    have X_1 : Hid (Bl5 v1 w.heap.size x0 x1 x2 x3 x4) := k0
    have Y_1 : Hid (Bl5 v1 (w.heap.size + 1) y0 y1 y2 y3 y4) := k1
    have R_1 : Hid (Bl5 v1 (w.heap.size + 1 + 1) 0 0 0 0 0) := k2
    have Z_1 : Hid (Gl v1) := k3
    have G_1 : Hid (Below w.heap.size w v1) := k4
    clear k0 k1 k2 k3 k4
    refine (Qn.out _).mono ?_
    rintro e v2 ⟨rfl, g⟩
    have X_2 := hold (X_1.out.below g)
    have Y_2 := hold (Y_1.out.below g)
    have R_2 := hold (R_1.out.below g)
    have Z_2 := hold (Z_1.out.grown g)
    have G_2 := hold (G_1.out.trans (g.mono G_1.out.size))
    clear X_1 Y_1 R_1 Z_1 G_1 g
    go_wp2_with fail
    have szA : w.heap.size ≤ v2.heap.size := G_2.out.size
    have nbAX : ¬ (v2.heap.size = w.heap.size) := by have := X_2.out.lt; omega
    have nbAY : ¬ (v2.heap.size = (w.heap.size + 1)) := by have := Y_2.out.lt; omega
    have nbAR : ¬ (v2.heap.size = (w.heap.size + 1 + 1)) := by have := R_2.out.lt; omega
    refine wp_cut (fun V => Bl5 V w.heap.size x0 x1 x2 x3 x4 ∧ Bl5 V (w.heap.size + 1) y0 y1 y2 y3 y4 ∧ Bl5 V (w.heap.size + 1 + 1) 0 0 0 0 0 ∧ Gl V ∧ Bl5 V v2.heap.size n0 n1 n2 n3 n4 ∧ Below w.heap.size w V) ⟨X_2.out.alloc _, Y_2.out.alloc _, R_2.out.alloc _, Z_2.out.grown ((Below.refl _ _).alloc (Nat.le_refl _) _), Bl5.new v2 _ _ _ _ _ _ _ rfl, G_2.out.alloc G_2.out.size _⟩ ?_
    rintro v3 ⟨k0, k1, k2, k3, k4, k5⟩
    have X_3 : Hid (Bl5 v3 w.heap.size x0 x1 x2 x3 x4) := k0
    have Y_3 : Hid (Bl5 v3 (w.heap.size + 1) y0 y1 y2 y3 y4) := k1
    have R_3 : Hid (Bl5 v3 (w.heap.size + 1 + 1) 0 0 0 0 0) := k2
    have Z_3 : Hid (Gl v3) := k3
    have A_3 : Hid (Bl5 v3 v2.heap.size n0 n1 n2 n3 n4) := k4
    have G_3 : Hid (Below w.heap.size w v3) := k5
    clear k0 k1 k2 k3 k4 k5 X_2 Y_2 R_2 Z_2 G_2
    refine wp_region_grow (ob := (fun k => if k = 4 then some (.cells #[.int .u64 0, .int .u64 0, .int .u64 0, .int .u64 0, .int .u64 0] 28) else none)) (st := (fun k => if k = 5 then some (4, .cells #[.int .u64 f0, .int .u64 f1, .int .u64 f2, .int .u64 f3, .int .u64 f4] 28) else none)) (by kernel_rfl) ?_
    simp only [List.size_toArray, List.length_cons, List.length_nil, Nat.reduceAdd, Array.replicate_succ, Array.replicate_zero, List.push_toArray, List.nil_append, List.cons_append]
    refine g_first 0 _ (.agg #[.int .u64 n0, .int .u64 n1, .int .u64 n2, .int .u64 n3, .int .u64 n4]) rfl rfl rfl (by kernel_rfl) (by kernel_rfl) (by kernel_rfl) ?_ ?_
    · refine Or.inl ⟨by rfl, fun w' hw' => ?_⟩
      obtain ⟨t0, t1, t2, t3, t4, t5, t6⟩ := A_3.out.below hw'
      unfold Oper.quietAt
      go_simp
    try simp only [List.getElem_toArray, List.getElem_cons_zero, List.getElem_cons_succ, Act.put, List.setIfInBounds_toArray, List.set_cons_zero, List.set_cons_succ]
    refine g_first 1 _ (.agg #[.int .u64 q0, .int .u64 q1, .int .u64 q2, .int .u64 q3, .int .u64 q4]) rfl rfl rfl (by kernel_rfl) (by kernel_rfl) (by kernel_rfl) ?_ ?_
    · refine Or.inl ⟨by rfl, fun w' hw' => ?_⟩
      refine quiet_call (by go_simp) (Qq.out w')
    try simp only [List.getElem_toArray, List.getElem_cons_zero, List.getElem_cons_succ, Act.put, List.setIfInBounds_toArray, List.set_cons_zero, List.set_cons_succ]
    refine g_first 2 _ (.agg #[.int .u64 y0, .int .u64 y1, .int .u64 y2, .int .u64 y3, .int .u64 y4]) rfl rfl rfl (by kernel_rfl) (by kernel_rfl) (by kernel_rfl) ?_ ?_
    · refine Or.inl ⟨by rfl, fun w' hw' => ?_⟩
      obtain ⟨t0, t1, t2, t3, t4, t5, t6⟩ := Y_3.out.below hw'
      unfold Oper.quietAt
      go_simp
    try simp only [List.getElem_toArray, List.getElem_cons_zero, List.getElem_cons_succ, Act.put, List.setIfInBounds_toArray, List.set_cons_zero, List.set_cons_succ]
    refine g_first 3 _ (.agg #[.int .u64 f0, .int .u64 f1, .int .u64 f2, .int .u64 f3, .int .u64 f4]) rfl rfl rfl (by kernel_rfl) (by kernel_rfl) (by kernel_rfl) ?_ ?_
    · refine Or.inl ⟨by rfl, fun w' hw' => ?_⟩
      refine quiet_call (by go_simp) (Qf.out w')
    try simp only [List.getElem_toArray, List.getElem_cons_zero, List.getElem_cons_succ, Act.put, List.setIfInBounds_toArray, List.set_cons_zero, List.set_cons_succ]
    refine g_make 4 _ (.cells #[.int .u64 0, .int .u64 0, .int .u64 0, .int .u64 0, .int .u64 0] 28) (fun k => k == 4) rfl rfl rfl rfl ?_ ?_ (by kernel_rfl) (by kernel_rfl) (by kernel_rfl) (by kernel_rfl) (fun gf => ?_)
    · intro a w
      go_simp
    · intro j hj
      simp only [beq_iff_eq] at hj
      subst hj
      left; simp
    try simp only [List.getElem_toArray, List.getElem_cons_zero, List.getElem_cons_succ, Act.put, List.setIfInBounds_toArray, List.set_cons_zero, List.set_cons_succ]
    refine g_store 5 4 _ (.cells #[.int .u64 f0, .int .u64 f1, .int .u64 f2, .int .u64 f3, .int .u64 f4] 28) gf (.cells #[.int .u64 0, .int .u64 0, .int .u64 0, .int .u64 0, .int .u64 0] 28) (fun k => false) rfl rfl rfl rfl ?_ (by kernel_rfl) (by kernel_rfl) (by kernel_rfl) (by kernel_rfl) (by simp [upd]) ?_ ?_
    · intro j hj
      simp at hj
    · intro w' hh
      obtain ⟨k0, k1, k2, k3, k4, k5, k6⟩ := bl5_of_heap hh
      refine ⟨(((((w'.setCell ⟨gf, 0, none⟩ (.int .u64 f0)).setCell ⟨gf, 1, none⟩ (.int .u64 f1)).setCell ⟨gf, 2, none⟩ (.int .u64 f2)).setCell ⟨gf, 3, none⟩ (.int .u64 f3)).setCell ⟨gf, 4, none⟩ (.int .u64 f4)), ?_, turned_set5 _ _ _ _ _ hh⟩
      clear hh
      go_simp
    try simp only [List.getElem_toArray, List.getElem_cons_zero, List.getElem_cons_succ, Act.put, List.setIfInBounds_toArray, List.set_cons_zero, List.set_cons_succ]
    refine ⟨by kernel_rfl, fun v4 hV => ?_⟩
    have own := hV.own 4 _ (by simp [upd]; rfl)
    have g := hV.bel
    have B_4 : Hid (Bl5 v4 gf f0 f1 f2 f3 f4) := bl5_of_heap own.2.2
    have nbBX : ¬ (gf = w.heap.size) := by have h1 := own.1; have h2 := X_3.out.lt; dsimp only at h1; omega
    have nbBY : ¬ (gf = (w.heap.size + 1)) := by have h1 := own.1; have h2 := Y_3.out.lt; dsimp only at h1; omega
    have nbBR : ¬ (gf = (w.heap.size + 1 + 1)) := by have h1 := own.1; have h2 := R_3.out.lt; dsimp only at h1; omega
    have nbBA : ¬ (gf = v2.heap.size) := by have h1 := own.1; have h2 := A_3.out.lt; dsimp only at h1; omega
    have szB : w.heap.size ≤ gf := by have h1 := own.1; have h2 := G_3.out.size; dsimp only at h1; omega
    have X_4 := hold (X_3.out.below g)
    have Y_4 := hold (Y_3.out.below g)
    have R_4 := hold (R_3.out.below g)
    have A_4 := hold (A_3.out.below g)
    have Z_4 := hold (Z_3.out.grown g)
    have G_4 := hold (G_3.out.trans (g.mono G_3.out.size))
    clear own hV g X_3 Y_3 R_3 A_3 Z_3 G_3
    obtain ⟨cbl, cb0, cb1, cb2, cb3, cb4, cbf⟩ := B_4.out
    obtain ⟨cxl, cx0, cx1, cx2, cx3, cx4, cxf⟩ := X_4.out
    go_wp2_with fail
    refine (Q1.out _).mono ?_
    rintro e v5 ⟨rfl, g⟩
    clear cbl cb0 cb1 cb2 cb3 cb4 cbf cxl cx0 cx1 cx2 cx3 cx4 cxf
    have X_5 := hold (X_4.out.below g)
    have Y_5 := hold (Y_4.out.below g)
    have R_5 := hold (R_4.out.below g)
    have A_5 := hold (A_4.out.below g)
    have B_5 := hold (B_4.out.below g)
    have Z_5 := hold (Z_4.out.grown g)
    have G_5 := hold (G_4.out.trans (g.mono G_4.out.size))
    clear X_4 Y_4 R_4 A_4 B_4 Z_4 G_4 g
    obtain ⟨cal, ca0, ca1, ca2, ca3, ca4, caf⟩ := A_5.out
    go_wp2_with fail
    refine (Qr.out _).mono ?_
    rintro e v6 ⟨rfl, g⟩
    clear cal ca0 ca1 ca2 ca3 ca4 caf
    have X_6 := hold (X_5.out.below g)
    have Y_6 := hold (Y_5.out.below g)
    have R_6 := hold (R_5.out.below g)
    have A_6 := hold (A_5.out.below g)
    have B_6 := hold (B_5.out.below g)
    have Z_6 := hold (Z_5.out.grown g)
    have G_6 := hold (G_5.out.trans (g.mono G_5.out.size))
    clear X_5 Y_5 R_5 A_5 B_5 Z_5 G_5 g
    obtain ⟨cal, ca0, ca1, ca2, ca3, ca4, caf⟩ := A_6.out
    go_wp2_with fail
    clear cal ca0 ca1 ca2 ca3 ca4 caf
    refine wp_cut (fun V => Bl5 V w.heap.size x0 x1 x2 x3 x4 ∧ Bl5 V (w.heap.size + 1) y0 y1 y2 y3 y4 ∧ Bl5 V (w.heap.size + 1 + 1) 0 0 0 0 0 ∧ Bl5 V v2.heap.size r0 r1 r2 r3 r4 ∧ Bl5 V gf f0 f1 f2 f3 f4 ∧ Gl V ∧ Below w.heap.size w V) ⟨(((((X_6.out.other v2.heap.size 0 (.int .u64 r0) (by omega)).other v2.heap.size 1 (.int .u64 r1) (by omega)).other v2.heap.size 2 (.int .u64 r2) (by omega)).other v2.heap.size 3 (.int .u64 r3) (by omega)).other v2.heap.size 4 (.int .u64 r4) (by omega)), (((((Y_6.out.other v2.heap.size 0 (.int .u64 r0) (by omega)).other v2.heap.size 1 (.int .u64 r1) (by omega)).other v2.heap.size 2 (.int .u64 r2) (by omega)).other v2.heap.size 3 (.int .u64 r3) (by omega)).other v2.heap.size 4 (.int .u64 r4) (by omega)), (((((R_6.out.other v2.heap.size 0 (.int .u64 r0) (by omega)).other v2.heap.size 1 (.int .u64 r1) (by omega)).other v2.heap.size 2 (.int .u64 r2) (by omega)).other v2.heap.size 3 (.int .u64 r3) (by omega)).other v2.heap.size 4 (.int .u64 r4) (by omega)), A_6.out.set r0 r1 r2 r3 r4, (((((B_6.out.other v2.heap.size 0 (.int .u64 r0) (by omega)).other v2.heap.size 1 (.int .u64 r1) (by omega)).other v2.heap.size 2 (.int .u64 r2) (by omega)).other v2.heap.size 3 (.int .u64 r3) (by omega)).other v2.heap.size 4 (.int .u64 r4) (by omega)), Z_6.out.below ((((((Below.refl w.heap.size v6).setCell (show w.heap.size ≤ v2.heap.size by omega) _).setCell (show w.heap.size ≤ v2.heap.size by omega) _).setCell (show w.heap.size ≤ v2.heap.size by omega) _).setCell (show w.heap.size ≤ v2.heap.size by omega) _).setCell (show w.heap.size ≤ v2.heap.size by omega) _) HG.out.lt, (((((G_6.out.setCell (show w.heap.size ≤ v2.heap.size by omega) _).setCell (show w.heap.size ≤ v2.heap.size by omega) _).setCell (show w.heap.size ≤ v2.heap.size by omega) _).setCell (show w.heap.size ≤ v2.heap.size by omega) _).setCell (show w.heap.size ≤ v2.heap.size by omega) _)⟩ ?_
    rintro v7 ⟨k0, k1, k2, k3, k4, k5, k6⟩
    have X_7 : Hid (Bl5 v7 w.heap.size x0 x1 x2 x3 x4) := k0
    have Y_7 : Hid (Bl5 v7 (w.heap.size + 1) y0 y1 y2 y3 y4) := k1
    have R_7 : Hid (Bl5 v7 (w.heap.size + 1 + 1) 0 0 0 0 0) := k2
    have A_7 : Hid (Bl5 v7 v2.heap.size r0 r1 r2 r3 r4) := k3
    have B_7 : Hid (Bl5 v7 gf f0 f1 f2 f3 f4) := k4
    have Z_7 : Hid (Gl v7) := k5
    have G_7 : Hid (Below w.heap.size w v7) := k6
    clear k0 k1 k2 k3 k4 k5 k6 X_6 Y_6 R_6 A_6 B_6 Z_6 G_6
    have K : v7.drew.cell? ⟨v2.heap.size, 0, none⟩ = some (.int .u64 r0) ∧ v7.drew.cell? ⟨v2.heap.size, 1, none⟩ = some (.int .u64 r1) ∧ v7.drew.cell? ⟨v2.heap.size, 2, none⟩ = some (.int .u64 r2) ∧ v7.drew.cell? ⟨v2.heap.size, 3, none⟩ = some (.int .u64 r3) ∧ v7.drew.cell? ⟨v2.heap.size, 4, none⟩ = some (.int .u64 r4) := ⟨A_7.out.drew.c0, A_7.out.drew.c1, A_7.out.drew.c2, A_7.out.drew.c3, A_7.out.drew.c4⟩
    have X_7' : Hid (Bl5 v7.drew w.heap.size x0 x1 x2 x3 x4) := X_7.out.drew
    have Y_7' : Hid (Bl5 v7.drew (w.heap.size + 1) y0 y1 y2 y3 y4) := Y_7.out.drew
    have R_7' : Hid (Bl5 v7.drew (w.heap.size + 1 + 1) 0 0 0 0 0) := R_7.out.drew
    have A_7' : Hid (Bl5 v7.drew v2.heap.size r0 r1 r2 r3 r4) := A_7.out.drew
    have B_7' : Hid (Bl5 v7.drew gf f0 f1 f2 f3 f4) := B_7.out.drew
    have Z_7' : Hid (Gl v7.drew) := Z_7.out.grown (Below.refl _ _).drew
    have G_7' : Hid (Below w.heap.size w v7.drew) := G_7.out.drew
    have neA : ¬ ((w.heap.size + 1 + 1) = v2.heap.size) := by omega
    have neA' : ¬ (v2.heap.size = (w.heap.size + 1 + 1)) := by omega
    go_wp2_with fail
    go_region_held3 (fun w' => w'.cell? ⟨v2.heap.size, 0, none⟩ = some (.int .u64 r0) ∧ w'.cell? ⟨v2.heap.size, 1, none⟩ = some (.int .u64 r1) ∧ w'.cell? ⟨v2.heap.size, 2, none⟩ = some (.int .u64 r2) ∧ w'.cell? ⟨v2.heap.size, 3, none⟩ = some (.int .u64 r3) ∧ w'.cell? ⟨v2.heap.size, 4, none⟩ = some (.int .u64 r4)) (first | with_reducible assumption | go_keep)
      (first
        | (go_at_call 82; have gg := G_9; clear gg; (refine (Qt.out _).mono ?_); (rintro e v10 ⟨rfl, g⟩; have X_10 := hold (X_9.out.below g); have Y_10 := hold (Y_9.out.below g); have R_10 := hold (R_9.out.below g); have A_10 := hold (A_9.out.below g); have B_10 := hold (B_9.out.below g); have Z_10 := hold (Z_9.out.grown g); have G_10 := hold (G_9.out.trans (g.mono G_9.out.size)); clear g; clear K; have K : v10.cell? ⟨v2.heap.size, 0, none⟩ = some (.int .u64 r0) ∧ v10.cell? ⟨v2.heap.size, 1, none⟩ = some (.int .u64 r1) ∧ v10.cell? ⟨v2.heap.size, 2, none⟩ = some (.int .u64 r2) ∧ v10.cell? ⟨v2.heap.size, 3, none⟩ = some (.int .u64 r3) ∧ v10.cell? ⟨v2.heap.size, 4, none⟩ = some (.int .u64 r4) := ⟨A_10.out.c0, A_10.out.c1, A_10.out.c2, A_10.out.c3, A_10.out.c4⟩; obtain ⟨stl, st0, st1, st2, st3, st4, stf⟩ := R_10.out))
        | (go_at_call 108; have gg := G_8; clear gg; (refine (Qs.out _).mono ?_); (rintro e v9 ⟨rfl, g⟩; have X_9 := hold (X_8.out.below g); have Y_9 := hold (Y_8.out.below g); have R_9 := hold (R_8.out.below g); have A_9 := hold (A_8.out.below g); have B_9 := hold (B_8.out.below g); have Z_9 := hold (Z_8.out.grown g); have G_9 := hold (G_8.out.trans (g.mono G_8.out.size)); clear g; clear K; have K : v9.cell? ⟨v2.heap.size, 0, none⟩ = some (.int .u64 r0) ∧ v9.cell? ⟨v2.heap.size, 1, none⟩ = some (.int .u64 r1) ∧ v9.cell? ⟨v2.heap.size, 2, none⟩ = some (.int .u64 r2) ∧ v9.cell? ⟨v2.heap.size, 3, none⟩ = some (.int .u64 r3) ∧ v9.cell? ⟨v2.heap.size, 4, none⟩ = some (.int .u64 r4) := ⟨A_9.out.c0, A_9.out.c1, A_9.out.c2, A_9.out.c3, A_9.out.c4⟩))
        | (go_at_call 38; have gg := G_7'; clear gg; (refine (Qh.out _ Z_7'.out).mono ?_); (rintro e v8 ⟨rfl, g⟩; have X_8 := hold (X_7'.out.below g); have Y_8 := hold (Y_7'.out.below g); have R_8 := hold (R_7'.out.below g); have A_8 := hold (A_7'.out.below g); have B_8 := hold (B_7'.out.below g); have Z_8 := hold (Z_7'.out.grown g); have G_8 := hold (G_7'.out.trans (g.mono G_7'.out.size)); clear g; clear K; have K : v8.cell? ⟨v2.heap.size, 0, none⟩ = some (.int .u64 r0) ∧ v8.cell? ⟨v2.heap.size, 1, none⟩ = some (.int .u64 r1) ∧ v8.cell? ⟨v2.heap.size, 2, none⟩ = some (.int .u64 r2) ∧ v8.cell? ⟨v2.heap.size, 3, none⟩ = some (.int .u64 r3) ∧ v8.cell? ⟨v2.heap.size, 4, none⟩ = some (.int .u64 r4) := ⟨A_8.out.c0, A_8.out.c1, A_8.out.c2, A_8.out.c3, A_8.out.c4⟩))
        | fail)
    clear K neA neA'
    go_wp2_with fail
    refine body_cut (fun W => Bl5 W (w.heap.size + 1 + 1) t0 t1 t2 t3 t4 ∧ Below w.heap.size w W) ⟨R_10.out.set t0 t1 t2 t3 t4, ?_⟩ ?_
    · iterate 5 (refine Below.setCell ?_ (by simp <;> omega) _)
      exact G_10.out
    · rintro W ⟨⟨rl, r0, r1, r2, r3, r4, rf⟩, hb⟩
      exact bodyPost_ret (v := .tuple #[.agg #[.int .u64 t0, .int .u64 t1, .int .u64 t2, .int .u64 t3, .int .u64 t4], .bool true]) (by simp [results, Tryd.results83, go_sem, r0, r1, r2, r3, r4]) rfl ⟨rfl, hb⟩
  · by_cases h2 : f.nn = (P25 - x.nn) % P25
    · obtain ⟨m, hm, em, km⟩ := mul_fe n ⟨1718705420411056, 234908883556509, 2233514472574048, 2117202627021982, 765476049583133⟩ hn tame_I
      have vm : m.nn = n.nn * I25 % P25 := by rw [nn_mul n _ m em.out, nn_low num_I (by decide +kernel)]
      obtain ⟨r, h, s, t, ht, vt, kr, kh, ks, kt⟩ := rootEnd m hm
      rw [if_neg h1, if_neg h1, if_pos h2, if_pos h2, ← vm]
      refine ⟨t, ht, vt, fun w HG' => ?_⟩
      rw [decide_eq_false (fun h => h1 (d1.1 h))] at ks1
      rw [decide_eq_true (d2.2 h2)] at ks2
      have HG : Hid (Gl w) := HG'
      clear HG' vt vf vq vg d1 d2 en eq ef eg em vm hn hq hf hg hm ht h1 h2 hx hy
      obtain ⟨x0, x1, x2, x3, x4⟩ := x
      obtain ⟨y0, y1, y2, y3, y4⟩ := y
      obtain ⟨n0, n1, n2, n3, n4⟩ := n
      obtain ⟨q0, q1, q2, q3, q4⟩ := q
      obtain ⟨f0, f1, f2, f3, f4⟩ := f
      obtain ⟨g0, g1, g2, g3, g4⟩ := g
      obtain ⟨r0, r1, r2, r3, r4⟩ := r
      obtain ⟨h0, h1, h2, h3, h4⟩ := h
      obtain ⟨s0, s1, s2, s3, s4⟩ := s
      obtain ⟨t0, t1, t2, t3, t4⟩ := t
      obtain ⟨m0, m1, m2, m3, m4⟩ := m
      dsimp only at kn kq kf ks1 kg ks2 kr kh ks kt km ⊢
      have Qn : Hid (∀ w : World, Calls Tryd.prog 107 #[.agg #[.int .u64 x0, .int .u64 x1, .int .u64 x2, .int .u64 x3, .int .u64 x4], .agg #[.int .u64 y0, .int .u64 y1, .int .u64 y2, .int .u64 y3, .int .u64 y4]] w fun e w' => e = .returned (.agg #[.int .u64 n0, .int .u64 n1, .int .u64 n2, .int .u64 n3, .int .u64 n4]) ∧ Below w.heap.size w w') := kn
      have Qq : Hid (∀ w : World, Calls Tryd.prog 80 #[.agg #[.int .u64 n0, .int .u64 n1, .int .u64 n2, .int .u64 n3, .int .u64 n4], .int .i64 1] w fun e w' => e = .returned (.agg #[.int .u64 q0, .int .u64 q1, .int .u64 q2, .int .u64 q3, .int .u64 q4]) ∧ Below w.heap.size w w') := kq
      have Qf : Hid (∀ w : World, Calls Tryd.prog 66 #[.agg #[.int .u64 q0, .int .u64 q1, .int .u64 q2, .int .u64 q3, .int .u64 q4], .agg #[.int .u64 y0, .int .u64 y1, .int .u64 y2, .int .u64 y3, .int .u64 y4]] w fun e w' => e = .returned (.agg #[.int .u64 f0, .int .u64 f1, .int .u64 f2, .int .u64 f3, .int .u64 f4]) ∧ Below w.heap.size w w') := kf
      have Q1 : Hid (∀ w : World, Calls Tryd.prog 65 #[.agg #[.int .u64 f0, .int .u64 f1, .int .u64 f2, .int .u64 f3, .int .u64 f4], .agg #[.int .u64 x0, .int .u64 x1, .int .u64 x2, .int .u64 x3, .int .u64 x4]] w fun e w' => e = .returned (.bool false) ∧ Below w.heap.size w w') := ks1
      have Qg : Hid (∀ w : World, Gl w → Calls Tryd.prog 38 #[.agg #[.int .u64 x0, .int .u64 x1, .int .u64 x2, .int .u64 x3, .int .u64 x4]] w fun e w' => e = .returned (.agg #[.int .u64 g0, .int .u64 g1, .int .u64 g2, .int .u64 g3, .int .u64 g4]) ∧ Below w.heap.size w w') := kg
      have Q2 : Hid (∀ w : World, Calls Tryd.prog 65 #[.agg #[.int .u64 f0, .int .u64 f1, .int .u64 f2, .int .u64 f3, .int .u64 f4], .agg #[.int .u64 g0, .int .u64 g1, .int .u64 g2, .int .u64 g3, .int .u64 g4]] w fun e w' => e = .returned (.bool true) ∧ Below w.heap.size w w') := ks2
      have Qm : Hid (∀ w : World, Calls Tryd.prog 66 #[.agg #[.int .u64 n0, .int .u64 n1, .int .u64 n2, .int .u64 n3, .int .u64 n4], .agg #[.int .u64 1718705420411056, .int .u64 234908883556509, .int .u64 2233514472574048, .int .u64 2117202627021982, .int .u64 765476049583133]] w fun e w' => e = .returned (.agg #[.int .u64 m0, .int .u64 m1, .int .u64 m2, .int .u64 m3, .int .u64 m4]) ∧ Below w.heap.size w w') := km
      have Qr : Hid (∀ w : World, Calls Tryd.prog 82 #[.agg #[.int .u64 m0, .int .u64 m1, .int .u64 m2, .int .u64 m3, .int .u64 m4]] w fun e w' => e = .returned (.agg #[.int .u64 r0, .int .u64 r1, .int .u64 r2, .int .u64 r3, .int .u64 r4]) ∧ Below w.heap.size w w') := kr
      have Qh : Hid (∀ w : World, Gl w → Calls Tryd.prog 38 #[.agg #[.int .u64 r0, .int .u64 r1, .int .u64 r2, .int .u64 r3, .int .u64 r4]] w fun e w' => e = .returned (.agg #[.int .u64 h0, .int .u64 h1, .int .u64 h2, .int .u64 h3, .int .u64 h4]) ∧ Below w.heap.size w w') := kh
      have Qs : Hid (∀ w : World, Calls Tryd.prog 108 #[.int .u64 r0, .agg #[.int .u64 h0, .int .u64 h1, .int .u64 h2, .int .u64 h3, .int .u64 h4], .agg #[.int .u64 r0, .int .u64 r1, .int .u64 r2, .int .u64 r3, .int .u64 r4]] w fun e w' => e = .returned (.agg #[.int .u64 s0, .int .u64 s1, .int .u64 s2, .int .u64 s3, .int .u64 s4]) ∧ Below w.heap.size w w') := ks
      have Qt : Hid (∀ w : World, Calls Tryd.prog 82 #[.agg #[.int .u64 s0, .int .u64 s1, .int .u64 s2, .int .u64 s3, .int .u64 s4]] w fun e w' => e = .returned (.agg #[.int .u64 t0, .int .u64 t1, .int .u64 t2, .int .u64 t3, .int .u64 t4]) ∧ Below w.heap.size w w') := kt
      clear kn kq kf ks1 kg ks2 kr kh ks kt km
      have gl := HG.out.lt
      go_enter Tryd.func83, Tryd.ntmps83
      go_wp2_with fail
      refine calls_at (fun V => Bl5 V w.heap.size x0 x1 x2 x3 x4 ∧ Bl5 V (w.heap.size + 1) y0 y1 y2 y3 y4 ∧ Bl5 V (w.heap.size + 1 + 1) 0 0 0 0 0 ∧ Gl V ∧ Below w.heap.size w V) ⟨?_, ?_, ?_, ?_, ?_⟩ ?_
      · (repeat (first | refine Bl5.drew ?_ | refine Bl5.drewN ?_ _ | (refine Bl5.new _ _ _ _ _ _ _ _ ?_; simp; done) | refine Bl5.alloc ?_ _))
      · (repeat (first | refine Bl5.drew ?_ | refine Bl5.drewN ?_ _ | (refine Bl5.new _ _ _ _ _ _ _ _ ?_; simp; done) | refine Bl5.alloc ?_ _))
      · (repeat (first | refine Bl5.drew ?_ | refine Bl5.drewN ?_ _ | (refine Bl5.new _ _ _ _ _ _ _ _ ?_; simp; done) | refine Bl5.alloc ?_ _))
      · refine Gl.grown HG.out ?_
        (repeat (first | exact Below.refl _ _ | refine Below.drew ?_ | refine below_drewN ?_ _ | refine Below.alloc ?_ (by simp <;> omega) _))
      · (repeat (first | exact Below.refl _ _ | refine Below.drew ?_ | refine below_drewN ?_ _ | refine Below.alloc ?_ (by simp <;> omega) _ | refine Below.setCell ?_ (by simp <;> omega) _))
      rintro v1 ⟨k0, k1, k2, k3, k4⟩
      have X_1 : Hid (Bl5 v1 w.heap.size x0 x1 x2 x3 x4) := k0
      have Y_1 : Hid (Bl5 v1 (w.heap.size + 1) y0 y1 y2 y3 y4) := k1
      have R_1 : Hid (Bl5 v1 (w.heap.size + 1 + 1) 0 0 0 0 0) := k2
      have Z_1 : Hid (Gl v1) := k3
      have G_1 : Hid (Below w.heap.size w v1) := k4
      clear k0 k1 k2 k3 k4
      refine (Qn.out _).mono ?_
      rintro e v2 ⟨rfl, g⟩
      have X_2 := hold (X_1.out.below g)
      have Y_2 := hold (Y_1.out.below g)
      have R_2 := hold (R_1.out.below g)
      have Z_2 := hold (Z_1.out.grown g)
      have G_2 := hold (G_1.out.trans (g.mono G_1.out.size))
      clear X_1 Y_1 R_1 Z_1 G_1 g
      go_wp2_with fail
      have szA : w.heap.size ≤ v2.heap.size := G_2.out.size
      have nbAX : ¬ (v2.heap.size = w.heap.size) := by have := X_2.out.lt; omega
      have nbAY : ¬ (v2.heap.size = (w.heap.size + 1)) := by have := Y_2.out.lt; omega
      have nbAR : ¬ (v2.heap.size = (w.heap.size + 1 + 1)) := by have := R_2.out.lt; omega
      refine wp_cut (fun V => Bl5 V w.heap.size x0 x1 x2 x3 x4 ∧ Bl5 V (w.heap.size + 1) y0 y1 y2 y3 y4 ∧ Bl5 V (w.heap.size + 1 + 1) 0 0 0 0 0 ∧ Gl V ∧ Bl5 V v2.heap.size n0 n1 n2 n3 n4 ∧ Below w.heap.size w V) ⟨X_2.out.alloc _, Y_2.out.alloc _, R_2.out.alloc _, Z_2.out.grown ((Below.refl _ _).alloc (Nat.le_refl _) _), Bl5.new v2 _ _ _ _ _ _ _ rfl, G_2.out.alloc G_2.out.size _⟩ ?_
      rintro v3 ⟨k0, k1, k2, k3, k4, k5⟩
      have X_3 : Hid (Bl5 v3 w.heap.size x0 x1 x2 x3 x4) := k0
      have Y_3 : Hid (Bl5 v3 (w.heap.size + 1) y0 y1 y2 y3 y4) := k1
      have R_3 : Hid (Bl5 v3 (w.heap.size + 1 + 1) 0 0 0 0 0) := k2
      have Z_3 : Hid (Gl v3) := k3
      have A_3 : Hid (Bl5 v3 v2.heap.size n0 n1 n2 n3 n4) := k4
      have G_3 : Hid (Below w.heap.size w v3) := k5
      clear k0 k1 k2 k3 k4 k5 X_2 Y_2 R_2 Z_2 G_2
      refine wp_region_grow (ob := (fun k => if k = 4 then some (.cells #[.int .u64 0, .int .u64 0, .int .u64 0, .int .u64 0, .int .u64 0] 28) else none)) (st := (fun k => if k = 5 then some (4, .cells #[.int .u64 f0, .int .u64 f1, .int .u64 f2, .int .u64 f3, .int .u64 f4] 28) else none)) (by kernel_rfl) ?_
      simp only [List.size_toArray, List.length_cons, List.length_nil, Nat.reduceAdd, Array.replicate_succ, Array.replicate_zero, List.push_toArray, List.nil_append, List.cons_append]
      refine g_first 0 _ (.agg #[.int .u64 n0, .int .u64 n1, .int .u64 n2, .int .u64 n3, .int .u64 n4]) rfl rfl rfl (by kernel_rfl) (by kernel_rfl) (by kernel_rfl) ?_ ?_
      · refine Or.inl ⟨by rfl, fun w' hw' => ?_⟩
        obtain ⟨t0, t1, t2, t3, t4, t5, t6⟩ := A_3.out.below hw'
        unfold Oper.quietAt
        go_simp
      try simp only [List.getElem_toArray, List.getElem_cons_zero, List.getElem_cons_succ, Act.put, List.setIfInBounds_toArray, List.set_cons_zero, List.set_cons_succ]
      refine g_first 1 _ (.agg #[.int .u64 q0, .int .u64 q1, .int .u64 q2, .int .u64 q3, .int .u64 q4]) rfl rfl rfl (by kernel_rfl) (by kernel_rfl) (by kernel_rfl) ?_ ?_
      · refine Or.inl ⟨by rfl, fun w' hw' => ?_⟩
        refine quiet_call (by go_simp) (Qq.out w')
      try simp only [List.getElem_toArray, List.getElem_cons_zero, List.getElem_cons_succ, Act.put, List.setIfInBounds_toArray, List.set_cons_zero, List.set_cons_succ]
      refine g_first 2 _ (.agg #[.int .u64 y0, .int .u64 y1, .int .u64 y2, .int .u64 y3, .int .u64 y4]) rfl rfl rfl (by kernel_rfl) (by kernel_rfl) (by kernel_rfl) ?_ ?_
      · refine Or.inl ⟨by rfl, fun w' hw' => ?_⟩
        obtain ⟨t0, t1, t2, t3, t4, t5, t6⟩ := Y_3.out.below hw'
        unfold Oper.quietAt
        go_simp
      try simp only [List.getElem_toArray, List.getElem_cons_zero, List.getElem_cons_succ, Act.put, List.setIfInBounds_toArray, List.set_cons_zero, List.set_cons_succ]
      refine g_first 3 _ (.agg #[.int .u64 f0, .int .u64 f1, .int .u64 f2, .int .u64 f3, .int .u64 f4]) rfl rfl rfl (by kernel_rfl) (by kernel_rfl) (by kernel_rfl) ?_ ?_
      · refine Or.inl ⟨by rfl, fun w' hw' => ?_⟩
        refine quiet_call (by go_simp) (Qf.out w')
      try simp only [List.getElem_toArray, List.getElem_cons_zero, List.getElem_cons_succ, Act.put, List.setIfInBounds_toArray, List.set_cons_zero, List.set_cons_succ]
      refine g_make 4 _ (.cells #[.int .u64 0, .int .u64 0, .int .u64 0, .int .u64 0, .int .u64 0] 28) (fun k => k == 4) rfl rfl rfl rfl ?_ ?_ (by kernel_rfl) (by kernel_rfl) (by kernel_rfl) (by kernel_rfl) (fun gf => ?_)
      · intro a w
        go_simp
      · intro j hj
        simp only [beq_iff_eq] at hj
        subst hj
        left; simp
      try simp only [List.getElem_toArray, List.getElem_cons_zero, List.getElem_cons_succ, Act.put, List.setIfInBounds_toArray, List.set_cons_zero, List.set_cons_succ]
      refine g_store 5 4 _ (.cells #[.int .u64 f0, .int .u64 f1, .int .u64 f2, .int .u64 f3, .int .u64 f4] 28) gf (.cells #[.int .u64 0, .int .u64 0, .int .u64 0, .int .u64 0, .int .u64 0] 28) (fun k => false) rfl rfl rfl rfl ?_ (by kernel_rfl) (by kernel_rfl) (by kernel_rfl) (by kernel_rfl) (by simp [upd]) ?_ ?_
      · intro j hj
        simp at hj
      · intro w' hh
        obtain ⟨k0, k1, k2, k3, k4, k5, k6⟩ := bl5_of_heap hh
        refine ⟨(((((w'.setCell ⟨gf, 0, none⟩ (.int .u64 f0)).setCell ⟨gf, 1, none⟩ (.int .u64 f1)).setCell ⟨gf, 2, none⟩ (.int .u64 f2)).setCell ⟨gf, 3, none⟩ (.int .u64 f3)).setCell ⟨gf, 4, none⟩ (.int .u64 f4)), ?_, turned_set5 _ _ _ _ _ hh⟩
        clear hh
        go_simp
      try simp only [List.getElem_toArray, List.getElem_cons_zero, List.getElem_cons_succ, Act.put, List.setIfInBounds_toArray, List.set_cons_zero, List.set_cons_succ]
      refine ⟨by kernel_rfl, fun v4 hV => ?_⟩
      have own := hV.own 4 _ (by simp [upd]; rfl)
      have g := hV.bel
      have B_4 : Hid (Bl5 v4 gf f0 f1 f2 f3 f4) := bl5_of_heap own.2.2
      have nbBX : ¬ (gf = w.heap.size) := by have h1 := own.1; have h2 := X_3.out.lt; dsimp only at h1; omega
      have nbBY : ¬ (gf = (w.heap.size + 1)) := by have h1 := own.1; have h2 := Y_3.out.lt; dsimp only at h1; omega
      have nbBR : ¬ (gf = (w.heap.size + 1 + 1)) := by have h1 := own.1; have h2 := R_3.out.lt; dsimp only at h1; omega
      have nbBA : ¬ (gf = v2.heap.size) := by have h1 := own.1; have h2 := A_3.out.lt; dsimp only at h1; omega
      have szB : w.heap.size ≤ gf := by have h1 := own.1; have h2 := G_3.out.size; dsimp only at h1; omega
      have X_4 := hold (X_3.out.below g)
      have Y_4 := hold (Y_3.out.below g)
      have R_4 := hold (R_3.out.below g)
      have A_4 := hold (A_3.out.below g)
      have Z_4 := hold (Z_3.out.grown g)
      have G_4 := hold (G_3.out.trans (g.mono G_3.out.size))
      clear own hV g X_3 Y_3 R_3 A_3 Z_3 G_3
      obtain ⟨cbl, cb0, cb1, cb2, cb3, cb4, cbf⟩ := B_4.out
      obtain ⟨cxl, cx0, cx1, cx2, cx3, cx4, cxf⟩ := X_4.out
      go_wp2_with fail
      refine (Q1.out _).mono ?_
      rintro e v5 ⟨rfl, g⟩
      clear cbl cb0 cb1 cb2 cb3 cb4 cbf cxl cx0 cx1 cx2 cx3 cx4 cxf
      have X_5 := hold (X_4.out.below g)
      have Y_5 := hold (Y_4.out.below g)
      have R_5 := hold (R_4.out.below g)
      have A_5 := hold (A_4.out.below g)
      have B_5 := hold (B_4.out.below g)
      have Z_5 := hold (Z_4.out.grown g)
      have G_5 := hold (G_4.out.trans (g.mono G_4.out.size))
      clear X_4 Y_4 R_4 A_4 B_4 Z_4 G_4 g
      go_wp2_with fail
      have K : v5.drew.cell? ⟨w.heap.size, 0, none⟩ = some (.int .u64 x0) ∧ v5.drew.cell? ⟨w.heap.size, 1, none⟩ = some (.int .u64 x1) ∧ v5.drew.cell? ⟨w.heap.size, 2, none⟩ = some (.int .u64 x2) ∧ v5.drew.cell? ⟨w.heap.size, 3, none⟩ = some (.int .u64 x3) ∧ v5.drew.cell? ⟨w.heap.size, 4, none⟩ = some (.int .u64 x4) ∧ v5.drew.cell? ⟨gf, 0, none⟩ = some (.int .u64 f0) ∧ v5.drew.cell? ⟨gf, 1, none⟩ = some (.int .u64 f1) ∧ v5.drew.cell? ⟨gf, 2, none⟩ = some (.int .u64 f2) ∧ v5.drew.cell? ⟨gf, 3, none⟩ = some (.int .u64 f3) ∧ v5.drew.cell? ⟨gf, 4, none⟩ = some (.int .u64 f4) := ⟨X_5.out.drew.c0, X_5.out.drew.c1, X_5.out.drew.c2, X_5.out.drew.c3, X_5.out.drew.c4, B_5.out.drew.c0, B_5.out.drew.c1, B_5.out.drew.c2, B_5.out.drew.c3, B_5.out.drew.c4⟩
      have X_5' : Hid (Bl5 v5.drew w.heap.size x0 x1 x2 x3 x4) := X_5.out.drew
      have Y_5' : Hid (Bl5 v5.drew (w.heap.size + 1) y0 y1 y2 y3 y4) := Y_5.out.drew
      have R_5' : Hid (Bl5 v5.drew (w.heap.size + 1 + 1) 0 0 0 0 0) := R_5.out.drew
      have A_5' : Hid (Bl5 v5.drew v2.heap.size n0 n1 n2 n3 n4) := A_5.out.drew
      have B_5' : Hid (Bl5 v5.drew gf f0 f1 f2 f3 f4) := B_5.out.drew
      have Z_5' : Hid (Gl v5.drew) := Z_5.out.grown (Below.refl _ _).drew
      have G_5' : Hid (Below w.heap.size w v5.drew) := G_5.out.drew
      go_wp2_with fail
      go_region_held3 (fun w' => w'.cell? ⟨w.heap.size, 0, none⟩ = some (.int .u64 x0) ∧ w'.cell? ⟨w.heap.size, 1, none⟩ = some (.int .u64 x1) ∧ w'.cell? ⟨w.heap.size, 2, none⟩ = some (.int .u64 x2) ∧ w'.cell? ⟨w.heap.size, 3, none⟩ = some (.int .u64 x3) ∧ w'.cell? ⟨w.heap.size, 4, none⟩ = some (.int .u64 x4) ∧ w'.cell? ⟨gf, 0, none⟩ = some (.int .u64 f0) ∧ w'.cell? ⟨gf, 1, none⟩ = some (.int .u64 f1) ∧ w'.cell? ⟨gf, 2, none⟩ = some (.int .u64 f2) ∧ w'.cell? ⟨gf, 3, none⟩ = some (.int .u64 f3) ∧ w'.cell? ⟨gf, 4, none⟩ = some (.int .u64 f4)) (first | with_reducible assumption | go_keep)
        (first
          | (go_at_call 65; have gg := G_6; clear gg; (refine (Q2.out _).mono ?_); (rintro e v7 ⟨rfl, g⟩; have X_7 := hold (X_6.out.below g); have Y_7 := hold (Y_6.out.below g); have R_7 := hold (R_6.out.below g); have A_7 := hold (A_6.out.below g); have B_7 := hold (B_6.out.below g); have Z_7 := hold (Z_6.out.grown g); have G_7 := hold (G_6.out.trans (g.mono G_6.out.size)); clear g; clear K; have K : v7.cell? ⟨w.heap.size, 0, none⟩ = some (.int .u64 x0) ∧ v7.cell? ⟨w.heap.size, 1, none⟩ = some (.int .u64 x1) ∧ v7.cell? ⟨w.heap.size, 2, none⟩ = some (.int .u64 x2) ∧ v7.cell? ⟨w.heap.size, 3, none⟩ = some (.int .u64 x3) ∧ v7.cell? ⟨w.heap.size, 4, none⟩ = some (.int .u64 x4) ∧ v7.cell? ⟨gf, 0, none⟩ = some (.int .u64 f0) ∧ v7.cell? ⟨gf, 1, none⟩ = some (.int .u64 f1) ∧ v7.cell? ⟨gf, 2, none⟩ = some (.int .u64 f2) ∧ v7.cell? ⟨gf, 3, none⟩ = some (.int .u64 f3) ∧ v7.cell? ⟨gf, 4, none⟩ = some (.int .u64 f4) := ⟨X_7.out.c0, X_7.out.c1, X_7.out.c2, X_7.out.c3, X_7.out.c4, B_7.out.c0, B_7.out.c1, B_7.out.c2, B_7.out.c3, B_7.out.c4⟩))
          | (go_at_call 38; have gg := G_5'; clear gg; (refine (Qg.out _ Z_5'.out).mono ?_); (rintro e v6 ⟨rfl, g⟩; have X_6 := hold (X_5'.out.below g); have Y_6 := hold (Y_5'.out.below g); have R_6 := hold (R_5'.out.below g); have A_6 := hold (A_5'.out.below g); have B_6 := hold (B_5'.out.below g); have Z_6 := hold (Z_5'.out.grown g); have G_6 := hold (G_5'.out.trans (g.mono G_5'.out.size)); clear g; clear K; have K : v6.cell? ⟨w.heap.size, 0, none⟩ = some (.int .u64 x0) ∧ v6.cell? ⟨w.heap.size, 1, none⟩ = some (.int .u64 x1) ∧ v6.cell? ⟨w.heap.size, 2, none⟩ = some (.int .u64 x2) ∧ v6.cell? ⟨w.heap.size, 3, none⟩ = some (.int .u64 x3) ∧ v6.cell? ⟨w.heap.size, 4, none⟩ = some (.int .u64 x4) ∧ v6.cell? ⟨gf, 0, none⟩ = some (.int .u64 f0) ∧ v6.cell? ⟨gf, 1, none⟩ = some (.int .u64 f1) ∧ v6.cell? ⟨gf, 2, none⟩ = some (.int .u64 f2) ∧ v6.cell? ⟨gf, 3, none⟩ = some (.int .u64 f3) ∧ v6.cell? ⟨gf, 4, none⟩ = some (.int .u64 f4) := ⟨X_6.out.c0, X_6.out.c1, X_6.out.c2, X_6.out.c3, X_6.out.c4, B_6.out.c0, B_6.out.c1, B_6.out.c2, B_6.out.c3, B_6.out.c4⟩))
          | fail)
      clear K 
      obtain ⟨zl, -, -, -, -, -, z0, z1, z2, z3, z4⟩ := Z_7.out
      obtain ⟨cal, ca0, ca1, ca2, ca3, ca4, caf⟩ := A_7.out
      go_wp2_with fail
      refine (Qm.out _).mono ?_
      rintro e v8 ⟨rfl, g⟩
      clear cal ca0 ca1 ca2 ca3 ca4 caf
      have X_8 := hold (X_7.out.below g)
      have Y_8 := hold (Y_7.out.below g)
      have R_8 := hold (R_7.out.below g)
      have A_8 := hold (A_7.out.below g)
      have B_8 := hold (B_7.out.below g)
      have Z_8 := hold (Z_7.out.grown g)
      have G_8 := hold (G_7.out.trans (g.mono G_7.out.size))
      clear X_7 Y_7 R_7 A_7 B_7 Z_7 G_7 g
      clear zl z0 z1 z2 z3 z4
      obtain ⟨cal, ca0, ca1, ca2, ca3, ca4, caf⟩ := A_8.out
      go_wp2_with fail
      clear cal ca0 ca1 ca2 ca3 ca4 caf
      refine calls_at (fun V => Bl5 V w.heap.size x0 x1 x2 x3 x4 ∧ Bl5 V (w.heap.size + 1) y0 y1 y2 y3 y4 ∧ Bl5 V (w.heap.size + 1 + 1) 0 0 0 0 0 ∧ Bl5 V v2.heap.size m0 m1 m2 m3 m4 ∧ Bl5 V gf f0 f1 f2 f3 f4 ∧ Gl V ∧ Below w.heap.size w V) ⟨(((((X_8.out.other v2.heap.size 0 (.int .u64 m0) (by omega)).other v2.heap.size 1 (.int .u64 m1) (by omega)).other v2.heap.size 2 (.int .u64 m2) (by omega)).other v2.heap.size 3 (.int .u64 m3) (by omega)).other v2.heap.size 4 (.int .u64 m4) (by omega)), (((((Y_8.out.other v2.heap.size 0 (.int .u64 m0) (by omega)).other v2.heap.size 1 (.int .u64 m1) (by omega)).other v2.heap.size 2 (.int .u64 m2) (by omega)).other v2.heap.size 3 (.int .u64 m3) (by omega)).other v2.heap.size 4 (.int .u64 m4) (by omega)), (((((R_8.out.other v2.heap.size 0 (.int .u64 m0) (by omega)).other v2.heap.size 1 (.int .u64 m1) (by omega)).other v2.heap.size 2 (.int .u64 m2) (by omega)).other v2.heap.size 3 (.int .u64 m3) (by omega)).other v2.heap.size 4 (.int .u64 m4) (by omega)), A_8.out.set m0 m1 m2 m3 m4, (((((B_8.out.other v2.heap.size 0 (.int .u64 m0) (by omega)).other v2.heap.size 1 (.int .u64 m1) (by omega)).other v2.heap.size 2 (.int .u64 m2) (by omega)).other v2.heap.size 3 (.int .u64 m3) (by omega)).other v2.heap.size 4 (.int .u64 m4) (by omega)), Z_8.out.below ((((((Below.refl w.heap.size v8).setCell (show w.heap.size ≤ v2.heap.size by omega) _).setCell (show w.heap.size ≤ v2.heap.size by omega) _).setCell (show w.heap.size ≤ v2.heap.size by omega) _).setCell (show w.heap.size ≤ v2.heap.size by omega) _).setCell (show w.heap.size ≤ v2.heap.size by omega) _) HG.out.lt, (((((G_8.out.setCell (show w.heap.size ≤ v2.heap.size by omega) _).setCell (show w.heap.size ≤ v2.heap.size by omega) _).setCell (show w.heap.size ≤ v2.heap.size by omega) _).setCell (show w.heap.size ≤ v2.heap.size by omega) _).setCell (show w.heap.size ≤ v2.heap.size by omega) _)⟩ ?_
      rintro v9 ⟨k0, k1, k2, k3, k4, k5, k6⟩
      have X_9 : Hid (Bl5 v9 w.heap.size x0 x1 x2 x3 x4) := k0
      have Y_9 : Hid (Bl5 v9 (w.heap.size + 1) y0 y1 y2 y3 y4) := k1
      have R_9 : Hid (Bl5 v9 (w.heap.size + 1 + 1) 0 0 0 0 0) := k2
      have A_9 : Hid (Bl5 v9 v2.heap.size m0 m1 m2 m3 m4) := k3
      have B_9 : Hid (Bl5 v9 gf f0 f1 f2 f3 f4) := k4
      have Z_9 : Hid (Gl v9) := k5
      have G_9 : Hid (Below w.heap.size w v9) := k6
      clear k0 k1 k2 k3 k4 k5 k6 X_8 Y_8 R_8 A_8 B_8 Z_8 G_8
      refine (Qr.out _).mono ?_
      rintro e v10 ⟨rfl, g⟩
      have X_10 := hold (X_9.out.below g)
      have Y_10 := hold (Y_9.out.below g)
      have R_10 := hold (R_9.out.below g)
      have A_10 := hold (A_9.out.below g)
      have B_10 := hold (B_9.out.below g)
      have Z_10 := hold (Z_9.out.grown g)
      have G_10 := hold (G_9.out.trans (g.mono G_9.out.size))
      clear X_9 Y_9 R_9 A_9 B_9 Z_9 G_9 g
      obtain ⟨cal, ca0, ca1, ca2, ca3, ca4, caf⟩ := A_10.out
      go_wp2_with fail
      clear cal ca0 ca1 ca2 ca3 ca4 caf
      refine wp_cut (fun V => Bl5 V w.heap.size x0 x1 x2 x3 x4 ∧ Bl5 V (w.heap.size + 1) y0 y1 y2 y3 y4 ∧ Bl5 V (w.heap.size + 1 + 1) 0 0 0 0 0 ∧ Bl5 V v2.heap.size r0 r1 r2 r3 r4 ∧ Bl5 V gf f0 f1 f2 f3 f4 ∧ Gl V ∧ Below w.heap.size w V) ⟨(((((X_10.out.other v2.heap.size 0 (.int .u64 r0) (by omega)).other v2.heap.size 1 (.int .u64 r1) (by omega)).other v2.heap.size 2 (.int .u64 r2) (by omega)).other v2.heap.size 3 (.int .u64 r3) (by omega)).other v2.heap.size 4 (.int .u64 r4) (by omega)), (((((Y_10.out.other v2.heap.size 0 (.int .u64 r0) (by omega)).other v2.heap.size 1 (.int .u64 r1) (by omega)).other v2.heap.size 2 (.int .u64 r2) (by omega)).other v2.heap.size 3 (.int .u64 r3) (by omega)).other v2.heap.size 4 (.int .u64 r4) (by omega)), (((((R_10.out.other v2.heap.size 0 (.int .u64 r0) (by omega)).other v2.heap.size 1 (.int .u64 r1) (by omega)).other v2.heap.size 2 (.int .u64 r2) (by omega)).other v2.heap.size 3 (.int .u64 r3) (by omega)).other v2.heap.size 4 (.int .u64 r4) (by omega)), A_10.out.set r0 r1 r2 r3 r4, (((((B_10.out.other v2.heap.size 0 (.int .u64 r0) (by omega)).other v2.heap.size 1 (.int .u64 r1) (by omega)).other v2.heap.size 2 (.int .u64 r2) (by omega)).other v2.heap.size 3 (.int .u64 r3) (by omega)).other v2.heap.size 4 (.int .u64 r4) (by omega)), Z_10.out.below ((((((Below.refl w.heap.size v10).setCell (show w.heap.size ≤ v2.heap.size by omega) _).setCell (show w.heap.size ≤ v2.heap.size by omega) _).setCell (show w.heap.size ≤ v2.heap.size by omega) _).setCell (show w.heap.size ≤ v2.heap.size by omega) _).setCell (show w.heap.size ≤ v2.heap.size by omega) _) HG.out.lt, (((((G_10.out.setCell (show w.heap.size ≤ v2.heap.size by omega) _).setCell (show w.heap.size ≤ v2.heap.size by omega) _).setCell (show w.heap.size ≤ v2.heap.size by omega) _).setCell (show w.heap.size ≤ v2.heap.size by omega) _).setCell (show w.heap.size ≤ v2.heap.size by omega) _)⟩ ?_
      rintro v11 ⟨k0, k1, k2, k3, k4, k5, k6⟩
      have X_11 : Hid (Bl5 v11 w.heap.size x0 x1 x2 x3 x4) := k0
      have Y_11 : Hid (Bl5 v11 (w.heap.size + 1) y0 y1 y2 y3 y4) := k1
      have R_11 : Hid (Bl5 v11 (w.heap.size + 1 + 1) 0 0 0 0 0) := k2
      have A_11 : Hid (Bl5 v11 v2.heap.size r0 r1 r2 r3 r4) := k3
      have B_11 : Hid (Bl5 v11 gf f0 f1 f2 f3 f4) := k4
      have Z_11 : Hid (Gl v11) := k5
      have G_11 : Hid (Below w.heap.size w v11) := k6
      clear k0 k1 k2 k3 k4 k5 k6 X_10 Y_10 R_10 A_10 B_10 Z_10 G_10
      have K : v11.drew.cell? ⟨v2.heap.size, 0, none⟩ = some (.int .u64 r0) ∧ v11.drew.cell? ⟨v2.heap.size, 1, none⟩ = some (.int .u64 r1) ∧ v11.drew.cell? ⟨v2.heap.size, 2, none⟩ = some (.int .u64 r2) ∧ v11.drew.cell? ⟨v2.heap.size, 3, none⟩ = some (.int .u64 r3) ∧ v11.drew.cell? ⟨v2.heap.size, 4, none⟩ = some (.int .u64 r4) := ⟨A_11.out.drew.c0, A_11.out.drew.c1, A_11.out.drew.c2, A_11.out.drew.c3, A_11.out.drew.c4⟩
      have X_11' : Hid (Bl5 v11.drew w.heap.size x0 x1 x2 x3 x4) := X_11.out.drew
      have Y_11' : Hid (Bl5 v11.drew (w.heap.size + 1) y0 y1 y2 y3 y4) := Y_11.out.drew
      have R_11' : Hid (Bl5 v11.drew (w.heap.size + 1 + 1) 0 0 0 0 0) := R_11.out.drew
      have A_11' : Hid (Bl5 v11.drew v2.heap.size r0 r1 r2 r3 r4) := A_11.out.drew
      have B_11' : Hid (Bl5 v11.drew gf f0 f1 f2 f3 f4) := B_11.out.drew
      have Z_11' : Hid (Gl v11.drew) := Z_11.out.grown (Below.refl _ _).drew
      have G_11' : Hid (Below w.heap.size w v11.drew) := G_11.out.drew
      have neA : ¬ ((w.heap.size + 1 + 1) = v2.heap.size) := by omega
      have neA' : ¬ (v2.heap.size = (w.heap.size + 1 + 1)) := by omega
      go_wp2_with fail
      go_region_held3 (fun w' => w'.cell? ⟨v2.heap.size, 0, none⟩ = some (.int .u64 r0) ∧ w'.cell? ⟨v2.heap.size, 1, none⟩ = some (.int .u64 r1) ∧ w'.cell? ⟨v2.heap.size, 2, none⟩ = some (.int .u64 r2) ∧ w'.cell? ⟨v2.heap.size, 3, none⟩ = some (.int .u64 r3) ∧ w'.cell? ⟨v2.heap.size, 4, none⟩ = some (.int .u64 r4)) (first | with_reducible assumption | go_keep)
        (first
          | (go_at_call 82; have gg := G_13; clear gg; (refine (Qt.out _).mono ?_); (rintro e v14 ⟨rfl, g⟩; have X_14 := hold (X_13.out.below g); have Y_14 := hold (Y_13.out.below g); have R_14 := hold (R_13.out.below g); have A_14 := hold (A_13.out.below g); have B_14 := hold (B_13.out.below g); have Z_14 := hold (Z_13.out.grown g); have G_14 := hold (G_13.out.trans (g.mono G_13.out.size)); clear g; clear K; have K : v14.cell? ⟨v2.heap.size, 0, none⟩ = some (.int .u64 r0) ∧ v14.cell? ⟨v2.heap.size, 1, none⟩ = some (.int .u64 r1) ∧ v14.cell? ⟨v2.heap.size, 2, none⟩ = some (.int .u64 r2) ∧ v14.cell? ⟨v2.heap.size, 3, none⟩ = some (.int .u64 r3) ∧ v14.cell? ⟨v2.heap.size, 4, none⟩ = some (.int .u64 r4) := ⟨A_14.out.c0, A_14.out.c1, A_14.out.c2, A_14.out.c3, A_14.out.c4⟩; obtain ⟨stl, st0, st1, st2, st3, st4, stf⟩ := R_14.out))
          | (go_at_call 108; have gg := G_12; clear gg; (refine (Qs.out _).mono ?_); (rintro e v13 ⟨rfl, g⟩; have X_13 := hold (X_12.out.below g); have Y_13 := hold (Y_12.out.below g); have R_13 := hold (R_12.out.below g); have A_13 := hold (A_12.out.below g); have B_13 := hold (B_12.out.below g); have Z_13 := hold (Z_12.out.grown g); have G_13 := hold (G_12.out.trans (g.mono G_12.out.size)); clear g; clear K; have K : v13.cell? ⟨v2.heap.size, 0, none⟩ = some (.int .u64 r0) ∧ v13.cell? ⟨v2.heap.size, 1, none⟩ = some (.int .u64 r1) ∧ v13.cell? ⟨v2.heap.size, 2, none⟩ = some (.int .u64 r2) ∧ v13.cell? ⟨v2.heap.size, 3, none⟩ = some (.int .u64 r3) ∧ v13.cell? ⟨v2.heap.size, 4, none⟩ = some (.int .u64 r4) := ⟨A_13.out.c0, A_13.out.c1, A_13.out.c2, A_13.out.c3, A_13.out.c4⟩))
          | (go_at_call 38; have gg := G_11'; clear gg; (refine (Qh.out _ Z_11'.out).mono ?_); (rintro e v12 ⟨rfl, g⟩; have X_12 := hold (X_11'.out.below g); have Y_12 := hold (Y_11'.out.below g); have R_12 := hold (R_11'.out.below g); have A_12 := hold (A_11'.out.below g); have B_12 := hold (B_11'.out.below g); have Z_12 := hold (Z_11'.out.grown g); have G_12 := hold (G_11'.out.trans (g.mono G_11'.out.size)); clear g; clear K; have K : v12.cell? ⟨v2.heap.size, 0, none⟩ = some (.int .u64 r0) ∧ v12.cell? ⟨v2.heap.size, 1, none⟩ = some (.int .u64 r1) ∧ v12.cell? ⟨v2.heap.size, 2, none⟩ = some (.int .u64 r2) ∧ v12.cell? ⟨v2.heap.size, 3, none⟩ = some (.int .u64 r3) ∧ v12.cell? ⟨v2.heap.size, 4, none⟩ = some (.int .u64 r4) := ⟨A_12.out.c0, A_12.out.c1, A_12.out.c2, A_12.out.c3, A_12.out.c4⟩))
          | fail)
      clear K neA neA'
      go_wp2_with fail
      refine body_cut (fun W => Bl5 W (w.heap.size + 1 + 1) t0 t1 t2 t3 t4 ∧ Below w.heap.size w W) ⟨R_14.out.set t0 t1 t2 t3 t4, ?_⟩ ?_
      · iterate 5 (refine Below.setCell ?_ (by simp <;> omega) _)
        exact G_14.out
      · rintro W ⟨⟨rl, r0, r1, r2, r3, r4, rf⟩, hb⟩
        exact bodyPost_ret (v := .tuple #[.agg #[.int .u64 t0, .int .u64 t1, .int .u64 t2, .int .u64 t3, .int .u64 t4], .bool true]) (by simp [results, Tryd.results83, go_sem, r0, r1, r2, r3, r4]) rfl ⟨rfl, hb⟩
    · rw [if_neg h1, if_neg h1, if_neg h2, if_neg h2]
      refine ⟨⟨0, 0, 0, 0, 0⟩, low_zero, by decide, fun w HG' => ?_⟩
      rw [decide_eq_false (fun h => h1 (d1.1 h))] at ks1
      rw [decide_eq_false (fun h => h2 (d2.1 h))] at ks2
      have HG : Hid (Gl w) := HG'
      clear HG' vf vq vg d1 d2 en eq ef eg hn hq hf hg h1 h2 hx hy
      obtain ⟨x0, x1, x2, x3, x4⟩ := x
      obtain ⟨y0, y1, y2, y3, y4⟩ := y
      obtain ⟨n0, n1, n2, n3, n4⟩ := n
      obtain ⟨q0, q1, q2, q3, q4⟩ := q
      obtain ⟨f0, f1, f2, f3, f4⟩ := f
      obtain ⟨g0, g1, g2, g3, g4⟩ := g
      dsimp only at kn kq kf ks1 kg ks2 ⊢
      have Qn : Hid (∀ w : World, Calls Tryd.prog 107 #[.agg #[.int .u64 x0, .int .u64 x1, .int .u64 x2, .int .u64 x3, .int .u64 x4], .agg #[.int .u64 y0, .int .u64 y1, .int .u64 y2, .int .u64 y3, .int .u64 y4]] w fun e w' => e = .returned (.agg #[.int .u64 n0, .int .u64 n1, .int .u64 n2, .int .u64 n3, .int .u64 n4]) ∧ Below w.heap.size w w') := kn
      have Qq : Hid (∀ w : World, Calls Tryd.prog 80 #[.agg #[.int .u64 n0, .int .u64 n1, .int .u64 n2, .int .u64 n3, .int .u64 n4], .int .i64 1] w fun e w' => e = .returned (.agg #[.int .u64 q0, .int .u64 q1, .int .u64 q2, .int .u64 q3, .int .u64 q4]) ∧ Below w.heap.size w w') := kq
      have Qf : Hid (∀ w : World, Calls Tryd.prog 66 #[.agg #[.int .u64 q0, .int .u64 q1, .int .u64 q2, .int .u64 q3, .int .u64 q4], .agg #[.int .u64 y0, .int .u64 y1, .int .u64 y2, .int .u64 y3, .int .u64 y4]] w fun e w' => e = .returned (.agg #[.int .u64 f0, .int .u64 f1, .int .u64 f2, .int .u64 f3, .int .u64 f4]) ∧ Below w.heap.size w w') := kf
      have Q1 : Hid (∀ w : World, Calls Tryd.prog 65 #[.agg #[.int .u64 f0, .int .u64 f1, .int .u64 f2, .int .u64 f3, .int .u64 f4], .agg #[.int .u64 x0, .int .u64 x1, .int .u64 x2, .int .u64 x3, .int .u64 x4]] w fun e w' => e = .returned (.bool false) ∧ Below w.heap.size w w') := ks1
      have Qg : Hid (∀ w : World, Gl w → Calls Tryd.prog 38 #[.agg #[.int .u64 x0, .int .u64 x1, .int .u64 x2, .int .u64 x3, .int .u64 x4]] w fun e w' => e = .returned (.agg #[.int .u64 g0, .int .u64 g1, .int .u64 g2, .int .u64 g3, .int .u64 g4]) ∧ Below w.heap.size w w') := kg
      have Q2 : Hid (∀ w : World, Calls Tryd.prog 65 #[.agg #[.int .u64 f0, .int .u64 f1, .int .u64 f2, .int .u64 f3, .int .u64 f4], .agg #[.int .u64 g0, .int .u64 g1, .int .u64 g2, .int .u64 g3, .int .u64 g4]] w fun e w' => e = .returned (.bool false) ∧ Below w.heap.size w w') := ks2
      clear kn kq kf ks1 kg ks2
      have gl := HG.out.lt
      go_enter Tryd.func83, Tryd.ntmps83
      go_wp2_with fail
      refine calls_at (fun V => Bl5 V w.heap.size x0 x1 x2 x3 x4 ∧ Bl5 V (w.heap.size + 1) y0 y1 y2 y3 y4 ∧ Bl5 V (w.heap.size + 1 + 1) 0 0 0 0 0 ∧ Gl V ∧ Below w.heap.size w V) ⟨?_, ?_, ?_, ?_, ?_⟩ ?_
      · (repeat (first | refine Bl5.drew ?_ | refine Bl5.drewN ?_ _ | (refine Bl5.new _ _ _ _ _ _ _ _ ?_; simp; done) | refine Bl5.alloc ?_ _))
      · (repeat (first | refine Bl5.drew ?_ | refine Bl5.drewN ?_ _ | (refine Bl5.new _ _ _ _ _ _ _ _ ?_; simp; done) | refine Bl5.alloc ?_ _))
      · (repeat (first | refine Bl5.drew ?_ | refine Bl5.drewN ?_ _ | (refine Bl5.new _ _ _ _ _ _ _ _ ?_; simp; done) | refine Bl5.alloc ?_ _))
      · refine Gl.grown HG.out ?_
        (repeat (first | exact Below.refl _ _ | refine Below.drew ?_ | refine below_drewN ?_ _ | refine Below.alloc ?_ (by simp <;> omega) _))
      · (repeat (first | exact Below.refl _ _ | refine Below.drew ?_ | refine below_drewN ?_ _ | refine Below.alloc ?_ (by simp <;> omega) _ | refine Below.setCell ?_ (by simp <;> omega) _))
      rintro v1 ⟨k0, k1, k2, k3, k4⟩
      have X_1 : Hid (Bl5 v1 w.heap.size x0 x1 x2 x3 x4) := k0
      have Y_1 : Hid (Bl5 v1 (w.heap.size + 1) y0 y1 y2 y3 y4) := k1
      have R_1 : Hid (Bl5 v1 (w.heap.size + 1 + 1) 0 0 0 0 0) := k2
      have Z_1 : Hid (Gl v1) := k3
      have G_1 : Hid (Below w.heap.size w v1) := k4
      clear k0 k1 k2 k3 k4
      refine (Qn.out _).mono ?_
      rintro e v2 ⟨rfl, g⟩
      have X_2 := hold (X_1.out.below g)
      have Y_2 := hold (Y_1.out.below g)
      have R_2 := hold (R_1.out.below g)
      have Z_2 := hold (Z_1.out.grown g)
      have G_2 := hold (G_1.out.trans (g.mono G_1.out.size))
      clear X_1 Y_1 R_1 Z_1 G_1 g
      go_wp2_with fail
      have szA : w.heap.size ≤ v2.heap.size := G_2.out.size
      have nbAX : ¬ (v2.heap.size = w.heap.size) := by have := X_2.out.lt; omega
      have nbAY : ¬ (v2.heap.size = (w.heap.size + 1)) := by have := Y_2.out.lt; omega
      have nbAR : ¬ (v2.heap.size = (w.heap.size + 1 + 1)) := by have := R_2.out.lt; omega
      refine wp_cut (fun V => Bl5 V w.heap.size x0 x1 x2 x3 x4 ∧ Bl5 V (w.heap.size + 1) y0 y1 y2 y3 y4 ∧ Bl5 V (w.heap.size + 1 + 1) 0 0 0 0 0 ∧ Gl V ∧ Bl5 V v2.heap.size n0 n1 n2 n3 n4 ∧ Below w.heap.size w V) ⟨X_2.out.alloc _, Y_2.out.alloc _, R_2.out.alloc _, Z_2.out.grown ((Below.refl _ _).alloc (Nat.le_refl _) _), Bl5.new v2 _ _ _ _ _ _ _ rfl, G_2.out.alloc G_2.out.size _⟩ ?_
      rintro v3 ⟨k0, k1, k2, k3, k4, k5⟩
      have X_3 : Hid (Bl5 v3 w.heap.size x0 x1 x2 x3 x4) := k0
      have Y_3 : Hid (Bl5 v3 (w.heap.size + 1) y0 y1 y2 y3 y4) := k1
      have R_3 : Hid (Bl5 v3 (w.heap.size + 1 + 1) 0 0 0 0 0) := k2
      have Z_3 : Hid (Gl v3) := k3
      have A_3 : Hid (Bl5 v3 v2.heap.size n0 n1 n2 n3 n4) := k4
      have G_3 : Hid (Below w.heap.size w v3) := k5
      clear k0 k1 k2 k3 k4 k5 X_2 Y_2 R_2 Z_2 G_2
      refine wp_region_grow (ob := (fun k => if k = 4 then some (.cells #[.int .u64 0, .int .u64 0, .int .u64 0, .int .u64 0, .int .u64 0] 28) else none)) (st := (fun k => if k = 5 then some (4, .cells #[.int .u64 f0, .int .u64 f1, .int .u64 f2, .int .u64 f3, .int .u64 f4] 28) else none)) (by kernel_rfl) ?_
      simp only [List.size_toArray, List.length_cons, List.length_nil, Nat.reduceAdd, Array.replicate_succ, Array.replicate_zero, List.push_toArray, List.nil_append, List.cons_append]
      refine g_first 0 _ (.agg #[.int .u64 n0, .int .u64 n1, .int .u64 n2, .int .u64 n3, .int .u64 n4]) rfl rfl rfl (by kernel_rfl) (by kernel_rfl) (by kernel_rfl) ?_ ?_
      · refine Or.inl ⟨by rfl, fun w' hw' => ?_⟩
        obtain ⟨t0, t1, t2, t3, t4, t5, t6⟩ := A_3.out.below hw'
        unfold Oper.quietAt
        go_simp
      try simp only [List.getElem_toArray, List.getElem_cons_zero, List.getElem_cons_succ, Act.put, List.setIfInBounds_toArray, List.set_cons_zero, List.set_cons_succ]
      refine g_first 1 _ (.agg #[.int .u64 q0, .int .u64 q1, .int .u64 q2, .int .u64 q3, .int .u64 q4]) rfl rfl rfl (by kernel_rfl) (by kernel_rfl) (by kernel_rfl) ?_ ?_
      · refine Or.inl ⟨by rfl, fun w' hw' => ?_⟩
        refine quiet_call (by go_simp) (Qq.out w')
      try simp only [List.getElem_toArray, List.getElem_cons_zero, List.getElem_cons_succ, Act.put, List.setIfInBounds_toArray, List.set_cons_zero, List.set_cons_succ]
      refine g_first 2 _ (.agg #[.int .u64 y0, .int .u64 y1, .int .u64 y2, .int .u64 y3, .int .u64 y4]) rfl rfl rfl (by kernel_rfl) (by kernel_rfl) (by kernel_rfl) ?_ ?_
      · refine Or.inl ⟨by rfl, fun w' hw' => ?_⟩
        obtain ⟨t0, t1, t2, t3, t4, t5, t6⟩ := Y_3.out.below hw'
        unfold Oper.quietAt
        go_simp
      try simp only [List.getElem_toArray, List.getElem_cons_zero, List.getElem_cons_succ, Act.put, List.setIfInBounds_toArray, List.set_cons_zero, List.set_cons_succ]
      refine g_first 3 _ (.agg #[.int .u64 f0, .int .u64 f1, .int .u64 f2, .int .u64 f3, .int .u64 f4]) rfl rfl rfl (by kernel_rfl) (by kernel_rfl) (by kernel_rfl) ?_ ?_
      · refine Or.inl ⟨by rfl, fun w' hw' => ?_⟩
        refine quiet_call (by go_simp) (Qf.out w')
      try simp only [List.getElem_toArray, List.getElem_cons_zero, List.getElem_cons_succ, Act.put, List.setIfInBounds_toArray, List.set_cons_zero, List.set_cons_succ]
      refine g_make 4 _ (.cells #[.int .u64 0, .int .u64 0, .int .u64 0, .int .u64 0, .int .u64 0] 28) (fun k => k == 4) rfl rfl rfl rfl ?_ ?_ (by kernel_rfl) (by kernel_rfl) (by kernel_rfl) (by kernel_rfl) (fun gf => ?_)
      · intro a w
        go_simp
      · intro j hj
        simp only [beq_iff_eq] at hj
        subst hj
        left; simp
      try simp only [List.getElem_toArray, List.getElem_cons_zero, List.getElem_cons_succ, Act.put, List.setIfInBounds_toArray, List.set_cons_zero, List.set_cons_succ]
      refine g_store 5 4 _ (.cells #[.int .u64 f0, .int .u64 f1, .int .u64 f2, .int .u64 f3, .int .u64 f4] 28) gf (.cells #[.int .u64 0, .int .u64 0, .int .u64 0, .int .u64 0, .int .u64 0] 28) (fun k => false) rfl rfl rfl rfl ?_ (by kernel_rfl) (by kernel_rfl) (by kernel_rfl) (by kernel_rfl) (by simp [upd]) ?_ ?_
      · intro j hj
        simp at hj
      · intro w' hh
        obtain ⟨k0, k1, k2, k3, k4, k5, k6⟩ := bl5_of_heap hh
        refine ⟨(((((w'.setCell ⟨gf, 0, none⟩ (.int .u64 f0)).setCell ⟨gf, 1, none⟩ (.int .u64 f1)).setCell ⟨gf, 2, none⟩ (.int .u64 f2)).setCell ⟨gf, 3, none⟩ (.int .u64 f3)).setCell ⟨gf, 4, none⟩ (.int .u64 f4)), ?_, turned_set5 _ _ _ _ _ hh⟩
        clear hh
        go_simp
      try simp only [List.getElem_toArray, List.getElem_cons_zero, List.getElem_cons_succ, Act.put, List.setIfInBounds_toArray, List.set_cons_zero, List.set_cons_succ]
      refine ⟨by kernel_rfl, fun v4 hV => ?_⟩
      have own := hV.own 4 _ (by simp [upd]; rfl)
      have g := hV.bel
      have B_4 : Hid (Bl5 v4 gf f0 f1 f2 f3 f4) := bl5_of_heap own.2.2
      have nbBX : ¬ (gf = w.heap.size) := by have h1 := own.1; have h2 := X_3.out.lt; dsimp only at h1; omega
      have nbBY : ¬ (gf = (w.heap.size + 1)) := by have h1 := own.1; have h2 := Y_3.out.lt; dsimp only at h1; omega
      have nbBR : ¬ (gf = (w.heap.size + 1 + 1)) := by have h1 := own.1; have h2 := R_3.out.lt; dsimp only at h1; omega
      have nbBA : ¬ (gf = v2.heap.size) := by have h1 := own.1; have h2 := A_3.out.lt; dsimp only at h1; omega
      have szB : w.heap.size ≤ gf := by have h1 := own.1; have h2 := G_3.out.size; dsimp only at h1; omega
      have X_4 := hold (X_3.out.below g)
      have Y_4 := hold (Y_3.out.below g)
      have R_4 := hold (R_3.out.below g)
      have A_4 := hold (A_3.out.below g)
      have Z_4 := hold (Z_3.out.grown g)
      have G_4 := hold (G_3.out.trans (g.mono G_3.out.size))
      clear own hV g X_3 Y_3 R_3 A_3 Z_3 G_3
      obtain ⟨cbl, cb0, cb1, cb2, cb3, cb4, cbf⟩ := B_4.out
      obtain ⟨cxl, cx0, cx1, cx2, cx3, cx4, cxf⟩ := X_4.out
      go_wp2_with fail
      refine (Q1.out _).mono ?_
      rintro e v5 ⟨rfl, g⟩
      clear cbl cb0 cb1 cb2 cb3 cb4 cbf cxl cx0 cx1 cx2 cx3 cx4 cxf
      have X_5 := hold (X_4.out.below g)
      have Y_5 := hold (Y_4.out.below g)
      have R_5 := hold (R_4.out.below g)
      have A_5 := hold (A_4.out.below g)
      have B_5 := hold (B_4.out.below g)
      have Z_5 := hold (Z_4.out.grown g)
      have G_5 := hold (G_4.out.trans (g.mono G_4.out.size))
      clear X_4 Y_4 R_4 A_4 B_4 Z_4 G_4 g
      go_wp2_with fail
      have K : v5.drew.cell? ⟨w.heap.size, 0, none⟩ = some (.int .u64 x0) ∧ v5.drew.cell? ⟨w.heap.size, 1, none⟩ = some (.int .u64 x1) ∧ v5.drew.cell? ⟨w.heap.size, 2, none⟩ = some (.int .u64 x2) ∧ v5.drew.cell? ⟨w.heap.size, 3, none⟩ = some (.int .u64 x3) ∧ v5.drew.cell? ⟨w.heap.size, 4, none⟩ = some (.int .u64 x4) ∧ v5.drew.cell? ⟨gf, 0, none⟩ = some (.int .u64 f0) ∧ v5.drew.cell? ⟨gf, 1, none⟩ = some (.int .u64 f1) ∧ v5.drew.cell? ⟨gf, 2, none⟩ = some (.int .u64 f2) ∧ v5.drew.cell? ⟨gf, 3, none⟩ = some (.int .u64 f3) ∧ v5.drew.cell? ⟨gf, 4, none⟩ = some (.int .u64 f4) := ⟨X_5.out.drew.c0, X_5.out.drew.c1, X_5.out.drew.c2, X_5.out.drew.c3, X_5.out.drew.c4, B_5.out.drew.c0, B_5.out.drew.c1, B_5.out.drew.c2, B_5.out.drew.c3, B_5.out.drew.c4⟩
      have X_5' : Hid (Bl5 v5.drew w.heap.size x0 x1 x2 x3 x4) := X_5.out.drew
      have Y_5' : Hid (Bl5 v5.drew (w.heap.size + 1) y0 y1 y2 y3 y4) := Y_5.out.drew
      have R_5' : Hid (Bl5 v5.drew (w.heap.size + 1 + 1) 0 0 0 0 0) := R_5.out.drew
      have A_5' : Hid (Bl5 v5.drew v2.heap.size n0 n1 n2 n3 n4) := A_5.out.drew
      have B_5' : Hid (Bl5 v5.drew gf f0 f1 f2 f3 f4) := B_5.out.drew
      have Z_5' : Hid (Gl v5.drew) := Z_5.out.grown (Below.refl _ _).drew
      have G_5' : Hid (Below w.heap.size w v5.drew) := G_5.out.drew
      go_wp2_with fail
      go_region_held3 (fun w' => w'.cell? ⟨w.heap.size, 0, none⟩ = some (.int .u64 x0) ∧ w'.cell? ⟨w.heap.size, 1, none⟩ = some (.int .u64 x1) ∧ w'.cell? ⟨w.heap.size, 2, none⟩ = some (.int .u64 x2) ∧ w'.cell? ⟨w.heap.size, 3, none⟩ = some (.int .u64 x3) ∧ w'.cell? ⟨w.heap.size, 4, none⟩ = some (.int .u64 x4) ∧ w'.cell? ⟨gf, 0, none⟩ = some (.int .u64 f0) ∧ w'.cell? ⟨gf, 1, none⟩ = some (.int .u64 f1) ∧ w'.cell? ⟨gf, 2, none⟩ = some (.int .u64 f2) ∧ w'.cell? ⟨gf, 3, none⟩ = some (.int .u64 f3) ∧ w'.cell? ⟨gf, 4, none⟩ = some (.int .u64 f4)) (first | with_reducible assumption | go_keep)
        (first
          | (go_at_call 65; have gg := G_6; clear gg; (refine (Q2.out _).mono ?_); (rintro e v7 ⟨rfl, g⟩; have X_7 := hold (X_6.out.below g); have Y_7 := hold (Y_6.out.below g); have R_7 := hold (R_6.out.below g); have A_7 := hold (A_6.out.below g); have B_7 := hold (B_6.out.below g); have Z_7 := hold (Z_6.out.grown g); have G_7 := hold (G_6.out.trans (g.mono G_6.out.size)); clear g; clear K; have K : v7.cell? ⟨w.heap.size, 0, none⟩ = some (.int .u64 x0) ∧ v7.cell? ⟨w.heap.size, 1, none⟩ = some (.int .u64 x1) ∧ v7.cell? ⟨w.heap.size, 2, none⟩ = some (.int .u64 x2) ∧ v7.cell? ⟨w.heap.size, 3, none⟩ = some (.int .u64 x3) ∧ v7.cell? ⟨w.heap.size, 4, none⟩ = some (.int .u64 x4) ∧ v7.cell? ⟨gf, 0, none⟩ = some (.int .u64 f0) ∧ v7.cell? ⟨gf, 1, none⟩ = some (.int .u64 f1) ∧ v7.cell? ⟨gf, 2, none⟩ = some (.int .u64 f2) ∧ v7.cell? ⟨gf, 3, none⟩ = some (.int .u64 f3) ∧ v7.cell? ⟨gf, 4, none⟩ = some (.int .u64 f4) := ⟨X_7.out.c0, X_7.out.c1, X_7.out.c2, X_7.out.c3, X_7.out.c4, B_7.out.c0, B_7.out.c1, B_7.out.c2, B_7.out.c3, B_7.out.c4⟩))
          | (go_at_call 38; have gg := G_5'; clear gg; (refine (Qg.out _ Z_5'.out).mono ?_); (rintro e v6 ⟨rfl, g⟩; have X_6 := hold (X_5'.out.below g); have Y_6 := hold (Y_5'.out.below g); have R_6 := hold (R_5'.out.below g); have A_6 := hold (A_5'.out.below g); have B_6 := hold (B_5'.out.below g); have Z_6 := hold (Z_5'.out.grown g); have G_6 := hold (G_5'.out.trans (g.mono G_5'.out.size)); clear g; clear K; have K : v6.cell? ⟨w.heap.size, 0, none⟩ = some (.int .u64 x0) ∧ v6.cell? ⟨w.heap.size, 1, none⟩ = some (.int .u64 x1) ∧ v6.cell? ⟨w.heap.size, 2, none⟩ = some (.int .u64 x2) ∧ v6.cell? ⟨w.heap.size, 3, none⟩ = some (.int .u64 x3) ∧ v6.cell? ⟨w.heap.size, 4, none⟩ = some (.int .u64 x4) ∧ v6.cell? ⟨gf, 0, none⟩ = some (.int .u64 f0) ∧ v6.cell? ⟨gf, 1, none⟩ = some (.int .u64 f1) ∧ v6.cell? ⟨gf, 2, none⟩ = some (.int .u64 f2) ∧ v6.cell? ⟨gf, 3, none⟩ = some (.int .u64 f3) ∧ v6.cell? ⟨gf, 4, none⟩ = some (.int .u64 f4) := ⟨X_6.out.c0, X_6.out.c1, X_6.out.c2, X_6.out.c3, X_6.out.c4, B_6.out.c0, B_6.out.c1, B_6.out.c2, B_6.out.c3, B_6.out.c4⟩))
          | fail)
      clear K 
      obtain ⟨crl, cr0, cr1, cr2, cr3, cr4, crf⟩ := R_7.out
      go_wp2_with fail
      clear crl cr0 cr1 cr2 cr3 cr4 crf
      refine body_cut (fun W => Bl5 W (w.heap.size + 1 + 1) 0 0 0 0 0 ∧ Below w.heap.size w W) ⟨R_7.out.set 0 0 0 0 0, ?_⟩ ?_
      · iterate 5 (refine Below.setCell ?_ (by simp <;> omega) _)
        exact G_7.out
      · rintro W ⟨⟨rl, r0, r1, r2, r3, r4, rf⟩, hb⟩
        exact bodyPost_ret (v := .tuple #[.agg #[.int .u64 0, .int .u64 0, .int .u64 0, .int .u64 0, .int .u64 0], .bool false]) (by simp [results, Tryd.results83, go_sem, r0, r1, r2, r3, r4]) rfl ⟨rfl, hb⟩

end Go.Proofs.YtedhfimjcpbcpaaDoor

/-
  The contract of the field's load: of 32 bytes, the lowest first, it returns the limbs of their number, and changes no memory that was there. Conditions: as each theorem says.
-/
namespace Go.Proofs.YtedhfimjcpbcpaaDoor
open Go.RowKit
set_option linter.unusedVariables false
set_option linter.unusedSimpArgs false

/-- Block g holds four words, f 0 to f 3, and may be written. -/
structure Wd4 (W : World) (g : Nat) (f : Nat → Int) : Prop where
  lt : g < W.heap.size
  c : ∀ k, k < 4 → W.cell? ⟨g, k, none⟩ = some (.int .u64 (f k))
  fr : ∀ j, W.frozen? ⟨g, j, none⟩ = false
theorem Wd4.drew {W : World} {g : Nat} {f : Nat → Int} (h : Wd4 W g f) : Wd4 W.drew g f := ⟨h.lt, h.c, h.fr⟩
theorem Wd4.below {W W' : World} {g : Nat} {f : Nat → Int} (h : Wd4 W g f) (hb : Below W.heap.size W W') : Wd4 W' g f :=
  ⟨Nat.lt_of_lt_of_le h.lt hb.size, fun k hk => (hb.cell (p := ⟨g, k, none⟩) h.lt).trans (h.c k hk), fun j => (hb.frozen (p := ⟨g, j, none⟩) h.lt).trans (h.fr j)⟩
theorem Wd4.set {W : World} {g : Nat} {f : Nat → Int} (h : Wd4 W g f) (q : Nat) (x : Int) (hq : q < 4) : Wd4 (W.setCell ⟨g, q, none⟩ (.int .u64 x)) g (fun k => if k = q then x else f k) := by
  refine ⟨by simpa using h.lt, fun k hk => ?_, fun j => by simpa using h.fr j⟩
  by_cases e : k = q
  · subst e
    rw [if_pos rfl, World.cell?_setCell_same _ _ _ (h.c k hk)]
  · rw [if_neg e, World.cell?_setCell_other _ _ _ _ (fun p => e (by simpa using (congrArg Addr.off p).symm)), h.c k hk]
theorem Wd4.cong {W : World} {g : Nat} {f f' : Nat → Int} (h : Wd4 W g f) (e : ∀ k, k < 4 → f k = f' k) : Wd4 W g f' := ⟨h.lt, fun k hk => by rw [h.c k hk, e k hk], h.fr⟩
theorem Wd4.new (W : World) (g : Nat) (v0 v1 v2 v3 : Int) (f : Nat → Int) (t : TypeId) (hg : g = W.heap.size) (h0 : f 0 = v0) (h1 : f 1 = v1) (h2 : f 2 = v2) (h3 : f 3 = v3) : Wd4 (W.alloc (.cells #[.int .u64 v0, .int .u64 v1, .int .u64 v2, .int .u64 v3] t)) g f := by
  subst hg
  refine ⟨by simp, fun k hk => ?_, fun j => by simp [go_sem]⟩
  match k, hk with
  | 0, _ => rw [h0]; simp
  | 1, _ => rw [h1]; simp
  | 2, _ => rw [h2]; simp
  | 3, _ => rw [h3]; simp
/-- The words of bytes, after i of them. -/
def wsAt (bs : Nat → Int) (i k : Nat) : Int := ((vb (fun j => bs (8 * k + j)) (min 8 (i - 8 * k)) : Nat) : Int)
theorem wsAt_next (bs : Nat → Int) (hb : ∀ j, 0 ≤ bs j ∧ bs j ≤ 255) (i q r : Nat) (hi : i = 8 * q + r) (hr : r < 8) : bits .or .u64 (wsAt bs i q) (IntKind.u64.wrap (bs i * 2 ^ (8 * (r : Int)).toNat)) = wsAt bs (i + 1) q := by
  have h := or_byte (fun j => bs (8 * q + j)) (fun j => hb _) r hr
  unfold wsAt
  rw [show min 8 (i - 8 * q) = r by omega, show min 8 (i + 1 - 8 * q) = r + 1 by omega, hi]
  exact h
theorem wsAt_other (bs : Nat → Int) (i q r k : Nat) (hi : i = 8 * q + r) (hr : r < 8) (hk : k ≠ q) : wsAt bs i k = wsAt bs (i + 1) k := by
  unfold wsAt
  rw [show min 8 (i - 8 * k) = min 8 (i + 1 - 8 * k) by omega]
theorem or_words (a b s : Nat) (hs : s ≤ 64) (ha : a < 2 ^ 64) (hb : b < 2 ^ 64) : bits .or .u64 ((a / 2 ^ (64 - s) : Nat) : Int) (IntKind.u64.wrap ((b * 2 ^ s : Nat) : Int)) = ((a / 2 ^ (64 - s) + b * 2 ^ s % 2 ^ 64 : Nat) : Int) := by
  have h1 : a / 2 ^ (64 - s) < 2 ^ s := by
    rw [Nat.div_lt_iff_lt_mul (Nat.two_pow_pos _), ← Nat.pow_add, show s + (64 - s) = 64 by omega]
    exact ha
  have h2 : b * 2 ^ s % 2 ^ 64 = 2 ^ s * (b % 2 ^ (64 - s)) := by
    rw [Nat.mul_comm b, show (2 : Nat) ^ 64 = 2 ^ s * 2 ^ (64 - s) by rw [← Nat.pow_add, show s + (64 - s) = 64 by omega], Nat.mul_mod_mul_left]
  have h3 : IntKind.u64.wrap ((b * 2 ^ s : Nat) : Int) = ((b * 2 ^ s % 2 ^ 64 : Nat) : Int) := by
    rw [IntKind.wrap_u64]; omega
  have h4 : b * 2 ^ s % 2 ^ 64 < 2 ^ 64 := Nat.mod_lt _ (by decide)
  have h5 : a / 2 ^ (64 - s) < 2 ^ 64 := Nat.lt_of_le_of_lt (Nat.div_le_self _ _) ha
  rw [h3, bits_or_u64_nat _ _ (by omega) (by omega), h2, Nat.or_comm, ← Nat.two_pow_add_eq_or_of_lt h1, Nat.add_comm]
/-- The limbs of a number below 2^256. -/
def ld (n : Nat) : L5 := ⟨((n % 2 ^ 51 : Nat) : Int), ((n / 2 ^ 51 % 2 ^ 51 : Nat) : Int), ((n / 2 ^ 102 % 2 ^ 51 : Nat) : Int), ((n / 2 ^ 153 % 2 ^ 51 : Nat) : Int), ((n / 2 ^ 204 : Nat) : Int)⟩
theorem ld_num (n : Nat) : (ld n).num = (n : Int) := by unfold ld L5.num val5; dsimp only; omega
theorem ld_tame (n : Nat) (h : n < 2 ^ 256) : (ld n).Tm := by unfold ld L5.Tm Tame; dsimp only; omega
theorem words32 (bs : Nat → Int) (hb : ∀ j, 0 ≤ bs j ∧ bs j ≤ 255) : ∃ a0 a1 a2 a3 : Nat, a0 < 2 ^ 64 ∧ a1 < 2 ^ 64 ∧ a2 < 2 ^ 64 ∧ a3 < 2 ^ 64 ∧ wsAt bs 32 0 = a0 ∧ wsAt bs 32 1 = a1 ∧ wsAt bs 32 2 = a2 ∧ wsAt bs 32 3 = a3 ∧ vb bs 32 = a0 + 2 ^ 64 * a1 + 2 ^ 128 * a2 + 2 ^ 192 * a3 := by
  have l := fun q => vb_lt (fun j => bs (8 * q + j)) (fun j => hb _) 8
  have p8 : (256 : Nat) ^ 8 = 2 ^ 64 := by decide
  rw [p8] at l
  refine ⟨vb (fun j => bs (8 * 0 + j)) 8, vb (fun j => bs (8 * 1 + j)) 8, vb (fun j => bs (8 * 2 + j)) 8, vb (fun j => bs (8 * 3 + j)) 8, l 0, l 1, l 2, l 3, rfl, rfl, rfl, rfl, ?_⟩
  have s3 := vb_add bs 24 8
  have s2 := vb_add bs 16 8
  have s1 := vb_add bs 8 8
  simp only [Nat.reduceAdd] at s1 s2 s3
  have e0 : vb bs 8 = vb (fun j => bs (8 * 0 + j)) 8 := by congr 1; funext j; rw [Nat.mul_zero, Nat.zero_add]
  rw [s3, s2, s1, e0, show (256 : Nat) ^ 8 = 2 ^ 64 by decide, show (256 : Nat) ^ 16 = 2 ^ 128 by decide, show (256 : Nat) ^ 24 = 2 ^ 192 by decide]
theorem vb32_lt (bs : Nat → Int) (hb : ∀ j, 0 ≤ bs j ∧ bs j ≤ 255) : vb bs 32 < 2 ^ 256 := by
  have := vb_lt bs hb 32
  rwa [show (256 : Nat) ^ 32 = 2 ^ 256 by decide] at this
/-- The limbs out of the words. -/
theorem ld_words (n a0 a1 a2 a3 : Nat) (h0 : a0 < 2 ^ 64) (h1 : a1 < 2 ^ 64) (h2 : a2 < 2 ^ 64) (h3 : a3 < 2 ^ 64) (h : n = a0 + 2 ^ 64 * a1 + 2 ^ 128 * a2 + 2 ^ 192 * a3) : ∃ p1 p2 p3 l0 l1 l2 l3 l4 : Int, ld n = ⟨l0, l1, l2, l3, l4⟩ ∧
    bits .and .u64 (a0 : Int) 2251799813685247 = l0 ∧ bits .or .u64 ((a0 : Int) / 2251799813685248) (IntKind.u64.wrap ((a1 : Int) * 8192)) = p1 ∧ bits .and .u64 p1 2251799813685247 = l1 ∧ bits .or .u64 ((a1 : Int) / 274877906944) (IntKind.u64.wrap ((a2 : Int) * 67108864)) = p2 ∧ bits .and .u64 p2 2251799813685247 = l2 ∧ bits .or .u64 ((a2 : Int) / 33554432) (IntKind.u64.wrap ((a3 : Int) * 549755813888)) = p3 ∧ bits .and .u64 p3 2251799813685247 = l3 ∧ (a3 : Int) / 4096 = l4 := by
  have e1 := or_words a0 a1 13 (by decide) h0 h1
  have e2 := or_words a1 a2 26 (by decide) h1 h2
  have e3 := or_words a2 a3 39 (by decide) h2 h3
  simp only [Nat.reduceSub, Nat.reducePow, Int.natCast_mul, Int.natCast_ediv, Int.cast_ofNat_Int] at e1 e2 e3 h0 h1 h2 h3 h
  refine ⟨_, _, _, _, _, _, _, _, rfl, ?_, e1, ?_, e2, ?_, e3, ?_, ?_⟩
  · rw [mask51 _ (by omega)]; congr 1; omega
  · rw [mask51 _ (by omega)]; congr 1; omega
  · rw [mask51 _ (by omega)]; congr 1; omega
  · rw [mask51 _ (by omega)]; congr 1; omega
  · omega

set_option maxRecDepth 100000 in
set_option maxHeartbeats 8000000 in
theorem load_any (bs : Nat → Int) (hbs : ∀ j, 0 ≤ bs j ∧ bs j ≤ 255) (blk off cap : Nat) (w : World) (hblk : blk < w.heap.size) (hc : ∀ j, j < 32 → w.cell? ⟨blk, off + j, none⟩ = some (.int .u8 (bs j))) :
    Calls Tryd.prog 81 #[.slice (some ⟨blk, off, none⟩) 32 cap] w fun e w' => e = .returned (.agg #[.int .u64 ((ld (vb bs 32)).l0), .int .u64 ((ld (vb bs 32)).l1), .int .u64 ((ld (vb bs 32)).l2), .int .u64 ((ld (vb bs 32)).l3), .int .u64 ((ld (vb bs 32)).l4)]) ∧ Below w.heap.size w w' := by
  obtain ⟨a0, a1, a2, a3, h0, h1, h2, h3, e0, e1, e2, e3, hN⟩ := words32 bs hbs
  obtain ⟨p1, p2, p3, l0, l1, l2, l3, l4, hL, f0, f1, f2, f3, f4, f5, f6, f7⟩ := ld_words _ a0 a1 a2 a3 h0 h1 h2 h3 hN
  rw [hL]
  dsimp only
  have HB : Hid (∀ j, 0 ≤ bs j ∧ bs j ≤ 255) := hbs
  have HC : Hid (∀ j, j < 32 → w.cell? ⟨blk, off + j, none⟩ = some (.int .u8 (bs j))) := hc
  have E : Hid (wsAt bs 32 0 = a0 ∧ wsAt bs 32 1 = a1 ∧ wsAt bs 32 2 = a2 ∧ wsAt bs 32 3 = a3) := ⟨e0, e1, e2, e3⟩
  clear hbs hc e0 e1 e2 e3 hN hL h0 h1 h2 h3
  go_enter Tryd.func81, Tryd.ntmps81
  go_wp2_with fail
  go_loopw [8] (fun y wr => ∃ i : Nat, i ≤ 32 ∧ y = .int .i64 (i : Int) ∧ Hid (Wd4 wr (w.heap.size + 1) (wsAt bs i)) ∧ Hid (Bl5 wr w.heap.size 0 0 0 0 0) ∧ Hid (Below w.heap.size w wr)) (fun y _ => 32 - (intOf y).toNat)
  case atStart =>
    refine ⟨0, by omega, rfl, ?_, ?_, ?_⟩
    · exact Wd4.new _ _ _ _ _ _ _ _ (by simp) rfl rfl rfl rfl
    · exact (Bl5.new w _ _ _ _ _ _ _ rfl).alloc _
    · exact ((Below.refl _ _).alloc (Nat.le_refl _) _).alloc (by simp) _
  case round =>
    obtain ⟨i, hi, rfl, hW, hR, hG⟩ := hrel
    obtain ⟨w0, hw0⟩ : ∃ w0, wr = w0 := ⟨_, rfl⟩
    subst hw0
    by_cases hlt : i < 32
    · obtain ⟨q, hq⟩ : ∃ q : Nat, (i : Int) / 8 = (q : Int) := ⟨i / 8, by omega⟩
      obtain ⟨r, hr⟩ : ∃ r : Nat, (i : Int) % 8 = (r : Int) := ⟨i % 8, by omega⟩
      have hq4 : (q : Int) < 4 := by omega
      have hq0 : (0 : Int) ≤ (q : Int) := by omega
      have hr8 : (r : Int) < 8 := by omega
      have hqr : i = 8 * q + r := by omega
      have c1 := hW.out.c q (by omega)
      have c2 := hW.out.fr
      have c3 := hW.out.lt
      have c4 : wr.cell? ⟨blk, off + i, none⟩ = some (.int .u8 (bs i)) := (hG.out.cell (p := ⟨blk, off + i, none⟩) hblk).trans (HC.out i hlt)
      have B : Hid (bits .or .u64 (wsAt bs i q) (IntKind.u64.wrap (bs i * 2 ^ (8 * (r : Int)).toNat)) = wsAt bs (i + 1) q) := wsAt_next bs HB.out i q r hqr (by omega)
      have O : Hid (∀ k, k < 4 → (if k = q then wsAt bs (i + 1) q else wsAt bs i k) = wsAt bs (i + 1) k) := by
        intro k hk
        by_cases e : k = q
        · rw [if_pos e, e]
        · rw [if_neg e, wsAt_other bs i q r k hqr (by omega) e]
      have bb := HB.out i
      obtain ⟨x, hx⟩ : ∃ x, bs i = x := ⟨_, rfl⟩
      obtain ⟨y, hy⟩ : ∃ y, wsAt bs i q = y := ⟨_, rfl⟩
      obtain ⟨z, hz⟩ : ∃ z, wsAt bs (i + 1) q = z := ⟨_, rfl⟩
      rw [hx] at c4 bb B
      rw [hy] at c1 B
      rw [hz] at B O
      have m1 : IntKind.i64.wrap (8 * (r : Int)) = 8 * (r : Int) := wrapI _ (by omega) (by omega)
      have m1' : IntKind.i64.wrap ((r : Int) * 8) = 8 * (r : Int) := by rw [Int.mul_comm]; exact m1
      have m2 : IntKind.i64.wrap (q : Int) = (q : Int) := wrapI _ (by omega) (by omega)
      have m3 : IntKind.i64.wrap (r : Int) = (r : Int) := wrapI _ (by omega) (by omega)
      have m5 : IntKind.u64.wrap x = x := wrapW _ (by omega) (by omega)
      have m6 : 0 ≤ 8 * (r : Int) := by omega
      have hlt' : (i : Int) < 32 := by omega
      have B' := B.out
      rw [show (8 * (r : Int)).toNat = 8 * r by omega] at B'
      have I : Hid (i < 32) := hlt
      clear hx hy hz hqr hlt hi
      go_wp2_with fail
      go_region
      all_goals
        go_wp2_with fail
        go_roundw
        case rel =>
          refine ⟨i + 1, by have := I.out; omega, by go_num, ?_, ?_, ?_⟩
          · exact ((hW.out.set q z (by omega)).cong O.out).drew
          · exact (hR.out.other _ _ _ (by omega)).drew
          · exact (hG.out.setCell (by simp <;> omega) _).drew
        case measure => have := I.out; simp [intOf]; omega
    · obtain rfl : i = 32 := by omega
      obtain ⟨E0, E1, E2, E3⟩ := E.out
      have c0 := hW.out.c 0 (by decide)
      have c1 := hW.out.c 1 (by decide)
      have c2 := hW.out.c 2 (by decide)
      have c3 := hW.out.c 3 (by decide)
      rw [E0] at c0
      rw [E1] at c1
      rw [E2] at c2
      rw [E3] at c3
      clear E0 E1 E2 E3
      obtain ⟨rl, r0, r1, r2, r3, r4, rf⟩ := hR.out
      go_wp2_with fail
      refine body_cut (fun W => Bl5 W w.heap.size l0 l1 l2 l3 l4 ∧ Below w.heap.size w W) ⟨hR.out.set l0 l1 l2 l3 l4, ?_⟩ ?_
      · iterate 5 (refine Below.setCell ?_ (by simp <;> omega) _)
        exact hG.out
      · clear rl r0 r1 r2 r3 r4 rf
        rintro W ⟨⟨rl, r0, r1, r2, r3, r4, rf⟩, hb⟩
        exact bodyPost_ret (v := .agg #[.int .u64 l0, .int .u64 l1, .int .u64 l2, .int .u64 l3, .int .u64 l4]) (by simp [results, Tryd.results81, go_sem, r0, r1, r2, r3, r4]) rfl ⟨rfl, hb⟩

end Go.Proofs.YtedhfimjcpbcpaaDoor

/-
  The contracts of the field's Of and Bytes: bytes as an element, or none; an element's 32 bytes; they change no memory that was there. Conditions: as each theorem says.
-/
namespace Go.Proofs.YtedhfimjcpbcpaaDoor
open Go.RowKit
set_option linter.unusedVariables false
set_option linter.unusedSimpArgs false

/-- The first t bytes of a number stand in block B. -/
structure Fil (x B t : Nat) (W : World) : Prop where
  cell : ∀ j, j < 32 → W.cell? ⟨B, j, none⟩ = some (.int .u8 (if j < t then byteAt x j else 0))
  free : ∀ o, W.frozen? ⟨B, o, none⟩ = false
  size : B < W.heap.size
theorem Fil.drew {x B t : Nat} {W : World} (h : Fil x B t W) : Fil x B t W.drew := ⟨h.cell, h.free, h.size⟩
theorem Fil.below {x B t : Nat} {W W' : World} (h : Fil x B t W) (hb : Below W.heap.size W W') : Fil x B t W' :=
  ⟨fun j hj => (hb.cell (p := ⟨B, j, none⟩) h.size).trans (h.cell j hj), fun j => (hb.frozen (p := ⟨B, j, none⟩) h.size).trans (h.free j), Nat.lt_of_lt_of_le h.size hb.size⟩
theorem Fil.step {x B t : Nat} {W : World} (h : Fil x B t W) (ht : t < 32) : Fil x B (t + 1) (W.setCell ⟨B, t, none⟩ (.int .u8 (byteAt x t))) := by
  refine ⟨fun j hj => ?_, fun o => ?_, ?_⟩
  · by_cases e : j = t
    · subst e
      rw [World.cell?_setCell_same _ _ _ (h.cell j hj), if_pos (by omega)]
    · rw [World.cell?_setCell_other _ _ _ _ (fun q => e (by simpa using (congrArg Addr.off q).symm)), h.cell j hj]
      by_cases hlt : j < t
      · rw [if_pos hlt, if_pos (by omega)]
      · rw [if_neg hlt, if_neg (by omega)]
  · rw [← h.free o]; simp
  · simpa using h.size
theorem Wd4.other {W : World} {g : Nat} {f : Nat → Int} (h : Wd4 W g f) (b i : Nat) (v : Value) (hb : b ≠ g) : Wd4 (W.setCell ⟨b, i, none⟩ v) g f :=
  ⟨by simpa using h.lt, fun k hk => by rw [World.cell?_setCell_other _ _ _ _ (fun e => hb (congrArg Addr.block e))]; exact h.c k hk, fun j => by simpa using h.fr j⟩
theorem Fil.new (x : Nat) (w : World) (t : TypeId) : Fil x w.heap.size 0 (w.alloc (.cells (Array.replicate 32 (.int .u8 0)) t)) := by
  refine ⟨fun j hj => ?_, fun o => by simp [go_sem], by simp⟩
  rw [if_neg (by omega)]
  simp [go_sem, hj]
theorem Wd4.alloc {W : World} {g : Nat} {f : Nat → Int} (h : Wd4 W g f) (o : Obj) : Wd4 (W.alloc o) g f := h.below (Below.alloc (Below.refl _ _) (Nat.le_refl _) o)
end Go.Proofs.YtedhfimjcpbcpaaDoor

/-
  The contract of the field's Of: bytes as an element, or none; it changes no memory that was there. Conditions: as each theorem says.
-/
namespace Go.Proofs.YtedhfimjcpbcpaaDoor
open Go.RowKit
set_option linter.unusedVariables false
set_option linter.unusedSimpArgs false

theorem low_ld (n : Nat) (h : n < P25) : (ld n).Low := by
  unfold P25 at h
  unfold ld L5.Low; dsimp only; omega
attribute [local go_sem] ext_cell ext_frozen
set_option maxRecDepth 100000 in
set_option maxHeartbeats 4000000 in
theorem of_yes (bs : Nat → Int) (hbs : ∀ j, 0 ≤ bs j ∧ bs j ≤ 255) (blk off cap : Nat) (w : World) (hblk : blk < w.heap.size) (hc : ∀ j, j < 32 → w.cell? ⟨blk, off + j, none⟩ = some (.int .u8 (bs j))) (h : vb bs 32 < P25) :
    Calls Tryd.prog 36 #[.slice (some ⟨blk, off, none⟩) 32 cap] w fun e w' => e = .returned (.tuple #[.agg #[.int .u64 ((ld (vb bs 32)).l0), .int .u64 ((ld (vb bs 32)).l1), .int .u64 ((ld (vb bs 32)).l2), .int .u64 ((ld (vb bs 32)).l3), .int .u64 ((ld (vb bs 32)).l4)], .bool true]) ∧ Below w.heap.size w w' := by
  have hN := vb32_lt bs hbs
  have kl : Hid (∀ W, Below w.heap.size w W → Calls Tryd.prog 81 #[.slice (some ⟨blk, off, none⟩) 32 cap] W fun e w' => e = .returned (.agg #[.int .u64 ((ld (vb bs 32)).l0), .int .u64 ((ld (vb bs 32)).l1), .int .u64 ((ld (vb bs 32)).l2), .int .u64 ((ld (vb bs 32)).l3), .int .u64 ((ld (vb bs 32)).l4)]) ∧ Below W.heap.size W w') := fun W hW => load_any bs hbs blk off cap W (Nat.lt_of_lt_of_le hblk hW.size) (fun j hj => (hW.cell (p := ⟨blk, off + j, none⟩) hblk).trans (hc j hj))
  obtain ⟨z, hz, ez, kz⟩ := reduced_fe (ld (vb bs 32)) (ld_tame _ hN)
  have ez' := ez.out
  rw [ld_num] at ez'
  have e : z = ld (vb bs 32) := hz.eq (low_ld _ h) (by rw [ez', ld_num, ← Int.natCast_emod, Nat.mod_eq_of_lt h])
  subst e
  have HE := neq5 (ld (vb bs 32)).l0 (ld (vb bs 32)).l1 (ld (vb bs 32)).l2 (ld (vb bs 32)).l3 (ld (vb bs 32)).l4
  obtain ⟨⟨a0, a1, a2, a3, a4⟩, hA⟩ : ∃ a, ld (vb bs 32) = a := ⟨_, rfl⟩
  rw [hA] at kl kz HE ⊢
  dsimp only at kl kz HE ⊢
  have ka : Hid (∀ W, Below w.heap.size w W → Calls Tryd.prog 81 #[.slice (some ⟨blk, off, none⟩) 32 cap] W fun e w' => e = .returned (.agg #[.int .u64 a0, .int .u64 a1, .int .u64 a2, .int .u64 a3, .int .u64 a4]) ∧ Below W.heap.size W w') := kl.out
  have Qz : Hid (∀ w : World, Calls Tryd.prog 82 #[.agg #[.int .u64 a0, .int .u64 a1, .int .u64 a2, .int .u64 a3, .int .u64 a4]] w fun e w' => e = .returned (.agg #[.int .u64 a0, .int .u64 a1, .int .u64 a2, .int .u64 a3, .int .u64 a4]) ∧ Below w.heap.size w w') := kz
  clear kl kz hz ez ez' hA hN hbs hc h hblk
  go_enter Tryd.func36, Tryd.ntmps36
  go_wp2_with fail
  refine calls_at (fun V => Bl5 V w.heap.size 0 0 0 0 0 ∧ Below w.heap.size w V) ⟨?_, ?_⟩ ?_
  · (repeat (first | refine Bl5.drew ?_ | refine Bl5.drewN ?_ _ | (refine Bl5.new _ _ _ _ _ _ _ _ ?_; simp; done) | refine Bl5.alloc ?_ _))
  · (repeat (first | exact Below.refl _ _ | refine Below.drew ?_ | refine below_drewN ?_ _ | refine Below.alloc ?_ (by simp <;> omega) _ | refine Below.setCell ?_ (by simp <;> omega) _))
  rintro v1 ⟨k0, k1⟩
  have R_1 : Hid (Bl5 v1 w.heap.size 0 0 0 0 0) := k0
  have G_1 : Hid (Below w.heap.size w v1) := k1
  clear k0 k1
  refine (ka.out _ G_1.out).mono ?_
  rintro e v2 ⟨rfl, g⟩
  have R_2 := hold (R_1.out.below g)
  have G_2 := hold (G_1.out.trans (g.mono G_1.out.size))
  clear R_1 G_1 g
  go_wp2_with fail
  have szA : w.heap.size ≤ v2.heap.size := G_2.out.size
  have nbAR : ¬ (v2.heap.size = w.heap.size) := by have := R_2.out.lt; omega
  refine wp_cut (fun V => Bl5 V w.heap.size 0 0 0 0 0 ∧ Bl5 V v2.heap.size a0 a1 a2 a3 a4 ∧ Below w.heap.size w V) ⟨R_2.out.alloc _, Bl5.new v2 _ _ _ _ _ _ _ rfl, G_2.out.alloc G_2.out.size _⟩ ?_
  rintro v3 ⟨k0, k1, k2⟩
  have R_3 : Hid (Bl5 v3 w.heap.size 0 0 0 0 0) := k0
  have A_3 : Hid (Bl5 v3 v2.heap.size a0 a1 a2 a3 a4) := k1
  have G_3 : Hid (Below w.heap.size w v3) := k2
  clear k0 k1 k2 R_2 G_2
  obtain ⟨cal, ca0, ca1, ca2, ca3, ca4, caf⟩ := A_3.out
  obtain ⟨crl, cr0, cr1, cr2, cr3, cr4, crf⟩ := R_3.out
  refine wp_region_ext (by kernel_rfl) (by kernel_rfl) ?_
  repeat (go_big_quiet_step ((first | with_reducible exact calls_ext (Qz.out _) | fail)))
  refine wpQuiet_nil ?_
  intro W1 hw
  obtain ⟨m, rfl⟩ := hw
  have g := ext_below v3 m
  obtain ⟨v4, hW⟩ : ∃ V, ext v3 m = V := ⟨_, rfl⟩
  rw [hW] at g ⊢
  clear hW
  have R_4 := hold (R_3.out.below g)
  have A_4 := hold (A_3.out.below g)
  have G_4 := hold (G_3.out.trans (g.mono G_3.out.size))
  clear cal ca0 ca1 ca2 ca3 ca4 caf crl cr0 cr1 cr2 cr3 cr4 crf
  clear R_3 A_3 G_3 g
  obtain ⟨cal, ca0, ca1, ca2, ca3, ca4, caf⟩ := A_4.out
  obtain ⟨crl, cr0, cr1, cr2, cr3, cr4, crf⟩ := R_4.out
  go_wp2_with fail
  refine body_cut (fun W => Bl5 W w.heap.size a0 a1 a2 a3 a4 ∧ Below w.heap.size w W) ⟨R_4.out.set a0 a1 a2 a3 a4, ?_⟩ ?_
  · iterate 5 (refine Below.setCell ?_ (by simp <;> omega) _)
    exact G_4.out
  · rintro W ⟨⟨rl, r0, r1, r2, r3, r4, rf⟩, hb⟩
    exact bodyPost_ret (v := .tuple #[.agg #[.int .u64 a0, .int .u64 a1, .int .u64 a2, .int .u64 a3, .int .u64 a4], .bool true]) (by simp [results, Tryd.results36, go_sem, r0, r1, r2, r3, r4]) rfl ⟨rfl, hb⟩

set_option maxRecDepth 100000 in
set_option maxHeartbeats 4000000 in
theorem of_no (bs : Nat → Int) (hbs : ∀ j, 0 ≤ bs j ∧ bs j ≤ 255) (blk off cap : Nat) (w : World) (hblk : blk < w.heap.size) (hc : ∀ j, j < 32 → w.cell? ⟨blk, off + j, none⟩ = some (.int .u8 (bs j))) (h : ¬ vb bs 32 < P25) :
    Calls Tryd.prog 36 #[.slice (some ⟨blk, off, none⟩) 32 cap] w fun e w' => e = .returned (.tuple #[.agg #[.int .u64 0, .int .u64 0, .int .u64 0, .int .u64 0, .int .u64 0], .bool false]) ∧ Below w.heap.size w w' := by
  have hN := vb32_lt bs hbs
  have kl : Hid (∀ W, Below w.heap.size w W → Calls Tryd.prog 81 #[.slice (some ⟨blk, off, none⟩) 32 cap] W fun e w' => e = .returned (.agg #[.int .u64 ((ld (vb bs 32)).l0), .int .u64 ((ld (vb bs 32)).l1), .int .u64 ((ld (vb bs 32)).l2), .int .u64 ((ld (vb bs 32)).l3), .int .u64 ((ld (vb bs 32)).l4)]) ∧ Below W.heap.size W w') := fun W hW => load_any bs hbs blk off cap W (Nat.lt_of_lt_of_le hblk hW.size) (fun j hj => (hW.cell (p := ⟨blk, off + j, none⟩) hblk).trans (hc j hj))
  obtain ⟨z, hz, ez, kz⟩ := reduced_fe (ld (vb bs 32)) (ld_tame _ hN)
  have ez' := ez.out
  rw [ld_num] at ez'
  have HE : ∀ w : World, (binOp .neq 28 (.agg #[.int .u64 ((ld (vb bs 32)).l0), .int .u64 ((ld (vb bs 32)).l1), .int .u64 ((ld (vb bs 32)).l2), .int .u64 ((ld (vb bs 32)).l3), .int .u64 ((ld (vb bs 32)).l4)]) (.agg #[.int .u64 z.l0, .int .u64 z.l1, .int .u64 z.l2, .int .u64 z.l3, .int .u64 z.l4])).run Tryd.prog w = .ok (.bool true) w := by
    intro w
    refine neq5_no _ _ _ _ _ _ _ _ _ _ ?_ w
    rintro ⟨h0, h1, h2, h3, h4⟩
    have e : z.num = (ld (vb bs 32)).num := by unfold L5.num; rw [h0, h1, h2, h3, h4]
    rw [ez', ld_num, ← Int.natCast_emod] at e
    have h5 : vb bs 32 % P25 < P25 := Nat.mod_lt _ P25_pos
    omega
  obtain ⟨⟨a0, a1, a2, a3, a4⟩, hA⟩ : ∃ a, ld (vb bs 32) = a := ⟨_, rfl⟩
  obtain ⟨z0, z1, z2, z3, z4⟩ := z
  rw [hA] at kl kz HE
  dsimp only at kl kz HE ⊢
  have ka : Hid (∀ W, Below w.heap.size w W → Calls Tryd.prog 81 #[.slice (some ⟨blk, off, none⟩) 32 cap] W fun e w' => e = .returned (.agg #[.int .u64 a0, .int .u64 a1, .int .u64 a2, .int .u64 a3, .int .u64 a4]) ∧ Below W.heap.size W w') := kl.out
  have Qz : Hid (∀ w : World, Calls Tryd.prog 82 #[.agg #[.int .u64 a0, .int .u64 a1, .int .u64 a2, .int .u64 a3, .int .u64 a4]] w fun e w' => e = .returned (.agg #[.int .u64 z0, .int .u64 z1, .int .u64 z2, .int .u64 z3, .int .u64 z4]) ∧ Below w.heap.size w w') := kz
  clear kl kz hz ez ez' hA hN hbs hc h hblk
  go_enter Tryd.func36, Tryd.ntmps36
  go_wp2_with fail
  refine calls_at (fun V => Bl5 V w.heap.size 0 0 0 0 0 ∧ Below w.heap.size w V) ⟨?_, ?_⟩ ?_
  · (repeat (first | refine Bl5.drew ?_ | refine Bl5.drewN ?_ _ | (refine Bl5.new _ _ _ _ _ _ _ _ ?_; simp; done) | refine Bl5.alloc ?_ _))
  · (repeat (first | exact Below.refl _ _ | refine Below.drew ?_ | refine below_drewN ?_ _ | refine Below.alloc ?_ (by simp <;> omega) _ | refine Below.setCell ?_ (by simp <;> omega) _))
  rintro v1 ⟨k0, k1⟩
  have R_1 : Hid (Bl5 v1 w.heap.size 0 0 0 0 0) := k0
  have G_1 : Hid (Below w.heap.size w v1) := k1
  clear k0 k1
  refine (ka.out _ G_1.out).mono ?_
  rintro e v2 ⟨rfl, g⟩
  have R_2 := hold (R_1.out.below g)
  have G_2 := hold (G_1.out.trans (g.mono G_1.out.size))
  clear R_1 G_1 g
  go_wp2_with fail
  have szA : w.heap.size ≤ v2.heap.size := G_2.out.size
  have nbAR : ¬ (v2.heap.size = w.heap.size) := by have := R_2.out.lt; omega
  refine wp_cut (fun V => Bl5 V w.heap.size 0 0 0 0 0 ∧ Bl5 V v2.heap.size a0 a1 a2 a3 a4 ∧ Below w.heap.size w V) ⟨R_2.out.alloc _, Bl5.new v2 _ _ _ _ _ _ _ rfl, G_2.out.alloc G_2.out.size _⟩ ?_
  rintro v3 ⟨k0, k1, k2⟩
  have R_3 : Hid (Bl5 v3 w.heap.size 0 0 0 0 0) := k0
  have A_3 : Hid (Bl5 v3 v2.heap.size a0 a1 a2 a3 a4) := k1
  have G_3 : Hid (Below w.heap.size w v3) := k2
  clear k0 k1 k2 R_2 G_2
  obtain ⟨cal, ca0, ca1, ca2, ca3, ca4, caf⟩ := A_3.out
  obtain ⟨crl, cr0, cr1, cr2, cr3, cr4, crf⟩ := R_3.out
  refine wp_region_ext (by kernel_rfl) (by kernel_rfl) ?_
  repeat (go_big_quiet_step ((first | with_reducible exact calls_ext (Qz.out _) | fail)))
  refine wpQuiet_nil ?_
  intro W1 hw
  obtain ⟨m, rfl⟩ := hw
  have g := ext_below v3 m
  obtain ⟨v4, hW⟩ : ∃ V, ext v3 m = V := ⟨_, rfl⟩
  rw [hW] at g ⊢
  clear hW
  have R_4 := hold (R_3.out.below g)
  have A_4 := hold (A_3.out.below g)
  have G_4 := hold (G_3.out.trans (g.mono G_3.out.size))
  clear cal ca0 ca1 ca2 ca3 ca4 caf crl cr0 cr1 cr2 cr3 cr4 crf
  clear R_3 A_3 G_3 g
  obtain ⟨cal, ca0, ca1, ca2, ca3, ca4, caf⟩ := A_4.out
  obtain ⟨crl, cr0, cr1, cr2, cr3, cr4, crf⟩ := R_4.out
  go_wp2_with fail
  refine body_cut (fun W => Bl5 W w.heap.size 0 0 0 0 0 ∧ Below w.heap.size w W) ⟨R_4.out.set 0 0 0 0 0, ?_⟩ ?_
  · iterate 5 (refine Below.setCell ?_ (by simp <;> omega) _)
    exact G_4.out
  · rintro W ⟨⟨rl, r0, r1, r2, r3, r4, rf⟩, hb⟩
    exact bodyPost_ret (v := .tuple #[.agg #[.int .u64 0, .int .u64 0, .int .u64 0, .int .u64 0, .int .u64 0], .bool false]) (by simp [results, Tryd.results36, go_sem, r0, r1, r2, r3, r4]) rfl ⟨rfl, hb⟩


end Go.Proofs.YtedhfimjcpbcpaaDoor

/-
  The contracts of the laws' own tame, is and awake. Conditions: as each theorem says.
-/
namespace Go.Proofs.YtedhfimjcpbcpaaDoor
open Go.RowKit
set_option linter.unusedVariables false
set_option linter.unusedSimpArgs false

theorem idx5_1 (k : IntKind) (v0 v1 v2 v3 v4 : Int) (w : World) : (Instr.index 28 (.agg #[.int k v0, .int k v1, .int k v2, .int k v3, .int k v4]) (.int .i64 1)).run Tryd.prog w = .ok (.int k v1) w := by
  simp [Instr.index, run_underlying Tryd.underlying28, asIntOf, go_sem]
theorem idx5_2 (k : IntKind) (v0 v1 v2 v3 v4 : Int) (w : World) : (Instr.index 28 (.agg #[.int k v0, .int k v1, .int k v2, .int k v3, .int k v4]) (.int .i64 2)).run Tryd.prog w = .ok (.int k v2) w := by
  simp [Instr.index, run_underlying Tryd.underlying28, asIntOf, go_sem]
theorem idx5_3 (k : IntKind) (v0 v1 v2 v3 v4 : Int) (w : World) : (Instr.index 28 (.agg #[.int k v0, .int k v1, .int k v2, .int k v3, .int k v4]) (.int .i64 3)).run Tryd.prog w = .ok (.int k v3) w := by
  simp [Instr.index, run_underlying Tryd.underlying28, asIntOf, go_sem]
theorem idx5_4 (k : IntKind) (v0 v1 v2 v3 v4 : Int) (w : World) : (Instr.index 28 (.agg #[.int k v0, .int k v1, .int k v2, .int k v3, .int k v4]) (.int .i64 4)).run Tryd.prog w = .ok (.int k v4) w := by
  simp [Instr.index, run_underlying Tryd.underlying28, asIntOf, go_sem]
attribute [local go_sem] idx5_0 idx5_1 idx5_2 idx5_3 idx5_4
/-- k elements lie in block g, one behind the other. -/
structure Els (W : World) (g k : Nat) (f : Nat → L5) : Prop where
  lt : g < W.heap.size
  c0 : ∀ i, i < k → W.cell? ⟨g, i * 5, none⟩ = some (.int .u64 (f i).l0)
  c1 : ∀ i, i < k → W.cell? ⟨g, i * 5 + 1, none⟩ = some (.int .u64 (f i).l1)
  c2 : ∀ i, i < k → W.cell? ⟨g, i * 5 + 2, none⟩ = some (.int .u64 (f i).l2)
  c3 : ∀ i, i < k → W.cell? ⟨g, i * 5 + 3, none⟩ = some (.int .u64 (f i).l3)
  c4 : ∀ i, i < k → W.cell? ⟨g, i * 5 + 4, none⟩ = some (.int .u64 (f i).l4)
theorem Els.below {W W' : World} {g k : Nat} {f : Nat → L5} (h : Els W g k f) (hb : Below W.heap.size W W') : Els W' g k f :=
  ⟨Nat.lt_of_lt_of_le h.lt hb.size, fun i hi => (hb.cell (p := ⟨g, i * 5, none⟩) h.lt).trans (h.c0 i hi), fun i hi => (hb.cell (p := ⟨g, i * 5 + 1, none⟩) h.lt).trans (h.c1 i hi), fun i hi => (hb.cell (p := ⟨g, i * 5 + 2, none⟩) h.lt).trans (h.c2 i hi), fun i hi => (hb.cell (p := ⟨g, i * 5 + 3, none⟩) h.lt).trans (h.c3 i hi), fun i hi => (hb.cell (p := ⟨g, i * 5 + 4, none⟩) h.lt).trans (h.c4 i hi)⟩
end Go.Proofs.YtedhfimjcpbcpaaDoor

/-
  The contracts of the laws' own is and awake. Conditions: as each theorem says.
-/
namespace Go.Proofs.YtedhfimjcpbcpaaDoor
open Go.RowKit
set_option linter.unusedVariables false
set_option linter.unusedSimpArgs false

theorem nn_small (n : Nat) (hn : n < P25) : L5.nn ⟨(n : Int), 0, 0, 0, 0⟩ = n := by
  refine nn_low ?_ hn
  unfold L5.num val5; dsimp only; omega
theorem tm_small (n : Nat) (hn : n < 4503599627370496) : L5.Tm ⟨(n : Int), 0, 0, 0, 0⟩ := by
  unfold L5.Tm Tame; dsimp only; omega
end Go.Proofs.YtedhfimjcpbcpaaDoor

/-
  Elements that lie one behind the other; what the document's elements, sums and differences are, by an element's number. Conditions: as each theorem says.
-/
namespace Go.Proofs.YtedhfimjcpbcpaaDoor
open Go.RowKit
set_option linter.unusedVariables false
set_option linter.unusedSimpArgs false

theorem nn_add (x y z : L5) (h : z.num % (P25 : Int) = (x.num + y.num) % (P25 : Int)) : z.nn = (x.nn + y.nn) % P25 := by
  refine L5.nn_of ?_
  rw [h, Int.natCast_add, Int.add_emod, x.nn_mod, y.nn_mod, ← Int.add_emod]
theorem nn_sub (x y z : L5) (h : z.num % (P25 : Int) = (x.num - y.num) % (P25 : Int)) : z.nn = (x.nn + P25 - y.nn) % P25 := by
  refine L5.nn_of ?_
  have hl := y.nn_lt
  rw [h, show ((x.nn + P25 - y.nn : Nat) : Int) = ((x.nn : Int) - (y.nn : Int)) + (P25 : Int) * 1 by omega, Int.add_mul_emod_self_left, Int.sub_emod, x.nn_mod, y.nn_mod, ← Int.sub_emod]
end Go.Proofs.YtedhfimjcpbcpaaDoor
