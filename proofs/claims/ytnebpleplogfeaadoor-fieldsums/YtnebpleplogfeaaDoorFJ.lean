/-
  The contract of the field's nearRoot: for tame elements it returns a tame element of the number that the program takes for a root at first, and changes no memory that was there. Conditions: as each theorem says.
-/
import Derived.Test.YtnebpleplogfeaaDoorFI
import Derived.Test.YtnebpleplogfeaaDoorNR
import Derived.Test.YtnebpleplogfeaaDoorFG
namespace Go.Proofs.YtnebpleplogfeaaDoor
open Go.RowKit
set_option linter.unusedVariables false
set_option linter.unusedSimpArgs false

theorem mul_congZ {a b c d : Int} (h1 : a % (P25 : Int) = b % (P25 : Int)) (h2 : c % (P25 : Int) = d % (P25 : Int)) : a * c % (P25 : Int) = b * d % (P25 : Int) := by rw [Int.mul_emod, h1, h2, ← Int.mul_emod]
theorem pow_congZ {a b : Int} (h : a % (P25 : Int) = b % (P25 : Int)) (n : Nat) : a ^ n % (P25 : Int) = b ^ n % (P25 : Int) := by
  induction n with
  | zero => rw [Int.pow_zero, Int.pow_zero]
  | succ n ih => rw [Int.pow_succ, Int.pow_succ]; exact mul_congZ ih h
/-- An element's number. -/
def L5.nn (x : L5) : Nat := (x.num % (P25 : Int)).toNat
theorem P25_posZ : (0 : Int) < (P25 : Int) := by decide +kernel
theorem L5.nn_eq (x : L5) : (x.nn : Int) = x.num % (P25 : Int) := Int.toNat_of_nonneg (Int.emod_nonneg _ (by have := P25_posZ; omega))
theorem L5.nn_lt (x : L5) : x.nn < P25 := by
  have h1 := x.nn_eq
  have h2 := Int.emod_lt_of_pos x.num P25_posZ
  omega
theorem L5.nn_of {x : L5} {n : Nat} (h : x.num % (P25 : Int) = (n : Int) % (P25 : Int)) : x.nn = n % P25 := by
  unfold L5.nn
  rw [h, ← Int.natCast_emod, Int.toNat_natCast]
theorem L5.nn_mod (x : L5) : x.num % (P25 : Int) = (x.nn : Int) % (P25 : Int) := by rw [x.nn_eq, Int.emod_emod]
theorem near_nat (u v z : L5) (k : Nat) (h : z.num % (P25 : Int) = u.num * v.num ^ 3 * (u.num * v.num ^ 7) ^ k % (P25 : Int)) : z.nn = u.nn * v.nn ^ 3 * (u.nn * v.nn ^ 7) ^ k % P25 := by
  refine L5.nn_of ?_
  rw [h, Int.natCast_mul, Int.natCast_mul, Int.natCast_pow, Int.natCast_pow, Int.natCast_mul, Int.natCast_pow]
  exact mul_congZ (mul_congZ u.nn_mod (pow_congZ v.nn_mod 3)) (pow_congZ (mul_congZ u.nn_mod (pow_congZ v.nn_mod 7)) k)
set_option maxRecDepth 100000 in
set_option maxHeartbeats 8000000 in
theorem near_fe (x y : L5) (hx : x.Tm) (hy : y.Tm) : ∃ z : L5, z.Tm ∧ Hid (z.nn = nearN x.nn y.nn) ∧ ∀ w : World, Calls Tryd.prog 53 #[.agg #[.int .u64 x.l0, .int .u64 x.l1, .int .u64 x.l2, .int .u64 x.l3, .int .u64 x.l4], .agg #[.int .u64 y.l0, .int .u64 y.l1, .int .u64 y.l2, .int .u64 y.l3, .int .u64 y.l4]] w fun e w' => e = .returned (.agg #[.int .u64 z.l0, .int .u64 z.l1, .int .u64 z.l2, .int .u64 z.l3, .int .u64 z.l4]) ∧ Below w.heap.size w w' := by
  have vy := pow_base y.num
  obtain ⟨c, hc, uc, kc⟩ := join_fe y y 1 1 hy hy (by decide) (by decide)
  have vc := pow_join y.num _ _ _ 1 1 1 3 vy vy uc (by decide +kernel)
  obtain ⟨s, hs, us, ks⟩ := join_fe c y 1 1 hc hy (by decide) (by decide)
  have vs := pow_join y.num _ _ _ 1 3 1 7 vc vy us (by decide +kernel)
  obtain ⟨b, hb, ub, kb⟩ := mul_fe x s hx hs
  obtain ⟨m, hm, um, km⟩ := mul_fe x c hx hc
  obtain ⟨p, hp, up, kp⟩ := power250_fe b hb
  obtain ⟨j, hj, uj, kj⟩ := join_fe p b 2 2 hp hb (by decide) (by decide)
  have vj := pow_join b.num _ _ _ 2 (2 ^ 250 - 1) 1 nearK up.out (pow_base _) uj (by decide +kernel)
  obtain ⟨t, ht, ut, kt⟩ := mul_fe m j hm hj
  refine ⟨t, ht, ?_, fun w => ?_⟩
  · have e : t.num % (P25 : Int) = x.num * y.num ^ 3 * (x.num * y.num ^ 7) ^ nearK % (P25 : Int) := by
      rw [ut.out]
      refine mul_congZ (um.out.trans (mul_congZ rfl vc)) (vj.trans (pow_congZ (ub.out.trans (mul_congZ rfl vs)) _))
    exact near_nat x y t nearK e
  obtain ⟨x0, x1, x2, x3, x4⟩ := x
  obtain ⟨y0, y1, y2, y3, y4⟩ := y
  obtain ⟨c0, c1, c2, c3, c4⟩ := c
  obtain ⟨s0, s1, s2, s3, s4⟩ := s
  obtain ⟨b0, b1, b2, b3, b4⟩ := b
  obtain ⟨m0, m1, m2, m3, m4⟩ := m
  obtain ⟨p0, p1, p2, p3, p4⟩ := p
  obtain ⟨j0, j1, j2, j3, j4⟩ := j
  obtain ⟨t0, t1, t2, t3, t4⟩ := t
  dsimp only at kc ks kb km kp kj kt ⊢
  have Qc : Hid (∀ w : World, Calls Tryd.prog 50 #[.agg #[.int .u64 y0, .int .u64 y1, .int .u64 y2, .int .u64 y3, .int .u64 y4], .int .i64 1, .agg #[.int .u64 y0, .int .u64 y1, .int .u64 y2, .int .u64 y3, .int .u64 y4]] w fun e w' => e = .returned (.agg #[.int .u64 c0, .int .u64 c1, .int .u64 c2, .int .u64 c3, .int .u64 c4]) ∧ Below w.heap.size w w') := kc
  have Qs : Hid (∀ w : World, Calls Tryd.prog 50 #[.agg #[.int .u64 c0, .int .u64 c1, .int .u64 c2, .int .u64 c3, .int .u64 c4], .int .i64 1, .agg #[.int .u64 y0, .int .u64 y1, .int .u64 y2, .int .u64 y3, .int .u64 y4]] w fun e w' => e = .returned (.agg #[.int .u64 s0, .int .u64 s1, .int .u64 s2, .int .u64 s3, .int .u64 s4]) ∧ Below w.heap.size w w') := ks
  have Qb : Hid (∀ w : World, Calls Tryd.prog 17 #[.agg #[.int .u64 x0, .int .u64 x1, .int .u64 x2, .int .u64 x3, .int .u64 x4], .agg #[.int .u64 s0, .int .u64 s1, .int .u64 s2, .int .u64 s3, .int .u64 s4]] w fun e w' => e = .returned (.agg #[.int .u64 b0, .int .u64 b1, .int .u64 b2, .int .u64 b3, .int .u64 b4]) ∧ Below w.heap.size w w') := kb
  have Qm : Hid (∀ w : World, Calls Tryd.prog 17 #[.agg #[.int .u64 x0, .int .u64 x1, .int .u64 x2, .int .u64 x3, .int .u64 x4], .agg #[.int .u64 c0, .int .u64 c1, .int .u64 c2, .int .u64 c3, .int .u64 c4]] w fun e w' => e = .returned (.agg #[.int .u64 m0, .int .u64 m1, .int .u64 m2, .int .u64 m3, .int .u64 m4]) ∧ Below w.heap.size w w') := km
  have Qp : Hid (∀ w : World, Calls Tryd.prog 51 #[.agg #[.int .u64 b0, .int .u64 b1, .int .u64 b2, .int .u64 b3, .int .u64 b4]] w fun e w' => e = .returned (.agg #[.int .u64 p0, .int .u64 p1, .int .u64 p2, .int .u64 p3, .int .u64 p4]) ∧ Below w.heap.size w w') := kp
  have Qj : Hid (∀ w : World, Calls Tryd.prog 50 #[.agg #[.int .u64 p0, .int .u64 p1, .int .u64 p2, .int .u64 p3, .int .u64 p4], .int .i64 2, .agg #[.int .u64 b0, .int .u64 b1, .int .u64 b2, .int .u64 b3, .int .u64 b4]] w fun e w' => e = .returned (.agg #[.int .u64 j0, .int .u64 j1, .int .u64 j2, .int .u64 j3, .int .u64 j4]) ∧ Below w.heap.size w w') := kj
  have Qt : Hid (∀ w : World, Calls Tryd.prog 17 #[.agg #[.int .u64 m0, .int .u64 m1, .int .u64 m2, .int .u64 m3, .int .u64 m4], .agg #[.int .u64 j0, .int .u64 j1, .int .u64 j2, .int .u64 j3, .int .u64 j4]] w fun e w' => e = .returned (.agg #[.int .u64 t0, .int .u64 t1, .int .u64 t2, .int .u64 t3, .int .u64 t4]) ∧ Below w.heap.size w w') := kt
  clear vy vc vs vj hx hy hc uc kc hs us ks hb ub kb hm um km hp up kp hj uj kj ht ut kt
  go_enter Tryd.func53, Tryd.ntmps53
  go_wp2_with fail
  refine calls_at (fun V => Bl5 V w.heap.size x0 x1 x2 x3 x4 ∧ Bl5 V (w.heap.size + 1) y0 y1 y2 y3 y4 ∧ Bl5 V (w.heap.size + 1 + 1) 0 0 0 0 0 ∧ Below w.heap.size w V) ⟨?_, ?_, ?_, ?_⟩ ?_
  · (repeat (first | refine Bl5.drew ?_ | refine Bl5.drewN ?_ _ | (refine Bl5.new _ _ _ _ _ _ _ _ ?_; simp; done) | refine Bl5.alloc ?_ _))
  · (repeat (first | refine Bl5.drew ?_ | refine Bl5.drewN ?_ _ | (refine Bl5.new _ _ _ _ _ _ _ _ ?_; simp; done) | refine Bl5.alloc ?_ _))
  · (repeat (first | refine Bl5.drew ?_ | refine Bl5.drewN ?_ _ | (refine Bl5.new _ _ _ _ _ _ _ _ ?_; simp; done) | refine Bl5.alloc ?_ _))
  · (repeat (first | exact Below.refl _ _ | refine Below.drew ?_ | refine below_drewN ?_ _ | refine Below.alloc ?_ (by simp <;> omega) _ | refine Below.setCell ?_ (by simp <;> omega) _))
  rintro v1 ⟨k0, k1, k2, k3⟩
  have X_1 : Hid (Bl5 v1 w.heap.size x0 x1 x2 x3 x4) := k0
  have Y_1 : Hid (Bl5 v1 (w.heap.size + 1) y0 y1 y2 y3 y4) := k1
  have R_1 : Hid (Bl5 v1 (w.heap.size + 1 + 1) 0 0 0 0 0) := k2
  have G_1 : Hid (Below w.heap.size w v1) := k3
  clear k0 k1 k2 k3
  refine (Qc.out _).mono ?_
  rintro e v2 ⟨rfl, g⟩
  have X_2 : Hid (Bl5 v2 w.heap.size x0 x1 x2 x3 x4) := X_1.out.below g
  have Y_2 : Hid (Bl5 v2 (w.heap.size + 1) y0 y1 y2 y3 y4) := Y_1.out.below g
  have R_2 : Hid (Bl5 v2 (w.heap.size + 1 + 1) 0 0 0 0 0) := R_1.out.below g
  have G_2 : Hid (Below w.heap.size w v2) := G_1.out.trans (g.mono G_1.out.size)
  clear X_1 Y_1 R_1 G_1 g
  obtain ⟨cyl, cy0, cy1, cy2, cy3, cy4, cyf⟩ := Y_2.out
  go_wp2_with fail
  have szC : w.heap.size ≤ v2.heap.size := G_2.out.size
  have nbCX : ¬ (v2.heap.size = w.heap.size) := by have := X_2.out.lt; omega
  have nbCY : ¬ (v2.heap.size = (w.heap.size + 1)) := by have := Y_2.out.lt; omega
  have nbCR : ¬ (v2.heap.size = (w.heap.size + 1 + 1)) := by have := R_2.out.lt; omega
  refine calls_at (fun V => Bl5 V w.heap.size x0 x1 x2 x3 x4 ∧ Bl5 V (w.heap.size + 1) y0 y1 y2 y3 y4 ∧ Bl5 V (w.heap.size + 1 + 1) 0 0 0 0 0 ∧ Bl5 V v2.heap.size c0 c1 c2 c3 c4 ∧ Below w.heap.size w V) ⟨X_2.out.alloc _, Y_2.out.alloc _, R_2.out.alloc _, Bl5.new v2 _ _ _ _ _ _ _ rfl, G_2.out.alloc G_2.out.size _⟩ ?_
  rintro v3 ⟨k0, k1, k2, k3, k4⟩
  have X_3 : Hid (Bl5 v3 w.heap.size x0 x1 x2 x3 x4) := k0
  have Y_3 : Hid (Bl5 v3 (w.heap.size + 1) y0 y1 y2 y3 y4) := k1
  have R_3 : Hid (Bl5 v3 (w.heap.size + 1 + 1) 0 0 0 0 0) := k2
  have C_3 : Hid (Bl5 v3 v2.heap.size c0 c1 c2 c3 c4) := k3
  have G_3 : Hid (Below w.heap.size w v3) := k4
  clear k0 k1 k2 k3 k4 X_2 Y_2 R_2 G_2
  refine (Qs.out _).mono ?_
  rintro e v4 ⟨rfl, g⟩
  clear cyl cy0 cy1 cy2 cy3 cy4 cyf
  have X_4 : Hid (Bl5 v4 w.heap.size x0 x1 x2 x3 x4) := X_3.out.below g
  have Y_4 : Hid (Bl5 v4 (w.heap.size + 1) y0 y1 y2 y3 y4) := Y_3.out.below g
  have R_4 : Hid (Bl5 v4 (w.heap.size + 1 + 1) 0 0 0 0 0) := R_3.out.below g
  have C_4 : Hid (Bl5 v4 v2.heap.size c0 c1 c2 c3 c4) := C_3.out.below g
  have G_4 : Hid (Below w.heap.size w v4) := G_3.out.trans (g.mono G_3.out.size)
  clear X_3 Y_3 R_3 C_3 G_3 g
  obtain ⟨cxl, cx0, cx1, cx2, cx3, cx4, cxf⟩ := X_4.out
  go_wp2_with fail
  have szS : w.heap.size ≤ v4.heap.size := G_4.out.size
  have nbSX : ¬ (v4.heap.size = w.heap.size) := by have := X_4.out.lt; omega
  have nbSY : ¬ (v4.heap.size = (w.heap.size + 1)) := by have := Y_4.out.lt; omega
  have nbSR : ¬ (v4.heap.size = (w.heap.size + 1 + 1)) := by have := R_4.out.lt; omega
  have nbSC : ¬ (v4.heap.size = v2.heap.size) := by have := C_4.out.lt; omega
  refine calls_at (fun V => Bl5 V w.heap.size x0 x1 x2 x3 x4 ∧ Bl5 V (w.heap.size + 1) y0 y1 y2 y3 y4 ∧ Bl5 V (w.heap.size + 1 + 1) 0 0 0 0 0 ∧ Bl5 V v2.heap.size c0 c1 c2 c3 c4 ∧ Bl5 V v4.heap.size s0 s1 s2 s3 s4 ∧ Below w.heap.size w V) ⟨X_4.out.alloc _, Y_4.out.alloc _, R_4.out.alloc _, C_4.out.alloc _, Bl5.new v4 _ _ _ _ _ _ _ rfl, G_4.out.alloc G_4.out.size _⟩ ?_
  rintro v5 ⟨k0, k1, k2, k3, k4, k5⟩
  have X_5 : Hid (Bl5 v5 w.heap.size x0 x1 x2 x3 x4) := k0
  have Y_5 : Hid (Bl5 v5 (w.heap.size + 1) y0 y1 y2 y3 y4) := k1
  have R_5 : Hid (Bl5 v5 (w.heap.size + 1 + 1) 0 0 0 0 0) := k2
  have C_5 : Hid (Bl5 v5 v2.heap.size c0 c1 c2 c3 c4) := k3
  have S_5 : Hid (Bl5 v5 v4.heap.size s0 s1 s2 s3 s4) := k4
  have G_5 : Hid (Below w.heap.size w v5) := k5
  clear k0 k1 k2 k3 k4 k5 X_4 Y_4 R_4 C_4 G_4
  refine (Qb.out _).mono ?_
  rintro e v6 ⟨rfl, g⟩
  clear cxl cx0 cx1 cx2 cx3 cx4 cxf
  have X_6 : Hid (Bl5 v6 w.heap.size x0 x1 x2 x3 x4) := X_5.out.below g
  have Y_6 : Hid (Bl5 v6 (w.heap.size + 1) y0 y1 y2 y3 y4) := Y_5.out.below g
  have R_6 : Hid (Bl5 v6 (w.heap.size + 1 + 1) 0 0 0 0 0) := R_5.out.below g
  have C_6 : Hid (Bl5 v6 v2.heap.size c0 c1 c2 c3 c4) := C_5.out.below g
  have S_6 : Hid (Bl5 v6 v4.heap.size s0 s1 s2 s3 s4) := S_5.out.below g
  have G_6 : Hid (Below w.heap.size w v6) := G_5.out.trans (g.mono G_5.out.size)
  clear X_5 Y_5 R_5 C_5 S_5 G_5 g
  go_wp2_with fail
  have szB : w.heap.size ≤ v6.heap.size := G_6.out.size
  have nbBX : ¬ (v6.heap.size = w.heap.size) := by have := X_6.out.lt; omega
  have nbBY : ¬ (v6.heap.size = (w.heap.size + 1)) := by have := Y_6.out.lt; omega
  have nbBR : ¬ (v6.heap.size = (w.heap.size + 1 + 1)) := by have := R_6.out.lt; omega
  have nbBC : ¬ (v6.heap.size = v2.heap.size) := by have := C_6.out.lt; omega
  have nbBS : ¬ (v6.heap.size = v4.heap.size) := by have := S_6.out.lt; omega
  refine wp_cut (fun V => Bl5 V w.heap.size x0 x1 x2 x3 x4 ∧ Bl5 V (w.heap.size + 1) y0 y1 y2 y3 y4 ∧ Bl5 V (w.heap.size + 1 + 1) 0 0 0 0 0 ∧ Bl5 V v2.heap.size c0 c1 c2 c3 c4 ∧ Bl5 V v4.heap.size s0 s1 s2 s3 s4 ∧ Bl5 V v6.heap.size b0 b1 b2 b3 b4 ∧ Below w.heap.size w V) ⟨X_6.out.alloc _, Y_6.out.alloc _, R_6.out.alloc _, C_6.out.alloc _, S_6.out.alloc _, Bl5.new v6 _ _ _ _ _ _ _ rfl, G_6.out.alloc G_6.out.size _⟩ ?_
  rintro v7 ⟨k0, k1, k2, k3, k4, k5, k6⟩
  have X_7 : Hid (Bl5 v7 w.heap.size x0 x1 x2 x3 x4) := k0
  have Y_7 : Hid (Bl5 v7 (w.heap.size + 1) y0 y1 y2 y3 y4) := k1
  have R_7 : Hid (Bl5 v7 (w.heap.size + 1 + 1) 0 0 0 0 0) := k2
  have C_7 : Hid (Bl5 v7 v2.heap.size c0 c1 c2 c3 c4) := k3
  have S_7 : Hid (Bl5 v7 v4.heap.size s0 s1 s2 s3 s4) := k4
  have B_7 : Hid (Bl5 v7 v6.heap.size b0 b1 b2 b3 b4) := k5
  have G_7 : Hid (Below w.heap.size w v7) := k6
  clear k0 k1 k2 k3 k4 k5 k6 X_6 Y_6 R_6 C_6 S_6 G_6
  have K : v7.drew.cell? ⟨w.heap.size, 0, none⟩ = some (.int .u64 x0) ∧ v7.drew.cell? ⟨w.heap.size, 1, none⟩ = some (.int .u64 x1) ∧ v7.drew.cell? ⟨w.heap.size, 2, none⟩ = some (.int .u64 x2) ∧ v7.drew.cell? ⟨w.heap.size, 3, none⟩ = some (.int .u64 x3) ∧ v7.drew.cell? ⟨w.heap.size, 4, none⟩ = some (.int .u64 x4) ∧ v7.drew.cell? ⟨v2.heap.size, 0, none⟩ = some (.int .u64 c0) ∧ v7.drew.cell? ⟨v2.heap.size, 1, none⟩ = some (.int .u64 c1) ∧ v7.drew.cell? ⟨v2.heap.size, 2, none⟩ = some (.int .u64 c2) ∧ v7.drew.cell? ⟨v2.heap.size, 3, none⟩ = some (.int .u64 c3) ∧ v7.drew.cell? ⟨v2.heap.size, 4, none⟩ = some (.int .u64 c4) ∧ v7.drew.cell? ⟨v6.heap.size, 0, none⟩ = some (.int .u64 b0) ∧ v7.drew.cell? ⟨v6.heap.size, 1, none⟩ = some (.int .u64 b1) ∧ v7.drew.cell? ⟨v6.heap.size, 2, none⟩ = some (.int .u64 b2) ∧ v7.drew.cell? ⟨v6.heap.size, 3, none⟩ = some (.int .u64 b3) ∧ v7.drew.cell? ⟨v6.heap.size, 4, none⟩ = some (.int .u64 b4) := ⟨X_7.out.drew.c0, X_7.out.drew.c1, X_7.out.drew.c2, X_7.out.drew.c3, X_7.out.drew.c4, C_7.out.drew.c0, C_7.out.drew.c1, C_7.out.drew.c2, C_7.out.drew.c3, C_7.out.drew.c4, B_7.out.drew.c0, B_7.out.drew.c1, B_7.out.drew.c2, B_7.out.drew.c3, B_7.out.drew.c4⟩
  have X_7' : Hid (Bl5 v7.drew w.heap.size x0 x1 x2 x3 x4) := X_7.out.drew
  have Y_7' : Hid (Bl5 v7.drew (w.heap.size + 1) y0 y1 y2 y3 y4) := Y_7.out.drew
  have R_7' : Hid (Bl5 v7.drew (w.heap.size + 1 + 1) 0 0 0 0 0) := R_7.out.drew
  have C_7' : Hid (Bl5 v7.drew v2.heap.size c0 c1 c2 c3 c4) := C_7.out.drew
  have S_7' : Hid (Bl5 v7.drew v4.heap.size s0 s1 s2 s3 s4) := S_7.out.drew
  have B_7' : Hid (Bl5 v7.drew v6.heap.size b0 b1 b2 b3 b4) := B_7.out.drew
  have G_7' : Hid (Below w.heap.size w v7.drew) := G_7.out.drew
  have neX : ¬ ((w.heap.size + 1 + 1) = w.heap.size) := by omega
  have neX' : ¬ (w.heap.size = (w.heap.size + 1 + 1)) := by omega
  have neC : ¬ ((w.heap.size + 1 + 1) = v2.heap.size) := by omega
  have neC' : ¬ (v2.heap.size = (w.heap.size + 1 + 1)) := by omega
  have neB : ¬ ((w.heap.size + 1 + 1) = v6.heap.size) := by omega
  have neB' : ¬ (v6.heap.size = (w.heap.size + 1 + 1)) := by omega
  go_wp2_with fail
  go_region_held3 (fun w' => w'.cell? ⟨w.heap.size, 0, none⟩ = some (.int .u64 x0) ∧ w'.cell? ⟨w.heap.size, 1, none⟩ = some (.int .u64 x1) ∧ w'.cell? ⟨w.heap.size, 2, none⟩ = some (.int .u64 x2) ∧ w'.cell? ⟨w.heap.size, 3, none⟩ = some (.int .u64 x3) ∧ w'.cell? ⟨w.heap.size, 4, none⟩ = some (.int .u64 x4) ∧ w'.cell? ⟨v2.heap.size, 0, none⟩ = some (.int .u64 c0) ∧ w'.cell? ⟨v2.heap.size, 1, none⟩ = some (.int .u64 c1) ∧ w'.cell? ⟨v2.heap.size, 2, none⟩ = some (.int .u64 c2) ∧ w'.cell? ⟨v2.heap.size, 3, none⟩ = some (.int .u64 c3) ∧ w'.cell? ⟨v2.heap.size, 4, none⟩ = some (.int .u64 c4) ∧ w'.cell? ⟨v6.heap.size, 0, none⟩ = some (.int .u64 b0) ∧ w'.cell? ⟨v6.heap.size, 1, none⟩ = some (.int .u64 b1) ∧ w'.cell? ⟨v6.heap.size, 2, none⟩ = some (.int .u64 b2) ∧ w'.cell? ⟨v6.heap.size, 3, none⟩ = some (.int .u64 b3) ∧ w'.cell? ⟨v6.heap.size, 4, none⟩ = some (.int .u64 b4)) (first | with_reducible assumption | go_keep)
    (first
      | (go_at_call 17; have gg := G_10; clear gg; (refine (Qt.out _).mono ?_); (rintro e v11 ⟨rfl, g⟩; have X_11 : Hid (Bl5 v11 w.heap.size x0 x1 x2 x3 x4) := X_10.out.below g; have Y_11 : Hid (Bl5 v11 (w.heap.size + 1) y0 y1 y2 y3 y4) := Y_10.out.below g; have R_11 : Hid (Bl5 v11 (w.heap.size + 1 + 1) 0 0 0 0 0) := R_10.out.below g; have C_11 : Hid (Bl5 v11 v2.heap.size c0 c1 c2 c3 c4) := C_10.out.below g; have S_11 : Hid (Bl5 v11 v4.heap.size s0 s1 s2 s3 s4) := S_10.out.below g; have B_11 : Hid (Bl5 v11 v6.heap.size b0 b1 b2 b3 b4) := B_10.out.below g; have G_11 : Hid (Below w.heap.size w v11) := G_10.out.trans (g.mono G_10.out.size); clear g; clear K; have K : v11.cell? ⟨w.heap.size, 0, none⟩ = some (.int .u64 x0) ∧ v11.cell? ⟨w.heap.size, 1, none⟩ = some (.int .u64 x1) ∧ v11.cell? ⟨w.heap.size, 2, none⟩ = some (.int .u64 x2) ∧ v11.cell? ⟨w.heap.size, 3, none⟩ = some (.int .u64 x3) ∧ v11.cell? ⟨w.heap.size, 4, none⟩ = some (.int .u64 x4) ∧ v11.cell? ⟨v2.heap.size, 0, none⟩ = some (.int .u64 c0) ∧ v11.cell? ⟨v2.heap.size, 1, none⟩ = some (.int .u64 c1) ∧ v11.cell? ⟨v2.heap.size, 2, none⟩ = some (.int .u64 c2) ∧ v11.cell? ⟨v2.heap.size, 3, none⟩ = some (.int .u64 c3) ∧ v11.cell? ⟨v2.heap.size, 4, none⟩ = some (.int .u64 c4) ∧ v11.cell? ⟨v6.heap.size, 0, none⟩ = some (.int .u64 b0) ∧ v11.cell? ⟨v6.heap.size, 1, none⟩ = some (.int .u64 b1) ∧ v11.cell? ⟨v6.heap.size, 2, none⟩ = some (.int .u64 b2) ∧ v11.cell? ⟨v6.heap.size, 3, none⟩ = some (.int .u64 b3) ∧ v11.cell? ⟨v6.heap.size, 4, none⟩ = some (.int .u64 b4) := ⟨X_11.out.c0, X_11.out.c1, X_11.out.c2, X_11.out.c3, X_11.out.c4, C_11.out.c0, C_11.out.c1, C_11.out.c2, C_11.out.c3, C_11.out.c4, B_11.out.c0, B_11.out.c1, B_11.out.c2, B_11.out.c3, B_11.out.c4⟩; obtain ⟨stl, st0, st1, st2, st3, st4, stf⟩ := R_11.out))
      | (go_at_call 50; have gg := G_9; clear gg; (refine (Qj.out _).mono ?_); (rintro e v10 ⟨rfl, g⟩; have X_10 : Hid (Bl5 v10 w.heap.size x0 x1 x2 x3 x4) := X_9.out.below g; have Y_10 : Hid (Bl5 v10 (w.heap.size + 1) y0 y1 y2 y3 y4) := Y_9.out.below g; have R_10 : Hid (Bl5 v10 (w.heap.size + 1 + 1) 0 0 0 0 0) := R_9.out.below g; have C_10 : Hid (Bl5 v10 v2.heap.size c0 c1 c2 c3 c4) := C_9.out.below g; have S_10 : Hid (Bl5 v10 v4.heap.size s0 s1 s2 s3 s4) := S_9.out.below g; have B_10 : Hid (Bl5 v10 v6.heap.size b0 b1 b2 b3 b4) := B_9.out.below g; have G_10 : Hid (Below w.heap.size w v10) := G_9.out.trans (g.mono G_9.out.size); clear g; clear K; have K : v10.cell? ⟨w.heap.size, 0, none⟩ = some (.int .u64 x0) ∧ v10.cell? ⟨w.heap.size, 1, none⟩ = some (.int .u64 x1) ∧ v10.cell? ⟨w.heap.size, 2, none⟩ = some (.int .u64 x2) ∧ v10.cell? ⟨w.heap.size, 3, none⟩ = some (.int .u64 x3) ∧ v10.cell? ⟨w.heap.size, 4, none⟩ = some (.int .u64 x4) ∧ v10.cell? ⟨v2.heap.size, 0, none⟩ = some (.int .u64 c0) ∧ v10.cell? ⟨v2.heap.size, 1, none⟩ = some (.int .u64 c1) ∧ v10.cell? ⟨v2.heap.size, 2, none⟩ = some (.int .u64 c2) ∧ v10.cell? ⟨v2.heap.size, 3, none⟩ = some (.int .u64 c3) ∧ v10.cell? ⟨v2.heap.size, 4, none⟩ = some (.int .u64 c4) ∧ v10.cell? ⟨v6.heap.size, 0, none⟩ = some (.int .u64 b0) ∧ v10.cell? ⟨v6.heap.size, 1, none⟩ = some (.int .u64 b1) ∧ v10.cell? ⟨v6.heap.size, 2, none⟩ = some (.int .u64 b2) ∧ v10.cell? ⟨v6.heap.size, 3, none⟩ = some (.int .u64 b3) ∧ v10.cell? ⟨v6.heap.size, 4, none⟩ = some (.int .u64 b4) := ⟨X_10.out.c0, X_10.out.c1, X_10.out.c2, X_10.out.c3, X_10.out.c4, C_10.out.c0, C_10.out.c1, C_10.out.c2, C_10.out.c3, C_10.out.c4, B_10.out.c0, B_10.out.c1, B_10.out.c2, B_10.out.c3, B_10.out.c4⟩))
      | (go_at_call 51; have gg := G_8; clear gg; (refine (Qp.out _).mono ?_); (rintro e v9 ⟨rfl, g⟩; have X_9 : Hid (Bl5 v9 w.heap.size x0 x1 x2 x3 x4) := X_8.out.below g; have Y_9 : Hid (Bl5 v9 (w.heap.size + 1) y0 y1 y2 y3 y4) := Y_8.out.below g; have R_9 : Hid (Bl5 v9 (w.heap.size + 1 + 1) 0 0 0 0 0) := R_8.out.below g; have C_9 : Hid (Bl5 v9 v2.heap.size c0 c1 c2 c3 c4) := C_8.out.below g; have S_9 : Hid (Bl5 v9 v4.heap.size s0 s1 s2 s3 s4) := S_8.out.below g; have B_9 : Hid (Bl5 v9 v6.heap.size b0 b1 b2 b3 b4) := B_8.out.below g; have G_9 : Hid (Below w.heap.size w v9) := G_8.out.trans (g.mono G_8.out.size); clear g; clear K; have K : v9.cell? ⟨w.heap.size, 0, none⟩ = some (.int .u64 x0) ∧ v9.cell? ⟨w.heap.size, 1, none⟩ = some (.int .u64 x1) ∧ v9.cell? ⟨w.heap.size, 2, none⟩ = some (.int .u64 x2) ∧ v9.cell? ⟨w.heap.size, 3, none⟩ = some (.int .u64 x3) ∧ v9.cell? ⟨w.heap.size, 4, none⟩ = some (.int .u64 x4) ∧ v9.cell? ⟨v2.heap.size, 0, none⟩ = some (.int .u64 c0) ∧ v9.cell? ⟨v2.heap.size, 1, none⟩ = some (.int .u64 c1) ∧ v9.cell? ⟨v2.heap.size, 2, none⟩ = some (.int .u64 c2) ∧ v9.cell? ⟨v2.heap.size, 3, none⟩ = some (.int .u64 c3) ∧ v9.cell? ⟨v2.heap.size, 4, none⟩ = some (.int .u64 c4) ∧ v9.cell? ⟨v6.heap.size, 0, none⟩ = some (.int .u64 b0) ∧ v9.cell? ⟨v6.heap.size, 1, none⟩ = some (.int .u64 b1) ∧ v9.cell? ⟨v6.heap.size, 2, none⟩ = some (.int .u64 b2) ∧ v9.cell? ⟨v6.heap.size, 3, none⟩ = some (.int .u64 b3) ∧ v9.cell? ⟨v6.heap.size, 4, none⟩ = some (.int .u64 b4) := ⟨X_9.out.c0, X_9.out.c1, X_9.out.c2, X_9.out.c3, X_9.out.c4, C_9.out.c0, C_9.out.c1, C_9.out.c2, C_9.out.c3, C_9.out.c4, B_9.out.c0, B_9.out.c1, B_9.out.c2, B_9.out.c3, B_9.out.c4⟩))
      | (go_at_call 17; have gg := G_7'; clear gg; (refine (Qm.out _).mono ?_); (rintro e v8 ⟨rfl, g⟩; have X_8 : Hid (Bl5 v8 w.heap.size x0 x1 x2 x3 x4) := X_7'.out.below g; have Y_8 : Hid (Bl5 v8 (w.heap.size + 1) y0 y1 y2 y3 y4) := Y_7'.out.below g; have R_8 : Hid (Bl5 v8 (w.heap.size + 1 + 1) 0 0 0 0 0) := R_7'.out.below g; have C_8 : Hid (Bl5 v8 v2.heap.size c0 c1 c2 c3 c4) := C_7'.out.below g; have S_8 : Hid (Bl5 v8 v4.heap.size s0 s1 s2 s3 s4) := S_7'.out.below g; have B_8 : Hid (Bl5 v8 v6.heap.size b0 b1 b2 b3 b4) := B_7'.out.below g; have G_8 : Hid (Below w.heap.size w v8) := G_7'.out.trans (g.mono G_7'.out.size); clear g; clear K; have K : v8.cell? ⟨w.heap.size, 0, none⟩ = some (.int .u64 x0) ∧ v8.cell? ⟨w.heap.size, 1, none⟩ = some (.int .u64 x1) ∧ v8.cell? ⟨w.heap.size, 2, none⟩ = some (.int .u64 x2) ∧ v8.cell? ⟨w.heap.size, 3, none⟩ = some (.int .u64 x3) ∧ v8.cell? ⟨w.heap.size, 4, none⟩ = some (.int .u64 x4) ∧ v8.cell? ⟨v2.heap.size, 0, none⟩ = some (.int .u64 c0) ∧ v8.cell? ⟨v2.heap.size, 1, none⟩ = some (.int .u64 c1) ∧ v8.cell? ⟨v2.heap.size, 2, none⟩ = some (.int .u64 c2) ∧ v8.cell? ⟨v2.heap.size, 3, none⟩ = some (.int .u64 c3) ∧ v8.cell? ⟨v2.heap.size, 4, none⟩ = some (.int .u64 c4) ∧ v8.cell? ⟨v6.heap.size, 0, none⟩ = some (.int .u64 b0) ∧ v8.cell? ⟨v6.heap.size, 1, none⟩ = some (.int .u64 b1) ∧ v8.cell? ⟨v6.heap.size, 2, none⟩ = some (.int .u64 b2) ∧ v8.cell? ⟨v6.heap.size, 3, none⟩ = some (.int .u64 b3) ∧ v8.cell? ⟨v6.heap.size, 4, none⟩ = some (.int .u64 b4) := ⟨X_8.out.c0, X_8.out.c1, X_8.out.c2, X_8.out.c3, X_8.out.c4, C_8.out.c0, C_8.out.c1, C_8.out.c2, C_8.out.c3, C_8.out.c4, B_8.out.c0, B_8.out.c1, B_8.out.c2, B_8.out.c3, B_8.out.c4⟩))
      | fail)
  clear K neX neX' neC neC' neB neB'
  go_wp2_with fail
  refine body_cut (fun W => Bl5 W (w.heap.size + 1 + 1) t0 t1 t2 t3 t4 ∧ Below w.heap.size w W) ⟨R_11.out.set t0 t1 t2 t3 t4, ?_⟩ ?_
  · iterate 5 (refine Below.setCell ?_ (by simp <;> omega) _)
    exact G_11.out
  · rintro W ⟨⟨rl, r0, r1, r2, r3, r4, rf⟩, hb⟩
    exact bodyPost_ret (v := .agg #[.int .u64 t0, .int .u64 t1, .int .u64 t2, .int .u64 t3, .int .u64 t4]) (by simp [results, Tryd.results53, go_sem, r0, r1, r2, r3, r4]) rfl ⟨rfl, hb⟩

end Go.Proofs.YtnebpleplogfeaaDoor
