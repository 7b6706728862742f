/-
  The walk of the law RingPowers: for any modulus, any number and any exponent of four words it returns true and changes no memory that was there. Conditions: as each theorem says.
-/
import Derived.Test.YtkaekgjpjnnjpaaRingS
import Derived.Test.YtkaekgjpjnnjpaaRingY
import Derived.Test.YtkaekgjpjnnjpaaLimbSum
import Derived.Test.YtkaekgjpjnnjpaaRingG
import Derived.Test.YtkaekgjpjnnjpaaRefU
namespace Go.Proofs.Ytkaekgjpjnnjpaa
open Go.RowKit
set_option linter.unusedVariables false

theorem four_two : four 2 = .agg #[.int .u64 2, .int .u64 0, .int .u64 0, .int .u64 0] := by unfold four; simp

set_option maxHeartbeats 1000000 in
theorem inv_ring (W : World) (b m x : Nat) (hR : Rg W b m) (hx : x < M4) :
    Calls Try.prog 29 #[.pointer (some ⟨b, 0, none⟩), four x] W fun e w' => e = .returned (four (pwr m x (m - 2))) ∧ Below W.heap.size W w' := by
  have HR : Hid (Rg W b m) := hR
  obtain ⟨⟨h1, h2, h3, m0, m1, m2, m3, f, k0, k1, k2, k3, k4, k5, k6, k7, k8⟩, -, -⟩ := hR
  have h2M : 2 < M4 := by unfold M4; omega
  have hnM : m - 2 < M4 := by omega
  have hzM : pwr m x (m - 2) < M4 := Nat.lt_trans (pwr_lt m x _ h2) h3
  obtain ⟨x0, x1, x2, x3, -, -, -, -, ex, -⟩ := four_open x hx
  obtain ⟨n0, n1, n2, n3, -, -, -, -, en, -⟩ := four_open _ hnM
  obtain ⟨z0, z1, z2, z3, -, -, -, -, ez, -⟩ := four_open _ hzM
  have cS : Hid (∀ w, Calls Try.prog 49 #[.agg #[.int .u64 m0, .int .u64 m1, .int .u64 m2, .int .u64 m3], .agg #[.int .u64 2, .int .u64 0, .int .u64 0, .int .u64 0]] w fun e w' => e = .returned (.tuple #[.agg #[.int .u64 n0, .int .u64 n1, .int .u64 n2, .int .u64 n3], .int .u64 0]) ∧ Below w.heap.size w w') := by
    intro w
    have := sub_any m 2 h3 h2M w
    have e1 : (m + M4 - 2) % M4 = m - 2 := by rw [show m + M4 - 2 = m - 2 + M4 by omega, Nat.add_mod_right, Nat.mod_eq_of_lt hnM]
    have e2 : bor m 2 = 0 := by unfold bor; rw [if_neg (by omega)]
    rwa [e1, e2, k5, four_two, en] at this
  have cE : Hid (∀ w, Below W.heap.size W w → Calls Try.prog 27 #[.pointer (some ⟨b, 0, none⟩), .agg #[.int .u64 x0, .int .u64 x1, .int .u64 x2, .int .u64 x3], .agg #[.int .u64 n0, .int .u64 n1, .int .u64 n2, .int .u64 n3]] w fun e w' => e = .returned (.agg #[.int .u64 z0, .int .u64 z1, .int .u64 z2, .int .u64 z3]) ∧ Below w.heap.size w w') := by
    intro w hw; have := exp_ring w b m x (m - 2) (HR.out.below hw) hx hnM; rwa [ex, en, ez] at this
  rw [ex, ez]
  obtain ⟨l, c0, c1, c2, c3, c4⟩ := k8
  have l1 : b < W.heap.size + 1 := by omega
  have l2 : b < W.heap.size + 1 + 1 := by omega
  have q0 : ¬ b = W.heap.size := by omega
  have q1 : ¬ b = W.heap.size + 1 := by omega
  clear ex en ez k5 k6 k7 k0 k1 k2 k3 k4 hx h1 h2 h3 h2M hnM hzM
  go_enter Try.func29, Try.ntmps29
  go_wp2_with fail
  refine (made_any _ b m (HR.out.1.below (by (repeat (first | exact Below.refl _ _ | refine Below.drew ?_ | refine Below.alloc ?_ (by first | omega | (simp <;> omega)) _ | refine Below.setCell ?_ (by first | omega | (simp <;> omega)) _)); done))).mono ?_
  rintro e w9 ⟨rfl, hw⟩
  rw [hw]
  clear hw w9
  go_wp2_with fail
  refine (cS.out _).mono ?_
  rintro e w1 ⟨rfl, g1⟩
  have B1 : Hid (Below W.heap.size W w1) := Below.trans (by (repeat (first | exact Below.refl _ _ | refine Below.drew ?_ | refine Below.alloc ?_ (by first | omega | (simp <;> omega)) _ | refine Below.setCell ?_ (by first | omega | (simp <;> omega)) _)); done) (g1.mono (by first | omega | (simp <;> omega)))
  have X1 : Hid (Blk w1 W.heap.size x0 x1 x2 x3) := Blk.below (by (repeat (first | exact Blk.new_at _ _ _ _ _ _ _ (by simp) | refine Blk.drew ?_ | refine Blk.alloc ?_ _)); done) g1
  have Z1 : Hid (Blk w1 (W.heap.size + 1) 0 0 0 0) := Blk.below (by (repeat (first | exact Blk.new_at _ _ _ _ _ _ _ (by simp) | refine Blk.drew ?_ | refine Blk.alloc ?_ _)); done) g1
  clear g1 l c0 c1 c2 c3 c4 l1 l2 q0 q1
  obtain ⟨i0, i1, i2, i3, i4, i5⟩ := (X1.out.alloc (.cells #[.int .u64 n0, .int .u64 n1, .int .u64 n2, .int .u64 n3] 24))
  go_wp2_with fail
  refine (cE.out _ (B1.out.alloc B1.out.size _)).mono ?_
  rintro e w2 ⟨rfl, g2⟩
  obtain ⟨j0, j1, j2, j3, j4, j5⟩ := (Z1.out.alloc (.cells #[.int .u64 n0, .int .u64 n1, .int .u64 n2, .int .u64 n3] 24)).below g2
  go_wp2_with fail
  refine bodyPost_ret (v := .agg #[.int .u64 z0, .int .u64 z1, .int .u64 z2, .int .u64 z3]) (by simp [results, Try.results29, go_sem, j1, j2, j3, j4]) rfl ⟨rfl, ?_⟩
  have gs := B1.out.size
  have gs2 := g2.size
  simp at gs2
  have B2 : Below W.heap.size W w2 := (B1.out.alloc B1.out.size _).trans (g2.mono (by first | omega | (simp <;> omega)))
  repeat (first | exact B2 | refine Below.setCell ?_ (by first | omega | (simp <;> omega)) _)

theorem pwr_up (m x v : Nat) (ho : m % 2 = 1) (hm : 1 < m) : ((x % m) ^ v % m) * M4 % m = pwr m (x * M4 % m) v := by
  unfold pwr
  rw [red_twice m x ho hm, mul_mod_left']

set_option maxHeartbeats 1000000 in
theorem rpow_no (m x y : Nat) (hm : m < M4) (hx : x < M4) (hy : y < M4) (h : m % 2 = 0 ∨ m = 1) (w : World) :
    Calls Try.prog 5 #[four m, four x, four y] w fun e w' => e = .returned (.bool true) ∧ Below w.heap.size w w' := by
  have CO := fun w => odd_no m hm h w
  obtain ⟨m0, m1, m2, m3, -, -, -, -, em, -⟩ := four_open m hm
  obtain ⟨x0, x1, x2, x3, -, -, -, -, ex, -⟩ := four_open x hx
  obtain ⟨y0, y1, y2, y3, -, -, -, -, ey, -⟩ := four_open y hy
  rw [em] at CO
  rw [em, ex, ey]
  clear em ex ey hm hx hy h
  go_enter Try.func5, Try.ntmps5
  go_wp2_with fail
  refine (awake3_any _).mono ?_
  rintro e w1 ⟨rfl, g1⟩
  have G_1 : Hid (Below w.heap.size w w1) := Below.trans (by (repeat (first | exact Below.refl _ _ | refine Below.drew ?_ | refine Below.alloc ?_ (by first | omega | (simp <;> omega)) _ | refine Below.setCell ?_ (by first | omega | (simp <;> omega)) _)); done) (g1.mono (by first | omega | (simp <;> omega)))
  have M_1 : Hid (Blk w1 w.heap.size m0 m1 m2 m3) := Blk.below (by (repeat (first | exact Blk.new_at _ _ _ _ _ _ _ (by simp) | refine Blk.drew ?_ | refine Blk.alloc ?_ _)); done) g1
  have X_1 : Hid (Blk w1 (w.heap.size + 1) x0 x1 x2 x3) := Blk.below (by (repeat (first | exact Blk.new_at _ _ _ _ _ _ _ (by simp) | refine Blk.drew ?_ | refine Blk.alloc ?_ _)); done) g1
  have Y_1 : Hid (Blk w1 (w.heap.size + 1 + 1) y0 y1 y2 y3) := Blk.below (by (repeat (first | exact Blk.new_at _ _ _ _ _ _ _ (by simp) | refine Blk.drew ?_ | refine Blk.alloc ?_ _)); done) g1
  clear g1
  obtain ⟨a0, a1, a2, a3, a4, a5⟩ := M_1.out
  go_wp2_with fail
  refine (CO _).mono ?_
  rintro e w2 ⟨rfl, g2⟩
  have G_2 : Hid (Below w.heap.size w w2) := G_1.out.trans (g2.mono G_1.out.size)
  clear g2 M_1 X_1 Y_1 G_1 a0 a1 a2 a3 a4 a5
  go_wp2_with fail
  go_ret
  exact ⟨rfl, G_2.out⟩

set_option maxRecDepth 100000 in
set_option maxHeartbeats 16000000 in
theorem rpow_yes (m x y : Nat) (hm : m < M4) (hx : x < M4) (hy : y < M4) (h1 : m % 2 = 1) (h2 : 1 < m) (w : World) :
    Calls Try.prog 5 #[four m, four x, four y] w fun e w' => e = .returned (.bool true) ∧ Below w.heap.size w w' := by
  have hn : x * M4 % m < M4 := Nat.lt_trans (Nat.mod_lt _ (by omega)) hm
  have hp : pwr m (x * M4 % m) y < M4 := Nat.lt_trans (pwr_lt m _ _ h2) hm
  have hq : pwr m (x * M4 % m) (m - 2) < M4 := Nat.lt_trans (pwr_lt m _ _ h2) hm
  obtain ⟨m0, m1, m2, m3, -, -, -, -, em, -⟩ := four_open m hm
  obtain ⟨x0, x1, x2, x3, -, -, -, -, ex, -⟩ := four_open x hx
  obtain ⟨y0, y1, y2, y3, -, -, -, -, ey, -⟩ := four_open y hy
  obtain ⟨n0, n1, n2, n3, -, -, -, -, en, -⟩ := four_open _ hn
  obtain ⟨p0, p1, p2, p3, -, -, -, -, ep, -⟩ := four_open _ hp
  obtain ⟨q0, q1, q2, q3, -, -, -, -, eq, -⟩ := four_open _ hq
  have hM11 : m < 16777216 ^ 11 := Nat.lt_of_lt_of_le hm (by unfold M4; decide)
  have hM22 : m < 16777216 ^ 22 := Nat.lt_of_lt_of_le hm (by unfold M4; decide)
  have hX22 : x < 16777216 ^ 22 := Nat.lt_of_lt_of_le hx (by unfold M4; decide)
  have hY11 : y < 16777216 ^ 11 := Nat.lt_of_lt_of_le hy (by unfold M4; decide)
  have hlt : x % m < m := Nat.mod_lt _ (by omega)
  have hE22 : (x % m) ^ y % m < 16777216 ^ 22 := Nat.lt_trans (Nat.mod_lt _ (by omega)) hM22
  have hI22 : (x % m) ^ (m - 2) % m < 16777216 ^ 22 := Nat.lt_trans (Nat.mod_lt _ (by omega)) hM22
  have bp : pwr m (x * M4 % m) y < 16777216 ^ 22 := Nat.lt_of_lt_of_le hp (by unfold M4; decide)
  have bq : pwr m (x * M4 % m) (m - 2) < 16777216 ^ 22 := Nat.lt_of_lt_of_le hq (by unfold M4; decide)
  have CN : Hid (∀ w, Calls Try.prog 8 #[.agg #[.int .u64 m0, .int .u64 m1, .int .u64 m2, .int .u64 m3]] w fun e w' => e = .returned (.tuple #[.pointer (some ⟨w.heap.size + 1, 0, none⟩), .int .i64 0]) ∧ Rg w' (w.heap.size + 1) m ∧ Below w.heap.size w w') := by
    intro w; have := new_any w m hm h1 h2; rwa [em] at this
  have CD : Hid (∀ w, Calls Try.prog 9 #[.agg #[.int .u64 m0, .int .u64 m1, .int .u64 m2, .int .u64 m3]] w fun e w' => e = .returned (.bool true) ∧ Below w.heap.size w w') := by
    intro w; have := odd_yes m hm h1 h2 w; rwa [em] at this
  have COm : Hid (∀ w, Calls Try.prog 10 #[.agg #[.int .u64 m0, .int .u64 m1, .int .u64 m2, .int .u64 m3]] w fun e w' => ∃ v, e = .returned v ∧ Num w' v m ∧ Below w.heap.size w w') := by
    intro w; have := of_ref_any m hm w; rwa [em] at this
  have COx : Hid (∀ w, Calls Try.prog 10 #[.agg #[.int .u64 x0, .int .u64 x1, .int .u64 x2, .int .u64 x3]] w fun e w' => ∃ v, e = .returned v ∧ Num w' v x ∧ Below w.heap.size w w') := by
    intro w; have := of_ref_any x hx w; rwa [ex] at this
  have COy : Hid (∀ w, Calls Try.prog 10 #[.agg #[.int .u64 y0, .int .u64 y1, .int .u64 y2, .int .u64 y3]] w fun e w' => ∃ v, e = .returned v ∧ Num w' v y ∧ Below w.heap.size w w') := by
    intro w; have := of_ref_any y hy w; rwa [ey] at this
  have CIn : Hid (∀ w b, Rg w b m → Calls Try.prog 18 #[.pointer (some ⟨b, 0, none⟩), .agg #[.int .u64 x0, .int .u64 x1, .int .u64 x2, .int .u64 x3]] w fun e w' => e = .returned (.agg #[.int .u64 n0, .int .u64 n1, .int .u64 n2, .int .u64 n3]) ∧ Below w.heap.size w w') := by
    intro w b h; have := in_ring w b m x h hx; rwa [ex, en] at this
  have CEx : Hid (∀ w b, Rg w b m → Calls Try.prog 27 #[.pointer (some ⟨b, 0, none⟩), .agg #[.int .u64 n0, .int .u64 n1, .int .u64 n2, .int .u64 n3], .agg #[.int .u64 y0, .int .u64 y1, .int .u64 y2, .int .u64 y3]] w fun e w' => e = .returned (.agg #[.int .u64 p0, .int .u64 p1, .int .u64 p2, .int .u64 p3]) ∧ Below w.heap.size w w') := by
    intro w b h; have := exp_ring w b m _ y h hn hy; rwa [en, ey, ep] at this
  have CIv : Hid (∀ w b, Rg w b m → Calls Try.prog 29 #[.pointer (some ⟨b, 0, none⟩), .agg #[.int .u64 n0, .int .u64 n1, .int .u64 n2, .int .u64 n3]] w fun e w' => e = .returned (.agg #[.int .u64 q0, .int .u64 q1, .int .u64 q2, .int .u64 q3]) ∧ Below w.heap.size w w') := by
    intro w b h; have := inv_ring w b m _ h hn; rwa [en, eq] at this
  have CMo : Hid (∀ w v0 v1, Num w v0 (x) → Num w v1 (m) → Calls Try.prog 14 #[v0, v1] w fun e w' => ∃ r, e = .returned r ∧ Num w' r (x % m) ∧ Below w.heap.size w w') := fun w v0 v1 h0 hb => mod_num x m v0 v1 w h0 hb (by omega) 22 hX22 hM22 (by omega)
  have CDe : Hid (∀ w v0 v1 v2, Num w v0 (x % m) → Num w v1 (y) → Num w v2 (m) → Calls Try.prog 28 #[v0, v1, v2] w fun e w' => ∃ r, e = .returned r ∧ Num w' r ((x % m) ^ y % m) ∧ Below w.heap.size w w') := fun w v0 v1 v2 h0 hb hc => expD_num _ y m v0 v1 v2 w h0 hb hc h2 hM11 hlt hY11
  have CDi : Hid (∀ w v0 v1, Num w v0 (x % m) → Num w v1 (m) → Calls Try.prog 30 #[v0, v1] w fun e w' => ∃ r, e = .returned r ∧ Num w' r ((x % m) ^ (m - 2) % m) ∧ Below w.heap.size w w') := fun w v0 v1 h0 hb => invD_num _ m v0 v1 w h0 hb h2 hM11 hlt
  have CNe : Hid (∀ w v0 v1, Num w v0 ((x % m) ^ y % m) → Num w v1 m → Calls Try.prog 19 #[v0, v1] w fun e w' => ∃ r, e = .returned r ∧ Num w' r (pwr m (x * M4 % m) y) ∧ Below w.heap.size w w') := by
    intro w v0 v1 h0 hb; have := numeralD_num _ m v0 v1 w h0 hb (by omega) hE22 hM22; rwa [pwr_up m x y h1 h2] at this
  have CNi : Hid (∀ w v0 v1, Num w v0 ((x % m) ^ (m - 2) % m) → Num w v1 m → Calls Try.prog 19 #[v0, v1] w fun e w' => ∃ r, e = .returned r ∧ Num w' r (pwr m (x * M4 % m) (m - 2)) ∧ Below w.heap.size w w') := by
    intro w v0 v1 h0 hb; have := numeralD_num _ m v0 v1 w h0 hb (by omega) hI22 hM22; rwa [pwr_up m x (m - 2) h1 h2] at this
  have CFp : Hid (∀ w va, Num w va (pwr m (x * M4 % m) y) → Calls Try.prog 13 #[va] w fun e w' => e = .returned (.agg #[.int .u64 p0, .int .u64 p1, .int .u64 p2, .int .u64 p3]) ∧ Below w.heap.size w w') := by
    intro w va ha; have := four_num _ va w ha 22 bp (by omega); rwa [Nat.mod_eq_of_lt hp, ep] at this
  have CFq : Hid (∀ w va, Num w va (pwr m (x * M4 % m) (m - 2)) → Calls Try.prog 13 #[va] w fun e w' => e = .returned (.agg #[.int .u64 q0, .int .u64 q1, .int .u64 q2, .int .u64 q3]) ∧ Below w.heap.size w w') := by
    intro w va ha; have := four_num _ va w ha 22 bq (by omega); rwa [Nat.mod_eq_of_lt hq, eq] at this
  obtain ⟨vP, hP⟩ : ∃ z, pwr m (x * M4 % m) y = z := ⟨_, rfl⟩
  obtain ⟨vQ, hQ⟩ : ∃ z, pwr m (x * M4 % m) (m - 2) = z := ⟨_, rfl⟩
  obtain ⟨vE, hE⟩ : ∃ z, (x % m) ^ y % m = z := ⟨_, rfl⟩
  obtain ⟨vI, hI⟩ : ∃ z, (x % m) ^ (m - 2) % m = z := ⟨_, rfl⟩
  obtain ⟨vX, hX⟩ : ∃ z, x % m = z := ⟨_, rfl⟩
  rw [hP] at CNe CFp
  rw [hQ] at CNi CFq
  rw [hE] at CDe CNe
  rw [hI] at CDi CNi
  rw [hX] at CMo CDe CDi
  rw [em, ex, ey]
  clear em ex ey en ep eq hn hp hq hM11 hM22 hX22 hY11 hlt hE22 hI22 bp bq hP hQ hE hI hX hm hx hy
  have e4 := eql4
  go_enter Try.func5, Try.ntmps5
  go_wp2_with fail
  refine (awake3_any _).mono ?_
  rintro e w1 ⟨rfl, g1⟩
  have G_1 : Hid (Below w.heap.size w w1) := Below.trans (by (repeat (first | exact Below.refl _ _ | refine Below.drew ?_ | refine Below.alloc ?_ (by first | omega | (simp <;> omega)) _ | refine Below.setCell ?_ (by first | omega | (simp <;> omega)) _)); done) (g1.mono (by first | omega | (simp <;> omega)))
  have M_1 : Hid (Blk w1 w.heap.size m0 m1 m2 m3) := Blk.below (by (repeat (first | exact Blk.new_at _ _ _ _ _ _ _ (by simp) | refine Blk.drew ?_ | refine Blk.alloc ?_ _)); done) g1
  have X_1 : Hid (Blk w1 (w.heap.size + 1) x0 x1 x2 x3) := Blk.below (by (repeat (first | exact Blk.new_at _ _ _ _ _ _ _ (by simp) | refine Blk.drew ?_ | refine Blk.alloc ?_ _)); done) g1
  have Y_1 : Hid (Blk w1 (w.heap.size + 1 + 1) y0 y1 y2 y3) := Blk.below (by (repeat (first | exact Blk.new_at _ _ _ _ _ _ _ (by simp) | refine Blk.drew ?_ | refine Blk.alloc ?_ _)); done) g1
  clear g1
  obtain ⟨a0, a1, a2, a3, a4, a5⟩ := M_1.out
  go_wp2_with fail
  refine (CD.out _).mono ?_
  rintro e w2 ⟨rfl, g2⟩
  have M_2 : Hid (Blk w2 w.heap.size m0 m1 m2 m3) := M_1.out.below g2
  have X_2 : Hid (Blk w2 (w.heap.size + 1) x0 x1 x2 x3) := X_1.out.below g2
  have Y_2 : Hid (Blk w2 (w.heap.size + 1 + 1) y0 y1 y2 y3) := Y_1.out.below g2
  have G_2 : Hid (Below w.heap.size w w2) := G_1.out.trans (g2.mono G_1.out.size)
  clear M_1 X_1 Y_1 G_1 g2
  clear a0 a1 a2 a3 a4 a5
  obtain ⟨a0, a1, a2, a3, a4, a5⟩ := M_2.out
  go_wp2_with fail
  refine (CN.out _).mono ?_
  rintro e w3 ⟨rfl, hr3, g3⟩
  have R_3 : Hid (Rg w3 (w2.heap.size + 1) m) := hr3
  have M_3 : Hid (Blk w3 w.heap.size m0 m1 m2 m3) := M_2.out.below g3
  have X_3 : Hid (Blk w3 (w.heap.size + 1) x0 x1 x2 x3) := X_2.out.below g3
  have Y_3 : Hid (Blk w3 (w.heap.size + 1 + 1) y0 y1 y2 y3) := Y_2.out.below g3
  have G_3 : Hid (Below w.heap.size w w3) := G_2.out.trans (g3.mono G_2.out.size)
  clear M_2 X_2 Y_2 G_2 g3
  clear hr3
  clear a0 a1 a2 a3 a4 a5
  go_wp2_with fail
  have K : w3.drew.cell? ⟨w.heap.size, 0, none⟩ = some (.int .u64 m0) ∧ w3.drew.cell? ⟨w.heap.size, 1, none⟩ = some (.int .u64 m1) ∧ w3.drew.cell? ⟨w.heap.size, 2, none⟩ = some (.int .u64 m2) ∧ w3.drew.cell? ⟨w.heap.size, 3, none⟩ = some (.int .u64 m3) ∧ w3.drew.cell? ⟨w.heap.size + 1, 0, none⟩ = some (.int .u64 x0) ∧ w3.drew.cell? ⟨w.heap.size + 1, 1, none⟩ = some (.int .u64 x1) ∧ w3.drew.cell? ⟨w.heap.size + 1, 2, none⟩ = some (.int .u64 x2) ∧ w3.drew.cell? ⟨w.heap.size + 1, 3, none⟩ = some (.int .u64 x3) := ⟨M_3.out.drew.c0, M_3.out.drew.c1, M_3.out.drew.c2, M_3.out.drew.c3, X_3.out.drew.c0, X_3.out.drew.c1, X_3.out.drew.c2, X_3.out.drew.c3⟩
  have D_3 : Hid (Below w3.heap.size w3 w3.drew) := (Below.refl _ _).drew
  go_wp2_with fail
  go_region_held3 (fun w' => w'.cell? ⟨w.heap.size, 0, none⟩ = some (.int .u64 m0) ∧ w'.cell? ⟨w.heap.size, 1, none⟩ = some (.int .u64 m1) ∧ w'.cell? ⟨w.heap.size, 2, none⟩ = some (.int .u64 m2) ∧ w'.cell? ⟨w.heap.size, 3, none⟩ = some (.int .u64 m3) ∧ w'.cell? ⟨w.heap.size + 1, 0, none⟩ = some (.int .u64 x0) ∧ w'.cell? ⟨w.heap.size + 1, 1, none⟩ = some (.int .u64 x1) ∧ w'.cell? ⟨w.heap.size + 1, 2, none⟩ = some (.int .u64 x2) ∧ w'.cell? ⟨w.heap.size + 1, 3, none⟩ = some (.int .u64 x3)) (assumption)
    (first
      | (go_at_call 10; have gg := G_4; clear gg; (refine (COx.out _).mono ?_); (rintro e w5 ⟨v5, rfl, hn5, g5⟩; obtain ⟨va, vc, vd, rfl⟩ := hn5.shape; have V_5 : Hid (Num w5 (.slice va vc vd) x) := hn5; have M_5 : Hid (Blk w5 w.heap.size m0 m1 m2 m3) := M_4.out.below g5; have X_5 : Hid (Blk w5 (w.heap.size + 1) x0 x1 x2 x3) := X_4.out.below g5; have Y_5 : Hid (Blk w5 (w.heap.size + 1 + 1) y0 y1 y2 y3) := Y_4.out.below g5; have R_5 : Hid (Rg w5 (w2.heap.size + 1) m) := R_4.out.below g5; have N_5 : Hid (Num w5 (.slice na nc nd) m) := N_4.out.below g5; have G_5 : Hid (Below w.heap.size w w5) := G_4.out.trans (g5.mono G_4.out.size); clear M_4 X_4 Y_4 R_4 N_4 G_4 g5; clear hn5; clear K; have K : w5.cell? ⟨w.heap.size, 0, none⟩ = some (.int .u64 m0) ∧ w5.cell? ⟨w.heap.size, 1, none⟩ = some (.int .u64 m1) ∧ w5.cell? ⟨w.heap.size, 2, none⟩ = some (.int .u64 m2) ∧ w5.cell? ⟨w.heap.size, 3, none⟩ = some (.int .u64 m3) ∧ w5.cell? ⟨w.heap.size + 1, 0, none⟩ = some (.int .u64 x0) ∧ w5.cell? ⟨w.heap.size + 1, 1, none⟩ = some (.int .u64 x1) ∧ w5.cell? ⟨w.heap.size + 1, 2, none⟩ = some (.int .u64 x2) ∧ w5.cell? ⟨w.heap.size + 1, 3, none⟩ = some (.int .u64 x3) := ⟨M_5.out.c0, M_5.out.c1, M_5.out.c2, M_5.out.c3, X_5.out.c0, X_5.out.c1, X_5.out.c2, X_5.out.c3⟩))
      | (go_at_call 10; have gg := G_3; clear gg; (refine (COm.out _).mono ?_); (rintro e w4 ⟨v4, rfl, hn4, g4⟩; obtain ⟨na, nc, nd, rfl⟩ := hn4.shape; have N_4 : Hid (Num w4 (.slice na nc nd) m) := hn4; have M_4 : Hid (Blk w4 w.heap.size m0 m1 m2 m3) := (M_3.out.below D_3.out).below g4; have X_4 : Hid (Blk w4 (w.heap.size + 1) x0 x1 x2 x3) := (X_3.out.below D_3.out).below g4; have Y_4 : Hid (Blk w4 (w.heap.size + 1 + 1) y0 y1 y2 y3) := (Y_3.out.below D_3.out).below g4; have R_4 : Hid (Rg w4 (w2.heap.size + 1) m) := (R_3.out.below D_3.out).below g4; have G_4 : Hid (Below w.heap.size w w4) := (G_3.out.trans (D_3.out.mono G_3.out.size)).trans (g4.mono G_3.out.size); clear M_3 X_3 Y_3 R_3 G_3 g4 D_3; clear hn4; clear K; have K : w4.cell? ⟨w.heap.size, 0, none⟩ = some (.int .u64 m0) ∧ w4.cell? ⟨w.heap.size, 1, none⟩ = some (.int .u64 m1) ∧ w4.cell? ⟨w.heap.size, 2, none⟩ = some (.int .u64 m2) ∧ w4.cell? ⟨w.heap.size, 3, none⟩ = some (.int .u64 m3) ∧ w4.cell? ⟨w.heap.size + 1, 0, none⟩ = some (.int .u64 x0) ∧ w4.cell? ⟨w.heap.size + 1, 1, none⟩ = some (.int .u64 x1) ∧ w4.cell? ⟨w.heap.size + 1, 2, none⟩ = some (.int .u64 x2) ∧ w4.cell? ⟨w.heap.size + 1, 3, none⟩ = some (.int .u64 x3) := ⟨M_4.out.c0, M_4.out.c1, M_4.out.c2, M_4.out.c3, X_4.out.c0, X_4.out.c1, X_4.out.c2, X_4.out.c3⟩)))
  clear K
  go_wp2_with fail
  have K : w5.drew.cell? ⟨w.heap.size + 1, 0, none⟩ = some (.int .u64 x0) ∧ w5.drew.cell? ⟨w.heap.size + 1, 1, none⟩ = some (.int .u64 x1) ∧ w5.drew.cell? ⟨w.heap.size + 1, 2, none⟩ = some (.int .u64 x2) ∧ w5.drew.cell? ⟨w.heap.size + 1, 3, none⟩ = some (.int .u64 x3) ∧ w5.drew.cell? ⟨w.heap.size + 1 + 1, 0, none⟩ = some (.int .u64 y0) ∧ w5.drew.cell? ⟨w.heap.size + 1 + 1, 1, none⟩ = some (.int .u64 y1) ∧ w5.drew.cell? ⟨w.heap.size + 1 + 1, 2, none⟩ = some (.int .u64 y2) ∧ w5.drew.cell? ⟨w.heap.size + 1 + 1, 3, none⟩ = some (.int .u64 y3) := ⟨X_5.out.drew.c0, X_5.out.drew.c1, X_5.out.drew.c2, X_5.out.drew.c3, Y_5.out.drew.c0, Y_5.out.drew.c1, Y_5.out.drew.c2, Y_5.out.drew.c3⟩
  have D_5 : Hid (Below w5.heap.size w5 w5.drew) := (Below.refl _ _).drew
  go_wp2_with fail
  go_region_held3 (fun w' => w'.cell? ⟨w.heap.size + 1, 0, none⟩ = some (.int .u64 x0) ∧ w'.cell? ⟨w.heap.size + 1, 1, none⟩ = some (.int .u64 x1) ∧ w'.cell? ⟨w.heap.size + 1, 2, none⟩ = some (.int .u64 x2) ∧ w'.cell? ⟨w.heap.size + 1, 3, none⟩ = some (.int .u64 x3) ∧ w'.cell? ⟨w.heap.size + 1 + 1, 0, none⟩ = some (.int .u64 y0) ∧ w'.cell? ⟨w.heap.size + 1 + 1, 1, none⟩ = some (.int .u64 y1) ∧ w'.cell? ⟨w.heap.size + 1 + 1, 2, none⟩ = some (.int .u64 y2) ∧ w'.cell? ⟨w.heap.size + 1 + 1, 3, none⟩ = some (.int .u64 y3)) (assumption)
    (first
      | (go_at_call 13; have gg := G_17; clear gg; (refine (CFq.out _ _ D_17.out).mono ?_); (rintro e w18 ⟨rfl, g18⟩; have M_18 : Hid (Blk w18 w.heap.size m0 m1 m2 m3) := M_17.out.below g18; have X_18 : Hid (Blk w18 (w.heap.size + 1) x0 x1 x2 x3) := X_17.out.below g18; have Y_18 : Hid (Blk w18 (w.heap.size + 1 + 1) y0 y1 y2 y3) := Y_17.out.below g18; have R_18 : Hid (Rg w18 (w2.heap.size + 1) m) := R_17.out.below g18; have N_18 : Hid (Num w18 (.slice na nc nd) m) := N_17.out.below g18; have V_18 : Hid (Num w18 (.slice va vc vd) x) := V_17.out.below g18; have G_18 : Hid (Below w.heap.size w w18) := G_17.out.trans (g18.mono G_17.out.size); clear M_17 X_17 Y_17 R_17 N_17 V_17 D_17 G_17 g18; clear K; have K : w18.cell? ⟨w.heap.size + 1, 0, none⟩ = some (.int .u64 x0) ∧ w18.cell? ⟨w.heap.size + 1, 1, none⟩ = some (.int .u64 x1) ∧ w18.cell? ⟨w.heap.size + 1, 2, none⟩ = some (.int .u64 x2) ∧ w18.cell? ⟨w.heap.size + 1, 3, none⟩ = some (.int .u64 x3) ∧ w18.cell? ⟨w.heap.size + 1 + 1, 0, none⟩ = some (.int .u64 y0) ∧ w18.cell? ⟨w.heap.size + 1 + 1, 1, none⟩ = some (.int .u64 y1) ∧ w18.cell? ⟨w.heap.size + 1 + 1, 2, none⟩ = some (.int .u64 y2) ∧ w18.cell? ⟨w.heap.size + 1 + 1, 3, none⟩ = some (.int .u64 y3) := ⟨X_18.out.c0, X_18.out.c1, X_18.out.c2, X_18.out.c3, Y_18.out.c0, Y_18.out.c1, Y_18.out.c2, Y_18.out.c3⟩))
      | (go_at_call 19; have gg := G_16; clear gg; (refine (CNi.out _ _ _ C_16.out N_16.out).mono ?_); (rintro e w17 ⟨v17, rfl, hn17, g17⟩; obtain ⟨ga, gc, gd, rfl⟩ := hn17.shape; have D_17 : Hid (Num w17 (.slice ga gc gd) vQ) := hn17; have M_17 : Hid (Blk w17 w.heap.size m0 m1 m2 m3) := M_16.out.below g17; have X_17 : Hid (Blk w17 (w.heap.size + 1) x0 x1 x2 x3) := X_16.out.below g17; have Y_17 : Hid (Blk w17 (w.heap.size + 1 + 1) y0 y1 y2 y3) := Y_16.out.below g17; have R_17 : Hid (Rg w17 (w2.heap.size + 1) m) := R_16.out.below g17; have N_17 : Hid (Num w17 (.slice na nc nd) m) := N_16.out.below g17; have V_17 : Hid (Num w17 (.slice va vc vd) x) := V_16.out.below g17; have G_17 : Hid (Below w.heap.size w w17) := G_16.out.trans (g17.mono G_16.out.size); clear M_16 X_16 Y_16 R_16 N_16 V_16 C_16 G_16 g17; clear hn17; clear K; have K : w17.cell? ⟨w.heap.size + 1, 0, none⟩ = some (.int .u64 x0) ∧ w17.cell? ⟨w.heap.size + 1, 1, none⟩ = some (.int .u64 x1) ∧ w17.cell? ⟨w.heap.size + 1, 2, none⟩ = some (.int .u64 x2) ∧ w17.cell? ⟨w.heap.size + 1, 3, none⟩ = some (.int .u64 x3) ∧ w17.cell? ⟨w.heap.size + 1 + 1, 0, none⟩ = some (.int .u64 y0) ∧ w17.cell? ⟨w.heap.size + 1 + 1, 1, none⟩ = some (.int .u64 y1) ∧ w17.cell? ⟨w.heap.size + 1 + 1, 2, none⟩ = some (.int .u64 y2) ∧ w17.cell? ⟨w.heap.size + 1 + 1, 3, none⟩ = some (.int .u64 y3) := ⟨X_17.out.c0, X_17.out.c1, X_17.out.c2, X_17.out.c3, Y_17.out.c0, Y_17.out.c1, Y_17.out.c2, Y_17.out.c3⟩))
      | (go_at_call 30; have gg := G_15; clear gg; (refine (CDi.out _ _ _ A_15.out N_15.out).mono ?_); (rintro e w16 ⟨v16, rfl, hn16, g16⟩; obtain ⟨fa, fc, fd, rfl⟩ := hn16.shape; have C_16 : Hid (Num w16 (.slice fa fc fd) vI) := hn16; have M_16 : Hid (Blk w16 w.heap.size m0 m1 m2 m3) := M_15.out.below g16; have X_16 : Hid (Blk w16 (w.heap.size + 1) x0 x1 x2 x3) := X_15.out.below g16; have Y_16 : Hid (Blk w16 (w.heap.size + 1 + 1) y0 y1 y2 y3) := Y_15.out.below g16; have R_16 : Hid (Rg w16 (w2.heap.size + 1) m) := R_15.out.below g16; have N_16 : Hid (Num w16 (.slice na nc nd) m) := N_15.out.below g16; have V_16 : Hid (Num w16 (.slice va vc vd) x) := V_15.out.below g16; have G_16 : Hid (Below w.heap.size w w16) := G_15.out.trans (g16.mono G_15.out.size); clear M_15 X_15 Y_15 R_15 N_15 V_15 A_15 G_15 g16; clear hn16; clear K; have K : w16.cell? ⟨w.heap.size + 1, 0, none⟩ = some (.int .u64 x0) ∧ w16.cell? ⟨w.heap.size + 1, 1, none⟩ = some (.int .u64 x1) ∧ w16.cell? ⟨w.heap.size + 1, 2, none⟩ = some (.int .u64 x2) ∧ w16.cell? ⟨w.heap.size + 1, 3, none⟩ = some (.int .u64 x3) ∧ w16.cell? ⟨w.heap.size + 1 + 1, 0, none⟩ = some (.int .u64 y0) ∧ w16.cell? ⟨w.heap.size + 1 + 1, 1, none⟩ = some (.int .u64 y1) ∧ w16.cell? ⟨w.heap.size + 1 + 1, 2, none⟩ = some (.int .u64 y2) ∧ w16.cell? ⟨w.heap.size + 1 + 1, 3, none⟩ = some (.int .u64 y3) := ⟨X_16.out.c0, X_16.out.c1, X_16.out.c2, X_16.out.c3, Y_16.out.c0, Y_16.out.c1, Y_16.out.c2, Y_16.out.c3⟩))
      | (go_at_call 14; have gg := G_14; clear gg; (refine (CMo.out _ _ _ V_14.out N_14.out).mono ?_); (rintro e w15 ⟨v15, rfl, hn15, g15⟩; obtain ⟨ea, ec, ed, rfl⟩ := hn15.shape; have A_15 : Hid (Num w15 (.slice ea ec ed) vX) := hn15; have M_15 : Hid (Blk w15 w.heap.size m0 m1 m2 m3) := M_14.out.below g15; have X_15 : Hid (Blk w15 (w.heap.size + 1) x0 x1 x2 x3) := X_14.out.below g15; have Y_15 : Hid (Blk w15 (w.heap.size + 1 + 1) y0 y1 y2 y3) := Y_14.out.below g15; have R_15 : Hid (Rg w15 (w2.heap.size + 1) m) := R_14.out.below g15; have N_15 : Hid (Num w15 (.slice na nc nd) m) := N_14.out.below g15; have V_15 : Hid (Num w15 (.slice va vc vd) x) := V_14.out.below g15; have G_15 : Hid (Below w.heap.size w w15) := G_14.out.trans (g15.mono G_14.out.size); clear M_14 X_14 Y_14 R_14 N_14 V_14 G_14 g15; clear hn15; clear K; have K : w15.cell? ⟨w.heap.size + 1, 0, none⟩ = some (.int .u64 x0) ∧ w15.cell? ⟨w.heap.size + 1, 1, none⟩ = some (.int .u64 x1) ∧ w15.cell? ⟨w.heap.size + 1, 2, none⟩ = some (.int .u64 x2) ∧ w15.cell? ⟨w.heap.size + 1, 3, none⟩ = some (.int .u64 x3) ∧ w15.cell? ⟨w.heap.size + 1 + 1, 0, none⟩ = some (.int .u64 y0) ∧ w15.cell? ⟨w.heap.size + 1 + 1, 1, none⟩ = some (.int .u64 y1) ∧ w15.cell? ⟨w.heap.size + 1 + 1, 2, none⟩ = some (.int .u64 y2) ∧ w15.cell? ⟨w.heap.size + 1 + 1, 3, none⟩ = some (.int .u64 y3) := ⟨X_15.out.c0, X_15.out.c1, X_15.out.c2, X_15.out.c3, Y_15.out.c0, Y_15.out.c1, Y_15.out.c2, Y_15.out.c3⟩))
      | (go_at_call 29; have gg := G_13; clear gg; (refine (CIv.out _ _ R_13.out).mono ?_); (rintro e w14 ⟨rfl, g14⟩; have M_14 : Hid (Blk w14 w.heap.size m0 m1 m2 m3) := M_13.out.below g14; have X_14 : Hid (Blk w14 (w.heap.size + 1) x0 x1 x2 x3) := X_13.out.below g14; have Y_14 : Hid (Blk w14 (w.heap.size + 1 + 1) y0 y1 y2 y3) := Y_13.out.below g14; have R_14 : Hid (Rg w14 (w2.heap.size + 1) m) := R_13.out.below g14; have N_14 : Hid (Num w14 (.slice na nc nd) m) := N_13.out.below g14; have V_14 : Hid (Num w14 (.slice va vc vd) x) := V_13.out.below g14; have G_14 : Hid (Below w.heap.size w w14) := G_13.out.trans (g14.mono G_13.out.size); clear M_13 X_13 Y_13 R_13 N_13 V_13 G_13 g14; clear K; have K : w14.cell? ⟨w.heap.size + 1, 0, none⟩ = some (.int .u64 x0) ∧ w14.cell? ⟨w.heap.size + 1, 1, none⟩ = some (.int .u64 x1) ∧ w14.cell? ⟨w.heap.size + 1, 2, none⟩ = some (.int .u64 x2) ∧ w14.cell? ⟨w.heap.size + 1, 3, none⟩ = some (.int .u64 x3) ∧ w14.cell? ⟨w.heap.size + 1 + 1, 0, none⟩ = some (.int .u64 y0) ∧ w14.cell? ⟨w.heap.size + 1 + 1, 1, none⟩ = some (.int .u64 y1) ∧ w14.cell? ⟨w.heap.size + 1 + 1, 2, none⟩ = some (.int .u64 y2) ∧ w14.cell? ⟨w.heap.size + 1 + 1, 3, none⟩ = some (.int .u64 y3) := ⟨X_14.out.c0, X_14.out.c1, X_14.out.c2, X_14.out.c3, Y_14.out.c0, Y_14.out.c1, Y_14.out.c2, Y_14.out.c3⟩))
      | (go_at_call 18; have gg := G_12; clear gg; (refine (CIn.out _ _ R_12.out).mono ?_); (rintro e w13 ⟨rfl, g13⟩; have M_13 : Hid (Blk w13 w.heap.size m0 m1 m2 m3) := M_12.out.below g13; have X_13 : Hid (Blk w13 (w.heap.size + 1) x0 x1 x2 x3) := X_12.out.below g13; have Y_13 : Hid (Blk w13 (w.heap.size + 1 + 1) y0 y1 y2 y3) := Y_12.out.below g13; have R_13 : Hid (Rg w13 (w2.heap.size + 1) m) := R_12.out.below g13; have N_13 : Hid (Num w13 (.slice na nc nd) m) := N_12.out.below g13; have V_13 : Hid (Num w13 (.slice va vc vd) x) := V_12.out.below g13; have G_13 : Hid (Below w.heap.size w w13) := G_12.out.trans (g13.mono G_12.out.size); clear M_12 X_12 Y_12 R_12 N_12 V_12 G_12 g13; clear K; have K : w13.cell? ⟨w.heap.size + 1, 0, none⟩ = some (.int .u64 x0) ∧ w13.cell? ⟨w.heap.size + 1, 1, none⟩ = some (.int .u64 x1) ∧ w13.cell? ⟨w.heap.size + 1, 2, none⟩ = some (.int .u64 x2) ∧ w13.cell? ⟨w.heap.size + 1, 3, none⟩ = some (.int .u64 x3) ∧ w13.cell? ⟨w.heap.size + 1 + 1, 0, none⟩ = some (.int .u64 y0) ∧ w13.cell? ⟨w.heap.size + 1 + 1, 1, none⟩ = some (.int .u64 y1) ∧ w13.cell? ⟨w.heap.size + 1 + 1, 2, none⟩ = some (.int .u64 y2) ∧ w13.cell? ⟨w.heap.size + 1 + 1, 3, none⟩ = some (.int .u64 y3) := ⟨X_13.out.c0, X_13.out.c1, X_13.out.c2, X_13.out.c3, Y_13.out.c0, Y_13.out.c1, Y_13.out.c2, Y_13.out.c3⟩))
      | (go_at_call 13; have gg := G_11; clear gg; (refine (CFp.out _ _ D_11.out).mono ?_); (rintro e w12 ⟨rfl, g12⟩; have M_12 : Hid (Blk w12 w.heap.size m0 m1 m2 m3) := M_11.out.below g12; have X_12 : Hid (Blk w12 (w.heap.size + 1) x0 x1 x2 x3) := X_11.out.below g12; have Y_12 : Hid (Blk w12 (w.heap.size + 1 + 1) y0 y1 y2 y3) := Y_11.out.below g12; have R_12 : Hid (Rg w12 (w2.heap.size + 1) m) := R_11.out.below g12; have N_12 : Hid (Num w12 (.slice na nc nd) m) := N_11.out.below g12; have V_12 : Hid (Num w12 (.slice va vc vd) x) := V_11.out.below g12; have G_12 : Hid (Below w.heap.size w w12) := G_11.out.trans (g12.mono G_11.out.size); clear M_11 X_11 Y_11 R_11 N_11 V_11 D_11 G_11 g12; clear K; have K : w12.cell? ⟨w.heap.size + 1, 0, none⟩ = some (.int .u64 x0) ∧ w12.cell? ⟨w.heap.size + 1, 1, none⟩ = some (.int .u64 x1) ∧ w12.cell? ⟨w.heap.size + 1, 2, none⟩ = some (.int .u64 x2) ∧ w12.cell? ⟨w.heap.size + 1, 3, none⟩ = some (.int .u64 x3) ∧ w12.cell? ⟨w.heap.size + 1 + 1, 0, none⟩ = some (.int .u64 y0) ∧ w12.cell? ⟨w.heap.size + 1 + 1, 1, none⟩ = some (.int .u64 y1) ∧ w12.cell? ⟨w.heap.size + 1 + 1, 2, none⟩ = some (.int .u64 y2) ∧ w12.cell? ⟨w.heap.size + 1 + 1, 3, none⟩ = some (.int .u64 y3) := ⟨X_12.out.c0, X_12.out.c1, X_12.out.c2, X_12.out.c3, Y_12.out.c0, Y_12.out.c1, Y_12.out.c2, Y_12.out.c3⟩))
      | (go_at_call 19; have gg := G_10; clear gg; (refine (CNe.out _ _ _ C_10.out N_10.out).mono ?_); (rintro e w11 ⟨v11, rfl, hn11, g11⟩; obtain ⟨da, dc, dd, rfl⟩ := hn11.shape; have D_11 : Hid (Num w11 (.slice da dc dd) vP) := hn11; have M_11 : Hid (Blk w11 w.heap.size m0 m1 m2 m3) := M_10.out.below g11; have X_11 : Hid (Blk w11 (w.heap.size + 1) x0 x1 x2 x3) := X_10.out.below g11; have Y_11 : Hid (Blk w11 (w.heap.size + 1 + 1) y0 y1 y2 y3) := Y_10.out.below g11; have R_11 : Hid (Rg w11 (w2.heap.size + 1) m) := R_10.out.below g11; have N_11 : Hid (Num w11 (.slice na nc nd) m) := N_10.out.below g11; have V_11 : Hid (Num w11 (.slice va vc vd) x) := V_10.out.below g11; have G_11 : Hid (Below w.heap.size w w11) := G_10.out.trans (g11.mono G_10.out.size); clear M_10 X_10 Y_10 R_10 N_10 V_10 C_10 G_10 g11; clear hn11; clear K; have K : w11.cell? ⟨w.heap.size + 1, 0, none⟩ = some (.int .u64 x0) ∧ w11.cell? ⟨w.heap.size + 1, 1, none⟩ = some (.int .u64 x1) ∧ w11.cell? ⟨w.heap.size + 1, 2, none⟩ = some (.int .u64 x2) ∧ w11.cell? ⟨w.heap.size + 1, 3, none⟩ = some (.int .u64 x3) ∧ w11.cell? ⟨w.heap.size + 1 + 1, 0, none⟩ = some (.int .u64 y0) ∧ w11.cell? ⟨w.heap.size + 1 + 1, 1, none⟩ = some (.int .u64 y1) ∧ w11.cell? ⟨w.heap.size + 1 + 1, 2, none⟩ = some (.int .u64 y2) ∧ w11.cell? ⟨w.heap.size + 1 + 1, 3, none⟩ = some (.int .u64 y3) := ⟨X_11.out.c0, X_11.out.c1, X_11.out.c2, X_11.out.c3, Y_11.out.c0, Y_11.out.c1, Y_11.out.c2, Y_11.out.c3⟩))
      | (go_at_call 28; have gg := G_9; clear gg; (refine (CDe.out _ _ _ _ A_9.out B_9.out N_9.out).mono ?_); (rintro e w10 ⟨v10, rfl, hn10, g10⟩; obtain ⟨ca, cc, cd, rfl⟩ := hn10.shape; have C_10 : Hid (Num w10 (.slice ca cc cd) vE) := hn10; have M_10 : Hid (Blk w10 w.heap.size m0 m1 m2 m3) := M_9.out.below g10; have X_10 : Hid (Blk w10 (w.heap.size + 1) x0 x1 x2 x3) := X_9.out.below g10; have Y_10 : Hid (Blk w10 (w.heap.size + 1 + 1) y0 y1 y2 y3) := Y_9.out.below g10; have R_10 : Hid (Rg w10 (w2.heap.size + 1) m) := R_9.out.below g10; have N_10 : Hid (Num w10 (.slice na nc nd) m) := N_9.out.below g10; have V_10 : Hid (Num w10 (.slice va vc vd) x) := V_9.out.below g10; have G_10 : Hid (Below w.heap.size w w10) := G_9.out.trans (g10.mono G_9.out.size); clear M_9 X_9 Y_9 R_9 N_9 V_9 A_9 B_9 G_9 g10; clear hn10; clear K; have K : w10.cell? ⟨w.heap.size + 1, 0, none⟩ = some (.int .u64 x0) ∧ w10.cell? ⟨w.heap.size + 1, 1, none⟩ = some (.int .u64 x1) ∧ w10.cell? ⟨w.heap.size + 1, 2, none⟩ = some (.int .u64 x2) ∧ w10.cell? ⟨w.heap.size + 1, 3, none⟩ = some (.int .u64 x3) ∧ w10.cell? ⟨w.heap.size + 1 + 1, 0, none⟩ = some (.int .u64 y0) ∧ w10.cell? ⟨w.heap.size + 1 + 1, 1, none⟩ = some (.int .u64 y1) ∧ w10.cell? ⟨w.heap.size + 1 + 1, 2, none⟩ = some (.int .u64 y2) ∧ w10.cell? ⟨w.heap.size + 1 + 1, 3, none⟩ = some (.int .u64 y3) := ⟨X_10.out.c0, X_10.out.c1, X_10.out.c2, X_10.out.c3, Y_10.out.c0, Y_10.out.c1, Y_10.out.c2, Y_10.out.c3⟩))
      | (go_at_call 10; have gg := G_8; clear gg; (refine (COy.out _).mono ?_); (rintro e w9 ⟨v9, rfl, hn9, g9⟩; obtain ⟨ba, bc, bd, rfl⟩ := hn9.shape; have B_9 : Hid (Num w9 (.slice ba bc bd) y) := hn9; have M_9 : Hid (Blk w9 w.heap.size m0 m1 m2 m3) := M_8.out.below g9; have X_9 : Hid (Blk w9 (w.heap.size + 1) x0 x1 x2 x3) := X_8.out.below g9; have Y_9 : Hid (Blk w9 (w.heap.size + 1 + 1) y0 y1 y2 y3) := Y_8.out.below g9; have R_9 : Hid (Rg w9 (w2.heap.size + 1) m) := R_8.out.below g9; have N_9 : Hid (Num w9 (.slice na nc nd) m) := N_8.out.below g9; have V_9 : Hid (Num w9 (.slice va vc vd) x) := V_8.out.below g9; have A_9 : Hid (Num w9 (.slice aa ac ad) vX) := A_8.out.below g9; have G_9 : Hid (Below w.heap.size w w9) := G_8.out.trans (g9.mono G_8.out.size); clear M_8 X_8 Y_8 R_8 N_8 V_8 A_8 G_8 g9; clear hn9; clear K; have K : w9.cell? ⟨w.heap.size + 1, 0, none⟩ = some (.int .u64 x0) ∧ w9.cell? ⟨w.heap.size + 1, 1, none⟩ = some (.int .u64 x1) ∧ w9.cell? ⟨w.heap.size + 1, 2, none⟩ = some (.int .u64 x2) ∧ w9.cell? ⟨w.heap.size + 1, 3, none⟩ = some (.int .u64 x3) ∧ w9.cell? ⟨w.heap.size + 1 + 1, 0, none⟩ = some (.int .u64 y0) ∧ w9.cell? ⟨w.heap.size + 1 + 1, 1, none⟩ = some (.int .u64 y1) ∧ w9.cell? ⟨w.heap.size + 1 + 1, 2, none⟩ = some (.int .u64 y2) ∧ w9.cell? ⟨w.heap.size + 1 + 1, 3, none⟩ = some (.int .u64 y3) := ⟨X_9.out.c0, X_9.out.c1, X_9.out.c2, X_9.out.c3, Y_9.out.c0, Y_9.out.c1, Y_9.out.c2, Y_9.out.c3⟩))
      | (go_at_call 14; have gg := G_7; clear gg; (refine (CMo.out _ _ _ V_7.out N_7.out).mono ?_); (rintro e w8 ⟨v8, rfl, hn8, g8⟩; obtain ⟨aa, ac, ad, rfl⟩ := hn8.shape; have A_8 : Hid (Num w8 (.slice aa ac ad) vX) := hn8; have M_8 : Hid (Blk w8 w.heap.size m0 m1 m2 m3) := M_7.out.below g8; have X_8 : Hid (Blk w8 (w.heap.size + 1) x0 x1 x2 x3) := X_7.out.below g8; have Y_8 : Hid (Blk w8 (w.heap.size + 1 + 1) y0 y1 y2 y3) := Y_7.out.below g8; have R_8 : Hid (Rg w8 (w2.heap.size + 1) m) := R_7.out.below g8; have N_8 : Hid (Num w8 (.slice na nc nd) m) := N_7.out.below g8; have V_8 : Hid (Num w8 (.slice va vc vd) x) := V_7.out.below g8; have G_8 : Hid (Below w.heap.size w w8) := G_7.out.trans (g8.mono G_7.out.size); clear M_7 X_7 Y_7 R_7 N_7 V_7 G_7 g8; clear hn8; clear K; have K : w8.cell? ⟨w.heap.size + 1, 0, none⟩ = some (.int .u64 x0) ∧ w8.cell? ⟨w.heap.size + 1, 1, none⟩ = some (.int .u64 x1) ∧ w8.cell? ⟨w.heap.size + 1, 2, none⟩ = some (.int .u64 x2) ∧ w8.cell? ⟨w.heap.size + 1, 3, none⟩ = some (.int .u64 x3) ∧ w8.cell? ⟨w.heap.size + 1 + 1, 0, none⟩ = some (.int .u64 y0) ∧ w8.cell? ⟨w.heap.size + 1 + 1, 1, none⟩ = some (.int .u64 y1) ∧ w8.cell? ⟨w.heap.size + 1 + 1, 2, none⟩ = some (.int .u64 y2) ∧ w8.cell? ⟨w.heap.size + 1 + 1, 3, none⟩ = some (.int .u64 y3) := ⟨X_8.out.c0, X_8.out.c1, X_8.out.c2, X_8.out.c3, Y_8.out.c0, Y_8.out.c1, Y_8.out.c2, Y_8.out.c3⟩))
      | (go_at_call 27; have gg := G_6; clear gg; (refine (CEx.out _ _ R_6.out).mono ?_); (rintro e w7 ⟨rfl, g7⟩; have M_7 : Hid (Blk w7 w.heap.size m0 m1 m2 m3) := M_6.out.below g7; have X_7 : Hid (Blk w7 (w.heap.size + 1) x0 x1 x2 x3) := X_6.out.below g7; have Y_7 : Hid (Blk w7 (w.heap.size + 1 + 1) y0 y1 y2 y3) := Y_6.out.below g7; have R_7 : Hid (Rg w7 (w2.heap.size + 1) m) := R_6.out.below g7; have N_7 : Hid (Num w7 (.slice na nc nd) m) := N_6.out.below g7; have V_7 : Hid (Num w7 (.slice va vc vd) x) := V_6.out.below g7; have G_7 : Hid (Below w.heap.size w w7) := G_6.out.trans (g7.mono G_6.out.size); clear M_6 X_6 Y_6 R_6 N_6 V_6 G_6 g7; clear K; have K : w7.cell? ⟨w.heap.size + 1, 0, none⟩ = some (.int .u64 x0) ∧ w7.cell? ⟨w.heap.size + 1, 1, none⟩ = some (.int .u64 x1) ∧ w7.cell? ⟨w.heap.size + 1, 2, none⟩ = some (.int .u64 x2) ∧ w7.cell? ⟨w.heap.size + 1, 3, none⟩ = some (.int .u64 x3) ∧ w7.cell? ⟨w.heap.size + 1 + 1, 0, none⟩ = some (.int .u64 y0) ∧ w7.cell? ⟨w.heap.size + 1 + 1, 1, none⟩ = some (.int .u64 y1) ∧ w7.cell? ⟨w.heap.size + 1 + 1, 2, none⟩ = some (.int .u64 y2) ∧ w7.cell? ⟨w.heap.size + 1 + 1, 3, none⟩ = some (.int .u64 y3) := ⟨X_7.out.c0, X_7.out.c1, X_7.out.c2, X_7.out.c3, Y_7.out.c0, Y_7.out.c1, Y_7.out.c2, Y_7.out.c3⟩))
      | (go_at_call 18; have gg := G_5; clear gg; (refine (CIn.out _ _ (R_5.out.below D_5.out)).mono ?_); (rintro e w6 ⟨rfl, g6⟩; have M_6 : Hid (Blk w6 w.heap.size m0 m1 m2 m3) := (M_5.out.below D_5.out).below g6; have X_6 : Hid (Blk w6 (w.heap.size + 1) x0 x1 x2 x3) := (X_5.out.below D_5.out).below g6; have Y_6 : Hid (Blk w6 (w.heap.size + 1 + 1) y0 y1 y2 y3) := (Y_5.out.below D_5.out).below g6; have R_6 : Hid (Rg w6 (w2.heap.size + 1) m) := (R_5.out.below D_5.out).below g6; have N_6 : Hid (Num w6 (.slice na nc nd) m) := (N_5.out.below D_5.out).below g6; have V_6 : Hid (Num w6 (.slice va vc vd) x) := (V_5.out.below D_5.out).below g6; have G_6 : Hid (Below w.heap.size w w6) := (G_5.out.trans (D_5.out.mono G_5.out.size)).trans (g6.mono G_5.out.size); clear M_5 X_5 Y_5 R_5 N_5 V_5 G_5 g6 D_5; clear K; have K : w6.cell? ⟨w.heap.size + 1, 0, none⟩ = some (.int .u64 x0) ∧ w6.cell? ⟨w.heap.size + 1, 1, none⟩ = some (.int .u64 x1) ∧ w6.cell? ⟨w.heap.size + 1, 2, none⟩ = some (.int .u64 x2) ∧ w6.cell? ⟨w.heap.size + 1, 3, none⟩ = some (.int .u64 x3) ∧ w6.cell? ⟨w.heap.size + 1 + 1, 0, none⟩ = some (.int .u64 y0) ∧ w6.cell? ⟨w.heap.size + 1 + 1, 1, none⟩ = some (.int .u64 y1) ∧ w6.cell? ⟨w.heap.size + 1 + 1, 2, none⟩ = some (.int .u64 y2) ∧ w6.cell? ⟨w.heap.size + 1 + 1, 3, none⟩ = some (.int .u64 y3) := ⟨X_6.out.c0, X_6.out.c1, X_6.out.c2, X_6.out.c3, Y_6.out.c0, Y_6.out.c1, Y_6.out.c2, Y_6.out.c3⟩)))
  clear K
  go_wp2_with fail
  go_ret
  exact ⟨rfl, G_18.out⟩

theorem rpow_any (m x y : Nat) (hm : m < M4) (hx : x < M4) (hy : y < M4)  (w : World) :
    Calls Try.prog 5 #[four m, four x, four y] w fun e w' => e = .returned (.bool true) ∧ Below w.heap.size w w' := by
  by_cases h : m % 2 = 0 ∨ m = 1
  · exact rpow_no m x y hm hx hy h w
  · exact rpow_yes m x y hm hx hy (by omega) (by omega) w

end Go.Proofs.Ytkaekgjpjnnjpaa
