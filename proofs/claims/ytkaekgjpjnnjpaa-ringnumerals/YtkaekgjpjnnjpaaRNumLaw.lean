/-
  The walk of the law RingNumerals: for any modulus and any two numbers of four words it returns true and changes no memory that was there. Conditions: as each theorem says.
-/
import Derived.Test.YtkaekgjpjnnjpaaRingS
import Derived.Test.YtkaekgjpjnnjpaaRingL
import Derived.Test.YtkaekgjpjnnjpaaRingO
import Derived.Test.YtkaekgjpjnnjpaaRefR
namespace Go.Proofs.Ytkaekgjpjnnjpaa
open Go.RowKit
set_option linter.unusedVariables false

set_option maxHeartbeats 400000 in
theorem subD_num (U V M : Nat) (va vb vc : Value) (w : World) (ha : Num w va U) (hb : Num w vb V) (hc : Num w vc M) (hU : U < M) (hV : V < M) (hMm : M < 16777216 ^ 11) :
    Calls Try.prog 24 #[va, vb, vc] w fun e w' => ∃ r, e = .returned r ∧ Num w' r ((U + M - V) % M) ∧ Below w.heap.size w w' := by
  have hU2 : U < 16777216 ^ 11 := Nat.lt_trans hU hMm
  have hS : U + M < 16777216 ^ 12 := by rw [Nat.pow_succ]; omega
  have hD : U + M - V < 16777216 ^ 12 := by omega
  have hM2 : M < 16777216 ^ 12 := by omega
  have CA := fun w ha hc => add_num U M va vc w ha hc 11 hU2 hMm (by omega)
  have CS := fun v w ha hb => sub_num (U + M) V v vb w ha hb 12 hS (by omega) (by omega)
  have CM := fun v w ha hc => mod_num (U + M - V) M v vc w ha hc (by omega) 12 hD hM2 (by omega)
  obtain ⟨xa, xc, xd, rfl⟩ := ha.shape
  obtain ⟨ya, yc, yd, rfl⟩ := hb.shape
  obtain ⟨za, zc, zd, rfl⟩ := hc.shape
  have HA : Hid (Num w (.slice xa xc xd) U) := ha
  have HB' : Hid (Num w (.slice ya yc yd) V) := hb
  have HC : Hid (Num w (.slice za zc zd) M) := hc
  clear ha hb hc hMm hU2 hS hD hM2 hU hV
  go_enter Try.func24, Try.ntmps24
  go_wp2_with fail
  refine (CA _ HA.out HC.out).mono ?_
  rintro e w1 ⟨v1, rfl, k1, g1⟩
  obtain ⟨pa, pc, pd, rfl⟩ := k1.shape
  have H1 : Hid (Num w1 (.slice pa pc pd) (U + M)) := k1
  have HB1 : Hid (Num w1 (.slice ya yc yd) V) := HB'.out.below g1
  have HC1 : Hid (Num w1 (.slice za zc zd) M) := HC.out.below g1
  clear k1
  go_wp2_with fail
  refine (CS _ _ H1.out HB1.out).mono ?_
  rintro e w2 ⟨v2, rfl, k2, g2⟩
  obtain ⟨qa, qc, qd, rfl⟩ := k2.shape
  have H2 : Hid (Num w2 (.slice qa qc qd) (U + M - V)) := k2
  have HC2 : Hid (Num w2 (.slice za zc zd) M) := HC1.out.below g2
  have G2 : Hid (Below w.heap.size w w2) := g1.trans (g2.mono g1.size)
  clear k2 g1 g2
  go_wp2_with fail
  refine (CM _ _ H2.out HC2.out).mono ?_
  rintro e w3 ⟨v3, rfl, k3, g3⟩
  have H3 : Hid (Num w3 v3 ((U + M - V) % M)) := k3
  clear k3
  go_wp2_with fail
  go_ret
  exact ⟨_, rfl, H3.out, G2.out.trans (g3.mono G2.out.size)⟩

theorem plus_up (m a b : Nat) (ho : m % 2 = 1) (hm : 1 < m) : (red m a + red m b) * M4 % m = (a + b) % m := by
  rw [Nat.add_mul, Nat.add_mod, up_red m a ho hm, up_red m b ho hm, ← Nat.add_mod]
theorem times_up (m a b : Nat) (ho : m % 2 = 1) (hm : 1 < m) : (red m a * red m b) * M4 % m = red m (a * b) := by
  rw [Nat.mul_assoc, ← mul_mod_right', up_red m b ho hm, mul_mod_right', red, red, mul_mod_left', Nat.mul_right_comm]
theorem diff_only (m c e f : Nat) (he : e < m) (hf : f < m) (h : (e + c) % m = (f + c) % m) : e = f := by
  have h1 : (e + c + (m - c % m)) % m = (f + c + (m - c % m)) % m := by rw [Nat.add_mod, h, ← Nat.add_mod]
  have hc : c % m < m := Nat.mod_lt _ (by omega)
  have e1 : ∀ z, z < m → (z + c + (m - c % m)) % m = z := fun z hz => by
    have : z + c + (m - c % m) = z + m * (c / m + 1) := by
      have := Nat.div_add_mod c m
      rw [Nat.mul_add, Nat.mul_one]
      omega
    rw [this, Nat.add_mul_mod_self_left, Nat.mod_eq_of_lt hz]
  rw [e1 e he, e1 f hf] at h1
  exact h1
theorem back_to (m u v : Nat) (hu : u < m) (hv : v < m) : ((u + m - v) % m + v) % m = u := by
  rw [Nat.mod_add_mod, show u + m - v + v = u + m by omega, Nat.add_mod_right, Nat.mod_eq_of_lt hu]
theorem minus_up (m a b : Nat) (ho : m % 2 = 1) (hm : 1 < m) : ((red m a + m - red m b) % m) * M4 % m = (a % m + m - b % m) % m := by
  have hu := red_lt m a hm
  have hv := red_lt m b hm
  have ha : a % m < m := Nat.mod_lt _ (by omega)
  have hb : b % m < m := Nat.mod_lt _ (by omega)
  refine diff_only m (b % m) _ _ (Nat.mod_lt _ (by omega)) (Nat.mod_lt _ (by omega)) ?_
  rw [back_to m _ _ ha hb, ← up_red m b ho hm, ← Nat.add_mod, ← Nat.add_mul, ← mul_mod_left', back_to m _ _ hu hv, up_red m a ho hm]

set_option maxHeartbeats 1000000 in
theorem rnum_no (m x y : Nat) (hm : m < M4) (hx : x < M4) (hy : y < M4) (h : m % 2 = 0 ∨ m = 1) (w : World) :
    Calls Try.prog 4 #[four m, four x, four y] w fun e w' => e = .returned (.bool true) ∧ Below w.heap.size w w' := by
  have CO := fun w => odd_no m hm h w
  obtain ⟨m0, m1, m2, m3, -, -, -, -, em, -⟩ := four_open m hm
  obtain ⟨x0, x1, x2, x3, -, -, -, -, ex, -⟩ := four_open x hx
  obtain ⟨y0, y1, y2, y3, -, -, -, -, ey, -⟩ := four_open y hy
  rw [em] at CO
  rw [em, ex, ey]
  clear em ex ey hm hx hy h
  go_enter Try.func4, Try.ntmps4
  go_wp2_with fail
  refine (awake3_any _).mono ?_
  rintro e w1 ⟨rfl, g1⟩
  have G_1 : Hid (Below w.heap.size w w1) := Below.trans (by (repeat (first | exact Below.refl _ _ | refine Below.drew ?_ | refine Below.alloc ?_ (by first | omega | (simp <;> omega)) _ | refine Below.setCell ?_ (by first | omega | (simp <;> omega)) _)); done) (g1.mono (by first | omega | (simp <;> omega)))
  have M_1 : Hid (Blk w1 w.heap.size m0 m1 m2 m3) := Blk.below (by (repeat (first | exact Blk.new_at _ _ _ _ _ _ _ (by simp) | refine Blk.drew ?_ | refine Blk.alloc ?_ _)); done) g1
  have X_1 : Hid (Blk w1 (w.heap.size + 1) x0 x1 x2 x3) := Blk.below (by (repeat (first | exact Blk.new_at _ _ _ _ _ _ _ (by simp) | refine Blk.drew ?_ | refine Blk.alloc ?_ _)); done) g1
  have Y_1 : Hid (Blk w1 (w.heap.size + 1 + 1) y0 y1 y2 y3) := Blk.below (by (repeat (first | exact Blk.new_at _ _ _ _ _ _ _ (by simp) | refine Blk.drew ?_ | refine Blk.alloc ?_ _)); done) g1
  clear g1
  obtain ⟨a0, a1, a2, a3, a4, a5⟩ := M_1.out
  go_wp2_with fail
  refine (CO _).mono ?_
  rintro e w2 ⟨rfl, g2⟩
  have G_2 : Hid (Below w.heap.size w w2) := G_1.out.trans (g2.mono G_1.out.size)
  clear g2 M_1 X_1 Y_1 G_1 a0 a1 a2 a3 a4 a5
  go_wp2_with fail
  go_ret
  exact ⟨rfl, G_2.out⟩

set_option maxRecDepth 100000 in
set_option maxHeartbeats 16000000 in
theorem rnum_yes (m x y : Nat) (hm : m < M4) (hx : x < M4) (hy : y < M4) (h1 : m % 2 = 1) (h2 : 1 < m) (w : World) :
    Calls Try.prog 4 #[four m, four x, four y] w fun e w' => e = .returned (.bool true) ∧ Below w.heap.size w w' := by
  have hn : x * M4 % m < M4 := Nat.lt_trans (Nat.mod_lt _ (by omega)) hm
  have ho : red m x < M4 := Nat.lt_trans (red_lt m _ h2) hm
  have hp : (x + y) % m < M4 := Nat.lt_trans (Nat.mod_lt _ (by omega)) hm
  have hq : (x % m + m - y % m) % m < M4 := Nat.lt_trans (Nat.mod_lt _ (by omega)) hm
  have ht : red m (x * y) < M4 := Nat.lt_trans (red_lt m _ h2) hm
  have hv : red m y < M4 := Nat.lt_trans (red_lt m _ h2) hm
  obtain ⟨m0, m1, m2, m3, -, -, -, -, em, -⟩ := four_open m hm
  obtain ⟨x0, x1, x2, x3, -, -, -, -, ex, -⟩ := four_open x hx
  obtain ⟨y0, y1, y2, y3, -, -, -, -, ey, -⟩ := four_open y hy
  obtain ⟨n0, n1, n2, n3, -, -, -, -, en, -⟩ := four_open _ hn
  obtain ⟨o0, o1, o2, o3, -, -, -, -, eo, -⟩ := four_open _ ho
  obtain ⟨p0, p1, p2, p3, -, -, -, -, ep, -⟩ := four_open _ hp
  obtain ⟨q0, q1, q2, q3, -, -, -, -, eq, -⟩ := four_open _ hq
  obtain ⟨t0, t1, t2, t3, -, -, -, -, et, -⟩ := four_open _ ht
  have hM11 : m < 16777216 ^ 11 := Nat.lt_of_lt_of_le hm (by unfold M4; decide)
  have hM22 : m < 16777216 ^ 22 := Nat.lt_of_lt_of_le hm (by unfold M4; decide)
  have hX22 : x < 16777216 ^ 22 := Nat.lt_of_lt_of_le hx (by unfold M4; decide)
  have hY22 : y < 16777216 ^ 22 := Nat.lt_of_lt_of_le hy (by unfold M4; decide)
  have hU11 : red m x < 16777216 ^ 11 := Nat.lt_of_lt_of_le ho (by unfold M4; decide)
  have hV11 : red m y < 16777216 ^ 11 := Nat.lt_of_lt_of_le hv (by unfold M4; decide)
  have hS22 : red m x + red m y < 16777216 ^ 22 := by
    have h : 16777216 ^ 22 = 16777216 ^ 11 * 16777216 ^ 11 := by rw [← Nat.pow_add]
    rw [h]
    have h3 : 16777216 ^ 11 * 2 ≤ 16777216 ^ 11 * 16777216 ^ 11 := Nat.mul_le_mul_left _ (by decide)
    omega
  have hD22 : (red m x + m - red m y) % m < 16777216 ^ 22 := Nat.lt_trans (Nat.mod_lt _ (by omega)) hM22
  have hT22 : red m x * red m y < 16777216 ^ 22 := by
    rw [show (22 : Nat) = 11 + 11 from rfl, Nat.pow_add]
    exact Nat.mul_lt_mul'' hU11 hV11
  have bn : x * M4 % m < 16777216 ^ 22 := Nat.lt_of_lt_of_le hn (by unfold M4; decide)
  have bo : red m x < 16777216 ^ 22 := Nat.lt_of_lt_of_le ho (by unfold M4; decide)
  have bp : (x + y) % m < 16777216 ^ 22 := Nat.lt_of_lt_of_le hp (by unfold M4; decide)
  have bq : (x % m + m - y % m) % m < 16777216 ^ 22 := Nat.lt_of_lt_of_le hq (by unfold M4; decide)
  have bt : red m (x * y) < 16777216 ^ 22 := Nat.lt_of_lt_of_le ht (by unfold M4; decide)
  have CN : Hid (∀ w, Calls Try.prog 8 #[.agg #[.int .u64 m0, .int .u64 m1, .int .u64 m2, .int .u64 m3]] w fun e w' => e = .returned (.tuple #[.pointer (some ⟨w.heap.size + 1, 0, none⟩), .int .i64 0]) ∧ Rg w' (w.heap.size + 1) m ∧ Below w.heap.size w w') := by
    intro w; have := new_any w m hm h1 h2; rwa [em] at this
  have CD : Hid (∀ w, Calls Try.prog 9 #[.agg #[.int .u64 m0, .int .u64 m1, .int .u64 m2, .int .u64 m3]] w fun e w' => e = .returned (.bool true) ∧ Below w.heap.size w w') := by
    intro w; have := odd_yes m hm h1 h2 w; rwa [em] at this
  have COm : Hid (∀ w, Calls Try.prog 10 #[.agg #[.int .u64 m0, .int .u64 m1, .int .u64 m2, .int .u64 m3]] w fun e w' => ∃ v, e = .returned v ∧ Num w' v m ∧ Below w.heap.size w w') := by
    intro w; have := of_ref_any m hm w; rwa [em] at this
  have COx : Hid (∀ w, Calls Try.prog 10 #[.agg #[.int .u64 x0, .int .u64 x1, .int .u64 x2, .int .u64 x3]] w fun e w' => ∃ v, e = .returned v ∧ Num w' v x ∧ Below w.heap.size w w') := by
    intro w; have := of_ref_any x hx w; rwa [ex] at this
  have COy : Hid (∀ w, Calls Try.prog 10 #[.agg #[.int .u64 y0, .int .u64 y1, .int .u64 y2, .int .u64 y3]] w fun e w' => ∃ v, e = .returned v ∧ Num w' v y ∧ Below w.heap.size w w') := by
    intro w; have := of_ref_any y hy w; rwa [ey] at this
  have CIn : Hid (∀ w b, Rg w b m → Calls Try.prog 18 #[.pointer (some ⟨b, 0, none⟩), .agg #[.int .u64 x0, .int .u64 x1, .int .u64 x2, .int .u64 x3]] w fun e w' => e = .returned (.agg #[.int .u64 n0, .int .u64 n1, .int .u64 n2, .int .u64 n3]) ∧ Below w.heap.size w w') := by
    intro w b h; have := in_ring w b m x h hx; rwa [ex, en] at this
  have COut : Hid (∀ w b, Rg w b m → Calls Try.prog 20 #[.pointer (some ⟨b, 0, none⟩), .agg #[.int .u64 x0, .int .u64 x1, .int .u64 x2, .int .u64 x3]] w fun e w' => e = .returned (.agg #[.int .u64 o0, .int .u64 o1, .int .u64 o2, .int .u64 o3]) ∧ Below w.heap.size w w') := by
    intro w b h; have := out_ring w b m x h hx; rwa [ex, eo] at this
  have CPl : Hid (∀ w b, Rg w b m → Calls Try.prog 21 #[.pointer (some ⟨b, 0, none⟩), .agg #[.int .u64 x0, .int .u64 x1, .int .u64 x2, .int .u64 x3], .agg #[.int .u64 y0, .int .u64 y1, .int .u64 y2, .int .u64 y3]] w fun e w' => e = .returned (.agg #[.int .u64 p0, .int .u64 p1, .int .u64 p2, .int .u64 p3]) ∧ Below w.heap.size w w') := by
    intro w b h; have := plus_ring w b m x y h hx hy; rwa [ex, ey, ep] at this
  have CMi : Hid (∀ w b, Rg w b m → Calls Try.prog 23 #[.pointer (some ⟨b, 0, none⟩), .agg #[.int .u64 x0, .int .u64 x1, .int .u64 x2, .int .u64 x3], .agg #[.int .u64 y0, .int .u64 y1, .int .u64 y2, .int .u64 y3]] w fun e w' => e = .returned (.agg #[.int .u64 q0, .int .u64 q1, .int .u64 q2, .int .u64 q3]) ∧ Below w.heap.size w w') := by
    intro w b h; have := minus_ring w b m x y h hx hy; rwa [ex, ey, eq] at this
  have CTi : Hid (∀ w b, Rg w b m → Calls Try.prog 25 #[.pointer (some ⟨b, 0, none⟩), .agg #[.int .u64 x0, .int .u64 x1, .int .u64 x2, .int .u64 x3], .agg #[.int .u64 y0, .int .u64 y1, .int .u64 y2, .int .u64 y3]] w fun e w' => e = .returned (.agg #[.int .u64 t0, .int .u64 t1, .int .u64 t2, .int .u64 t3]) ∧ Below w.heap.size w w') := by
    intro w b h; have := times_ring w b m x y h hx hy; rwa [ex, ey, et] at this
  have CRx : Hid (∀ w v0 v1, Num w v0 (x) → Num w v1 (m) → Calls Try.prog 17 #[v0, v1] w fun e w' => ∃ r, e = .returned r ∧ Num w' r (red m x) ∧ Below w.heap.size w w') := fun w v0 v1 h0 hb => residueD_num x m v0 v1 w h0 hb h1 h2 hX22 hM11
  have CRy : Hid (∀ w v0 v1, Num w v0 (y) → Num w v1 (m) → Calls Try.prog 17 #[v0, v1] w fun e w' => ∃ r, e = .returned r ∧ Num w' r (red m y) ∧ Below w.heap.size w w') := fun w v0 v1 h0 hb => residueD_num y m v0 v1 w h0 hb h1 h2 hY22 hM11
  have CNx : Hid (∀ w v0 v1, Num w v0 (x) → Num w v1 (m) → Calls Try.prog 19 #[v0, v1] w fun e w' => ∃ r, e = .returned r ∧ Num w' r (x * M4 % m) ∧ Below w.heap.size w w') := fun w v0 v1 h0 hb => numeralD_num x m v0 v1 w h0 hb (by omega) hX22 hM22
  have CA : Hid (∀ w v0 v1, Num w v0 (red m x) → Num w v1 (red m y) → Calls Try.prog 22 #[v0, v1] w fun e w' => ∃ r, e = .returned r ∧ Num w' r (red m x + red m y) ∧ Below w.heap.size w w') := fun w v0 v1 h0 hb => add_num _ _ v0 v1 w h0 hb 11 hU11 hV11 (by omega)
  have CS : Hid (∀ w v0 v1 v2, Num w v0 (red m x) → Num w v1 (red m y) → Num w v2 (m) → Calls Try.prog 24 #[v0, v1, v2] w fun e w' => ∃ r, e = .returned r ∧ Num w' r ((red m x + m - red m y) % m) ∧ Below w.heap.size w w') := fun w v0 v1 v2 h0 hb hc => subD_num _ _ m v0 v1 v2 w h0 hb hc (red_lt m _ h2) (red_lt m _ h2) hM11
  have CM : Hid (∀ w v0 v1, Num w v0 (red m x) → Num w v1 (red m y) → Calls Try.prog 26 #[v0, v1] w fun e w' => ∃ r, e = .returned r ∧ Num w' r (red m x * red m y) ∧ Below w.heap.size w w') := fun w v0 v1 h0 hb => ref_mul_num _ _ v0 v1 w h0 hb 11 hU11 hV11 (by omega)
  have CNa : Hid (∀ w v0 v1, Num w v0 (red m x + red m y) → Num w v1 m → Calls Try.prog 19 #[v0, v1] w fun e w' => ∃ r, e = .returned r ∧ Num w' r ((x + y) % m) ∧ Below w.heap.size w w') := by
    intro w v0 v1 h0 hb; have := numeralD_num _ m v0 v1 w h0 hb (by omega) hS22 hM22; rwa [plus_up m x y h1 h2] at this
  have CNs : Hid (∀ w v0 v1, Num w v0 ((red m x + m - red m y) % m) → Num w v1 m → Calls Try.prog 19 #[v0, v1] w fun e w' => ∃ r, e = .returned r ∧ Num w' r ((x % m + m - y % m) % m) ∧ Below w.heap.size w w') := by
    intro w v0 v1 h0 hb; have := numeralD_num _ m v0 v1 w h0 hb (by omega) hD22 hM22; rwa [minus_up m x y h1 h2] at this
  have CNm : Hid (∀ w v0 v1, Num w v0 (red m x * red m y) → Num w v1 m → Calls Try.prog 19 #[v0, v1] w fun e w' => ∃ r, e = .returned r ∧ Num w' r (red m (x * y)) ∧ Below w.heap.size w w') := by
    intro w v0 v1 h0 hb; have := numeralD_num _ m v0 v1 w h0 hb (by omega) hT22 hM22; rwa [times_up m x y h1 h2] at this
  have CFn : Hid (∀ w va, Num w va (x * M4 % m) → Calls Try.prog 13 #[va] w fun e w' => e = .returned (.agg #[.int .u64 n0, .int .u64 n1, .int .u64 n2, .int .u64 n3]) ∧ Below w.heap.size w w') := by
    intro w va ha; have := four_num _ va w ha 22 bn (by omega); rwa [Nat.mod_eq_of_lt hn, en] at this
  have CFo : Hid (∀ w va, Num w va (red m x) → Calls Try.prog 13 #[va] w fun e w' => e = .returned (.agg #[.int .u64 o0, .int .u64 o1, .int .u64 o2, .int .u64 o3]) ∧ Below w.heap.size w w') := by
    intro w va ha; have := four_num _ va w ha 22 bo (by omega); rwa [Nat.mod_eq_of_lt ho, eo] at this
  have CFp : Hid (∀ w va, Num w va ((x + y) % m) → Calls Try.prog 13 #[va] w fun e w' => e = .returned (.agg #[.int .u64 p0, .int .u64 p1, .int .u64 p2, .int .u64 p3]) ∧ Below w.heap.size w w') := by
    intro w va ha; have := four_num _ va w ha 22 bp (by omega); rwa [Nat.mod_eq_of_lt hp, ep] at this
  have CFq : Hid (∀ w va, Num w va ((x % m + m - y % m) % m) → Calls Try.prog 13 #[va] w fun e w' => e = .returned (.agg #[.int .u64 q0, .int .u64 q1, .int .u64 q2, .int .u64 q3]) ∧ Below w.heap.size w w') := by
    intro w va ha; have := four_num _ va w ha 22 bq (by omega); rwa [Nat.mod_eq_of_lt hq, eq] at this
  have CFt : Hid (∀ w va, Num w va (red m (x * y)) → Calls Try.prog 13 #[va] w fun e w' => e = .returned (.agg #[.int .u64 t0, .int .u64 t1, .int .u64 t2, .int .u64 t3]) ∧ Below w.heap.size w w') := by
    intro w va ha; have := four_num _ va w ha 22 bt (by omega); rwa [Nat.mod_eq_of_lt ht, et] at this
  obtain ⟨vN, hN⟩ : ∃ z, x * M4 % m = z := ⟨_, rfl⟩
  obtain ⟨vP, hP⟩ : ∃ z, (x + y) % m = z := ⟨_, rfl⟩
  obtain ⟨vQ, hQ⟩ : ∃ z, (x % m + m - y % m) % m = z := ⟨_, rfl⟩
  obtain ⟨vT, hT⟩ : ∃ z, red m (x * y) = z := ⟨_, rfl⟩
  obtain ⟨vA, hA⟩ : ∃ z, red m x + red m y = z := ⟨_, rfl⟩
  obtain ⟨vS, hS⟩ : ∃ z, (red m x + m - red m y) % m = z := ⟨_, rfl⟩
  obtain ⟨vM, hM⟩ : ∃ z, red m x * red m y = z := ⟨_, rfl⟩
  obtain ⟨vU, hU⟩ : ∃ z, red m x = z := ⟨_, rfl⟩
  obtain ⟨vV, hV⟩ : ∃ z, red m y = z := ⟨_, rfl⟩
  rw [hN] at CNx CFn
  rw [hP] at CNa CFp
  rw [hQ] at CNs CFq
  rw [hT] at CNm CFt
  rw [hA] at CA CNa
  rw [hS] at CS CNs
  rw [hM] at CM CNm
  rw [hU] at CRx CFo CA CS CM
  rw [hV] at CRy CA CS CM
  rw [em, ex, ey]
  clear em ex ey en eo ep eq et hn ho hp hq ht hv hM11 hM22 hX22 hY22 hU11 hV11 hS22 hD22 hT22 bn bo bp bq bt hN hP hQ hT hA hS hM hU hV hm hx hy
  have e4 := eql4
  go_enter Try.func4, Try.ntmps4
  go_wp2_with fail
  refine (awake3_any _).mono ?_
  rintro e w1 ⟨rfl, g1⟩
  have G_1 : Hid (Below w.heap.size w w1) := Below.trans (by (repeat (first | exact Below.refl _ _ | refine Below.drew ?_ | refine Below.alloc ?_ (by first | omega | (simp <;> omega)) _ | refine Below.setCell ?_ (by first | omega | (simp <;> omega)) _)); done) (g1.mono (by first | omega | (simp <;> omega)))
  have M_1 : Hid (Blk w1 w.heap.size m0 m1 m2 m3) := Blk.below (by (repeat (first | exact Blk.new_at _ _ _ _ _ _ _ (by simp) | refine Blk.drew ?_ | refine Blk.alloc ?_ _)); done) g1
  have X_1 : Hid (Blk w1 (w.heap.size + 1) x0 x1 x2 x3) := Blk.below (by (repeat (first | exact Blk.new_at _ _ _ _ _ _ _ (by simp) | refine Blk.drew ?_ | refine Blk.alloc ?_ _)); done) g1
  have Y_1 : Hid (Blk w1 (w.heap.size + 1 + 1) y0 y1 y2 y3) := Blk.below (by (repeat (first | exact Blk.new_at _ _ _ _ _ _ _ (by simp) | refine Blk.drew ?_ | refine Blk.alloc ?_ _)); done) g1
  clear g1
  obtain ⟨a0, a1, a2, a3, a4, a5⟩ := M_1.out
  go_wp2_with fail
  refine (CD.out _).mono ?_
  rintro e w2 ⟨rfl, g2⟩
  have M_2 : Hid (Blk w2 w.heap.size m0 m1 m2 m3) := M_1.out.below g2
  have X_2 : Hid (Blk w2 (w.heap.size + 1) x0 x1 x2 x3) := X_1.out.below g2
  have Y_2 : Hid (Blk w2 (w.heap.size + 1 + 1) y0 y1 y2 y3) := Y_1.out.below g2
  have G_2 : Hid (Below w.heap.size w w2) := G_1.out.trans (g2.mono G_1.out.size)
  clear M_1 X_1 Y_1 G_1 g2
  clear a0 a1 a2 a3 a4 a5
  obtain ⟨a0, a1, a2, a3, a4, a5⟩ := M_2.out
  go_wp2_with fail
  refine (CN.out _).mono ?_
  rintro e w3 ⟨rfl, hr3, g3⟩
  have R_3 : Hid (Rg w3 (w2.heap.size + 1) m) := hr3
  have M_3 : Hid (Blk w3 w.heap.size m0 m1 m2 m3) := M_2.out.below g3
  have X_3 : Hid (Blk w3 (w.heap.size + 1) x0 x1 x2 x3) := X_2.out.below g3
  have Y_3 : Hid (Blk w3 (w.heap.size + 1 + 1) y0 y1 y2 y3) := Y_2.out.below g3
  have G_3 : Hid (Below w.heap.size w w3) := G_2.out.trans (g3.mono G_2.out.size)
  clear M_2 X_2 Y_2 G_2 g3
  clear hr3
  clear a0 a1 a2 a3 a4 a5
  obtain ⟨a0, a1, a2, a3, a4, a5⟩ := M_3.out
  go_wp2_with fail
  refine (COm.out _).mono ?_
  rintro e w4 ⟨v4, rfl, hn4, g4⟩
  obtain ⟨na, nc, nd, rfl⟩ := hn4.shape
  have N_4 : Hid (Num w4 (.slice na nc nd) m) := hn4
  have M_4 : Hid (Blk w4 w.heap.size m0 m1 m2 m3) := M_3.out.below g4
  have X_4 : Hid (Blk w4 (w.heap.size + 1) x0 x1 x2 x3) := X_3.out.below g4
  have Y_4 : Hid (Blk w4 (w.heap.size + 1 + 1) y0 y1 y2 y3) := Y_3.out.below g4
  have R_4 : Hid (Rg w4 (w2.heap.size + 1) m) := R_3.out.below g4
  have G_4 : Hid (Below w.heap.size w w4) := G_3.out.trans (g4.mono G_3.out.size)
  clear M_3 X_3 Y_3 R_3 G_3 g4
  clear hn4
  clear a0 a1 a2 a3 a4 a5
  go_wp2_with fail
  have K : w4.drew.cell? ⟨w.heap.size + 1, 0, none⟩ = some (.int .u64 x0) ∧ w4.drew.cell? ⟨w.heap.size + 1, 1, none⟩ = some (.int .u64 x1) ∧ w4.drew.cell? ⟨w.heap.size + 1, 2, none⟩ = some (.int .u64 x2) ∧ w4.drew.cell? ⟨w.heap.size + 1, 3, none⟩ = some (.int .u64 x3) ∧ w4.drew.cell? ⟨w.heap.size + 1 + 1, 0, none⟩ = some (.int .u64 y0) ∧ w4.drew.cell? ⟨w.heap.size + 1 + 1, 1, none⟩ = some (.int .u64 y1) ∧ w4.drew.cell? ⟨w.heap.size + 1 + 1, 2, none⟩ = some (.int .u64 y2) ∧ w4.drew.cell? ⟨w.heap.size + 1 + 1, 3, none⟩ = some (.int .u64 y3) := ⟨X_4.out.drew.c0, X_4.out.drew.c1, X_4.out.drew.c2, X_4.out.drew.c3, Y_4.out.drew.c0, Y_4.out.drew.c1, Y_4.out.drew.c2, Y_4.out.drew.c3⟩
  have D_4 : Hid (Below w4.heap.size w4 w4.drew) := (Below.refl _ _).drew
  go_wp2_with fail
  go_region_held3 (fun w' => w'.cell? ⟨w.heap.size + 1, 0, none⟩ = some (.int .u64 x0) ∧ w'.cell? ⟨w.heap.size + 1, 1, none⟩ = some (.int .u64 x1) ∧ w'.cell? ⟨w.heap.size + 1, 2, none⟩ = some (.int .u64 x2) ∧ w'.cell? ⟨w.heap.size + 1, 3, none⟩ = some (.int .u64 x3) ∧ w'.cell? ⟨w.heap.size + 1 + 1, 0, none⟩ = some (.int .u64 y0) ∧ w'.cell? ⟨w.heap.size + 1 + 1, 1, none⟩ = some (.int .u64 y1) ∧ w'.cell? ⟨w.heap.size + 1 + 1, 2, none⟩ = some (.int .u64 y2) ∧ w'.cell? ⟨w.heap.size + 1 + 1, 3, none⟩ = some (.int .u64 y3)) (assumption)
    (first
      | (go_at_call 17; have gg := G_7; clear gg; (refine (CRy.out _ _ _ A_7.out N_7.out).mono ?_); (rintro e w8 ⟨v8, rfl, hn8, g8⟩; obtain ⟨va, vc, vd, rfl⟩ := hn8.shape; have V_8 : Hid (Num w8 (.slice va vc vd) vV) := hn8; have M_8 : Hid (Blk w8 w.heap.size m0 m1 m2 m3) := M_7.out.below g8; have X_8 : Hid (Blk w8 (w.heap.size + 1) x0 x1 x2 x3) := X_7.out.below g8; have Y_8 : Hid (Blk w8 (w.heap.size + 1 + 1) y0 y1 y2 y3) := Y_7.out.below g8; have R_8 : Hid (Rg w8 (w2.heap.size + 1) m) := R_7.out.below g8; have N_8 : Hid (Num w8 (.slice na nc nd) m) := N_7.out.below g8; have U_8 : Hid (Num w8 (.slice ua uc ud) vU) := U_7.out.below g8; have G_8 : Hid (Below w.heap.size w w8) := G_7.out.trans (g8.mono G_7.out.size); clear M_7 X_7 Y_7 R_7 N_7 U_7 A_7 G_7 g8; clear hn8; clear K; have K : w8.cell? ⟨w.heap.size + 1, 0, none⟩ = some (.int .u64 x0) ∧ w8.cell? ⟨w.heap.size + 1, 1, none⟩ = some (.int .u64 x1) ∧ w8.cell? ⟨w.heap.size + 1, 2, none⟩ = some (.int .u64 x2) ∧ w8.cell? ⟨w.heap.size + 1, 3, none⟩ = some (.int .u64 x3) ∧ w8.cell? ⟨w.heap.size + 1 + 1, 0, none⟩ = some (.int .u64 y0) ∧ w8.cell? ⟨w.heap.size + 1 + 1, 1, none⟩ = some (.int .u64 y1) ∧ w8.cell? ⟨w.heap.size + 1 + 1, 2, none⟩ = some (.int .u64 y2) ∧ w8.cell? ⟨w.heap.size + 1 + 1, 3, none⟩ = some (.int .u64 y3) := ⟨X_8.out.c0, X_8.out.c1, X_8.out.c2, X_8.out.c3, Y_8.out.c0, Y_8.out.c1, Y_8.out.c2, Y_8.out.c3⟩))
      | (go_at_call 10; have gg := G_6; clear gg; (refine (COy.out _).mono ?_); (rintro e w7 ⟨v7, rfl, hn7, g7⟩; obtain ⟨ba, bc, bd, rfl⟩ := hn7.shape; have A_7 : Hid (Num w7 (.slice ba bc bd) y) := hn7; have M_7 : Hid (Blk w7 w.heap.size m0 m1 m2 m3) := M_6.out.below g7; have X_7 : Hid (Blk w7 (w.heap.size + 1) x0 x1 x2 x3) := X_6.out.below g7; have Y_7 : Hid (Blk w7 (w.heap.size + 1 + 1) y0 y1 y2 y3) := Y_6.out.below g7; have R_7 : Hid (Rg w7 (w2.heap.size + 1) m) := R_6.out.below g7; have N_7 : Hid (Num w7 (.slice na nc nd) m) := N_6.out.below g7; have U_7 : Hid (Num w7 (.slice ua uc ud) vU) := U_6.out.below g7; have G_7 : Hid (Below w.heap.size w w7) := G_6.out.trans (g7.mono G_6.out.size); clear M_6 X_6 Y_6 R_6 N_6 U_6 G_6 g7; clear hn7; clear K; have K : w7.cell? ⟨w.heap.size + 1, 0, none⟩ = some (.int .u64 x0) ∧ w7.cell? ⟨w.heap.size + 1, 1, none⟩ = some (.int .u64 x1) ∧ w7.cell? ⟨w.heap.size + 1, 2, none⟩ = some (.int .u64 x2) ∧ w7.cell? ⟨w.heap.size + 1, 3, none⟩ = some (.int .u64 x3) ∧ w7.cell? ⟨w.heap.size + 1 + 1, 0, none⟩ = some (.int .u64 y0) ∧ w7.cell? ⟨w.heap.size + 1 + 1, 1, none⟩ = some (.int .u64 y1) ∧ w7.cell? ⟨w.heap.size + 1 + 1, 2, none⟩ = some (.int .u64 y2) ∧ w7.cell? ⟨w.heap.size + 1 + 1, 3, none⟩ = some (.int .u64 y3) := ⟨X_7.out.c0, X_7.out.c1, X_7.out.c2, X_7.out.c3, Y_7.out.c0, Y_7.out.c1, Y_7.out.c2, Y_7.out.c3⟩))
      | (go_at_call 17; have gg := G_5; clear gg; (refine (CRx.out _ _ _ A_5.out N_5.out).mono ?_); (rintro e w6 ⟨v6, rfl, hn6, g6⟩; obtain ⟨ua, uc, ud, rfl⟩ := hn6.shape; have U_6 : Hid (Num w6 (.slice ua uc ud) vU) := hn6; have M_6 : Hid (Blk w6 w.heap.size m0 m1 m2 m3) := M_5.out.below g6; have X_6 : Hid (Blk w6 (w.heap.size + 1) x0 x1 x2 x3) := X_5.out.below g6; have Y_6 : Hid (Blk w6 (w.heap.size + 1 + 1) y0 y1 y2 y3) := Y_5.out.below g6; have R_6 : Hid (Rg w6 (w2.heap.size + 1) m) := R_5.out.below g6; have N_6 : Hid (Num w6 (.slice na nc nd) m) := N_5.out.below g6; have G_6 : Hid (Below w.heap.size w w6) := G_5.out.trans (g6.mono G_5.out.size); clear M_5 X_5 Y_5 R_5 N_5 A_5 G_5 g6; clear hn6; clear K; have K : w6.cell? ⟨w.heap.size + 1, 0, none⟩ = some (.int .u64 x0) ∧ w6.cell? ⟨w.heap.size + 1, 1, none⟩ = some (.int .u64 x1) ∧ w6.cell? ⟨w.heap.size + 1, 2, none⟩ = some (.int .u64 x2) ∧ w6.cell? ⟨w.heap.size + 1, 3, none⟩ = some (.int .u64 x3) ∧ w6.cell? ⟨w.heap.size + 1 + 1, 0, none⟩ = some (.int .u64 y0) ∧ w6.cell? ⟨w.heap.size + 1 + 1, 1, none⟩ = some (.int .u64 y1) ∧ w6.cell? ⟨w.heap.size + 1 + 1, 2, none⟩ = some (.int .u64 y2) ∧ w6.cell? ⟨w.heap.size + 1 + 1, 3, none⟩ = some (.int .u64 y3) := ⟨X_6.out.c0, X_6.out.c1, X_6.out.c2, X_6.out.c3, Y_6.out.c0, Y_6.out.c1, Y_6.out.c2, Y_6.out.c3⟩))
      | (go_at_call 10; have gg := G_4; clear gg; (refine (COx.out _).mono ?_); (rintro e w5 ⟨v5, rfl, hn5, g5⟩; obtain ⟨aa, ac, ad, rfl⟩ := hn5.shape; have A_5 : Hid (Num w5 (.slice aa ac ad) x) := hn5; have M_5 : Hid (Blk w5 w.heap.size m0 m1 m2 m3) := (M_4.out.below D_4.out).below g5; have X_5 : Hid (Blk w5 (w.heap.size + 1) x0 x1 x2 x3) := (X_4.out.below D_4.out).below g5; have Y_5 : Hid (Blk w5 (w.heap.size + 1 + 1) y0 y1 y2 y3) := (Y_4.out.below D_4.out).below g5; have R_5 : Hid (Rg w5 (w2.heap.size + 1) m) := (R_4.out.below D_4.out).below g5; have N_5 : Hid (Num w5 (.slice na nc nd) m) := (N_4.out.below D_4.out).below g5; have G_5 : Hid (Below w.heap.size w w5) := (G_4.out.trans (D_4.out.mono G_4.out.size)).trans (g5.mono G_4.out.size); clear M_4 X_4 Y_4 R_4 N_4 G_4 g5 D_4; clear hn5; clear K; have K : w5.cell? ⟨w.heap.size + 1, 0, none⟩ = some (.int .u64 x0) ∧ w5.cell? ⟨w.heap.size + 1, 1, none⟩ = some (.int .u64 x1) ∧ w5.cell? ⟨w.heap.size + 1, 2, none⟩ = some (.int .u64 x2) ∧ w5.cell? ⟨w.heap.size + 1, 3, none⟩ = some (.int .u64 x3) ∧ w5.cell? ⟨w.heap.size + 1 + 1, 0, none⟩ = some (.int .u64 y0) ∧ w5.cell? ⟨w.heap.size + 1 + 1, 1, none⟩ = some (.int .u64 y1) ∧ w5.cell? ⟨w.heap.size + 1 + 1, 2, none⟩ = some (.int .u64 y2) ∧ w5.cell? ⟨w.heap.size + 1 + 1, 3, none⟩ = some (.int .u64 y3) := ⟨X_5.out.c0, X_5.out.c1, X_5.out.c2, X_5.out.c3, Y_5.out.c0, Y_5.out.c1, Y_5.out.c2, Y_5.out.c3⟩)))
  clear K
  go_wp2_with fail
  have K : w8.drew.cell? ⟨w.heap.size + 1, 0, none⟩ = some (.int .u64 x0) ∧ w8.drew.cell? ⟨w.heap.size + 1, 1, none⟩ = some (.int .u64 x1) ∧ w8.drew.cell? ⟨w.heap.size + 1, 2, none⟩ = some (.int .u64 x2) ∧ w8.drew.cell? ⟨w.heap.size + 1, 3, none⟩ = some (.int .u64 x3) ∧ w8.drew.cell? ⟨w.heap.size + 1 + 1, 0, none⟩ = some (.int .u64 y0) ∧ w8.drew.cell? ⟨w.heap.size + 1 + 1, 1, none⟩ = some (.int .u64 y1) ∧ w8.drew.cell? ⟨w.heap.size + 1 + 1, 2, none⟩ = some (.int .u64 y2) ∧ w8.drew.cell? ⟨w.heap.size + 1 + 1, 3, none⟩ = some (.int .u64 y3) := ⟨X_8.out.drew.c0, X_8.out.drew.c1, X_8.out.drew.c2, X_8.out.drew.c3, Y_8.out.drew.c0, Y_8.out.drew.c1, Y_8.out.drew.c2, Y_8.out.drew.c3⟩
  have D_8 : Hid (Below w8.heap.size w8 w8.drew) := (Below.refl _ _).drew
  go_wp2_with fail
  go_region_held3 (fun w' => w'.cell? ⟨w.heap.size + 1, 0, none⟩ = some (.int .u64 x0) ∧ w'.cell? ⟨w.heap.size + 1, 1, none⟩ = some (.int .u64 x1) ∧ w'.cell? ⟨w.heap.size + 1, 2, none⟩ = some (.int .u64 x2) ∧ w'.cell? ⟨w.heap.size + 1, 3, none⟩ = some (.int .u64 x3) ∧ w'.cell? ⟨w.heap.size + 1 + 1, 0, none⟩ = some (.int .u64 y0) ∧ w'.cell? ⟨w.heap.size + 1 + 1, 1, none⟩ = some (.int .u64 y1) ∧ w'.cell? ⟨w.heap.size + 1 + 1, 2, none⟩ = some (.int .u64 y2) ∧ w'.cell? ⟨w.heap.size + 1 + 1, 3, none⟩ = some (.int .u64 y3)) (assumption)
    (first
      | (go_at_call 13; have gg := G_25; clear gg; (refine (CFt.out _ _ B_25.out).mono ?_); (rintro e w26 ⟨rfl, g26⟩; have M_26 : Hid (Blk w26 w.heap.size m0 m1 m2 m3) := M_25.out.below g26; have X_26 : Hid (Blk w26 (w.heap.size + 1) x0 x1 x2 x3) := X_25.out.below g26; have Y_26 : Hid (Blk w26 (w.heap.size + 1 + 1) y0 y1 y2 y3) := Y_25.out.below g26; have R_26 : Hid (Rg w26 (w2.heap.size + 1) m) := R_25.out.below g26; have N_26 : Hid (Num w26 (.slice na nc nd) m) := N_25.out.below g26; have U_26 : Hid (Num w26 (.slice ua uc ud) vU) := U_25.out.below g26; have V_26 : Hid (Num w26 (.slice va vc vd) vV) := V_25.out.below g26; have G_26 : Hid (Below w.heap.size w w26) := G_25.out.trans (g26.mono G_25.out.size); clear M_25 X_25 Y_25 R_25 N_25 U_25 V_25 B_25 G_25 g26; clear K; have K : w26.cell? ⟨w.heap.size + 1, 0, none⟩ = some (.int .u64 x0) ∧ w26.cell? ⟨w.heap.size + 1, 1, none⟩ = some (.int .u64 x1) ∧ w26.cell? ⟨w.heap.size + 1, 2, none⟩ = some (.int .u64 x2) ∧ w26.cell? ⟨w.heap.size + 1, 3, none⟩ = some (.int .u64 x3) ∧ w26.cell? ⟨w.heap.size + 1 + 1, 0, none⟩ = some (.int .u64 y0) ∧ w26.cell? ⟨w.heap.size + 1 + 1, 1, none⟩ = some (.int .u64 y1) ∧ w26.cell? ⟨w.heap.size + 1 + 1, 2, none⟩ = some (.int .u64 y2) ∧ w26.cell? ⟨w.heap.size + 1 + 1, 3, none⟩ = some (.int .u64 y3) := ⟨X_26.out.c0, X_26.out.c1, X_26.out.c2, X_26.out.c3, Y_26.out.c0, Y_26.out.c1, Y_26.out.c2, Y_26.out.c3⟩))
      | (go_at_call 19; have gg := G_24; clear gg; (refine (CNm.out _ _ _ A_24.out N_24.out).mono ?_); (rintro e w25 ⟨v25, rfl, hn25, g25⟩; obtain ⟨ja, jc, jd, rfl⟩ := hn25.shape; have B_25 : Hid (Num w25 (.slice ja jc jd) vT) := hn25; have M_25 : Hid (Blk w25 w.heap.size m0 m1 m2 m3) := M_24.out.below g25; have X_25 : Hid (Blk w25 (w.heap.size + 1) x0 x1 x2 x3) := X_24.out.below g25; have Y_25 : Hid (Blk w25 (w.heap.size + 1 + 1) y0 y1 y2 y3) := Y_24.out.below g25; have R_25 : Hid (Rg w25 (w2.heap.size + 1) m) := R_24.out.below g25; have N_25 : Hid (Num w25 (.slice na nc nd) m) := N_24.out.below g25; have U_25 : Hid (Num w25 (.slice ua uc ud) vU) := U_24.out.below g25; have V_25 : Hid (Num w25 (.slice va vc vd) vV) := V_24.out.below g25; have G_25 : Hid (Below w.heap.size w w25) := G_24.out.trans (g25.mono G_24.out.size); clear M_24 X_24 Y_24 R_24 N_24 U_24 V_24 A_24 G_24 g25; clear hn25; clear K; have K : w25.cell? ⟨w.heap.size + 1, 0, none⟩ = some (.int .u64 x0) ∧ w25.cell? ⟨w.heap.size + 1, 1, none⟩ = some (.int .u64 x1) ∧ w25.cell? ⟨w.heap.size + 1, 2, none⟩ = some (.int .u64 x2) ∧ w25.cell? ⟨w.heap.size + 1, 3, none⟩ = some (.int .u64 x3) ∧ w25.cell? ⟨w.heap.size + 1 + 1, 0, none⟩ = some (.int .u64 y0) ∧ w25.cell? ⟨w.heap.size + 1 + 1, 1, none⟩ = some (.int .u64 y1) ∧ w25.cell? ⟨w.heap.size + 1 + 1, 2, none⟩ = some (.int .u64 y2) ∧ w25.cell? ⟨w.heap.size + 1 + 1, 3, none⟩ = some (.int .u64 y3) := ⟨X_25.out.c0, X_25.out.c1, X_25.out.c2, X_25.out.c3, Y_25.out.c0, Y_25.out.c1, Y_25.out.c2, Y_25.out.c3⟩))
      | (go_at_call 26; have gg := G_23; clear gg; (refine (CM.out _ _ _ U_23.out V_23.out).mono ?_); (rintro e w24 ⟨v24, rfl, hn24, g24⟩; obtain ⟨ia, ic, id, rfl⟩ := hn24.shape; have A_24 : Hid (Num w24 (.slice ia ic id) vM) := hn24; have M_24 : Hid (Blk w24 w.heap.size m0 m1 m2 m3) := M_23.out.below g24; have X_24 : Hid (Blk w24 (w.heap.size + 1) x0 x1 x2 x3) := X_23.out.below g24; have Y_24 : Hid (Blk w24 (w.heap.size + 1 + 1) y0 y1 y2 y3) := Y_23.out.below g24; have R_24 : Hid (Rg w24 (w2.heap.size + 1) m) := R_23.out.below g24; have N_24 : Hid (Num w24 (.slice na nc nd) m) := N_23.out.below g24; have U_24 : Hid (Num w24 (.slice ua uc ud) vU) := U_23.out.below g24; have V_24 : Hid (Num w24 (.slice va vc vd) vV) := V_23.out.below g24; have G_24 : Hid (Below w.heap.size w w24) := G_23.out.trans (g24.mono G_23.out.size); clear M_23 X_23 Y_23 R_23 N_23 U_23 V_23 G_23 g24; clear hn24; clear K; have K : w24.cell? ⟨w.heap.size + 1, 0, none⟩ = some (.int .u64 x0) ∧ w24.cell? ⟨w.heap.size + 1, 1, none⟩ = some (.int .u64 x1) ∧ w24.cell? ⟨w.heap.size + 1, 2, none⟩ = some (.int .u64 x2) ∧ w24.cell? ⟨w.heap.size + 1, 3, none⟩ = some (.int .u64 x3) ∧ w24.cell? ⟨w.heap.size + 1 + 1, 0, none⟩ = some (.int .u64 y0) ∧ w24.cell? ⟨w.heap.size + 1 + 1, 1, none⟩ = some (.int .u64 y1) ∧ w24.cell? ⟨w.heap.size + 1 + 1, 2, none⟩ = some (.int .u64 y2) ∧ w24.cell? ⟨w.heap.size + 1 + 1, 3, none⟩ = some (.int .u64 y3) := ⟨X_24.out.c0, X_24.out.c1, X_24.out.c2, X_24.out.c3, Y_24.out.c0, Y_24.out.c1, Y_24.out.c2, Y_24.out.c3⟩))
      | (go_at_call 25; have gg := G_22; clear gg; (refine (CTi.out _ _ R_22.out).mono ?_); (rintro e w23 ⟨rfl, g23⟩; have M_23 : Hid (Blk w23 w.heap.size m0 m1 m2 m3) := M_22.out.below g23; have X_23 : Hid (Blk w23 (w.heap.size + 1) x0 x1 x2 x3) := X_22.out.below g23; have Y_23 : Hid (Blk w23 (w.heap.size + 1 + 1) y0 y1 y2 y3) := Y_22.out.below g23; have R_23 : Hid (Rg w23 (w2.heap.size + 1) m) := R_22.out.below g23; have N_23 : Hid (Num w23 (.slice na nc nd) m) := N_22.out.below g23; have U_23 : Hid (Num w23 (.slice ua uc ud) vU) := U_22.out.below g23; have V_23 : Hid (Num w23 (.slice va vc vd) vV) := V_22.out.below g23; have G_23 : Hid (Below w.heap.size w w23) := G_22.out.trans (g23.mono G_22.out.size); clear M_22 X_22 Y_22 R_22 N_22 U_22 V_22 G_22 g23; clear K; have K : w23.cell? ⟨w.heap.size + 1, 0, none⟩ = some (.int .u64 x0) ∧ w23.cell? ⟨w.heap.size + 1, 1, none⟩ = some (.int .u64 x1) ∧ w23.cell? ⟨w.heap.size + 1, 2, none⟩ = some (.int .u64 x2) ∧ w23.cell? ⟨w.heap.size + 1, 3, none⟩ = some (.int .u64 x3) ∧ w23.cell? ⟨w.heap.size + 1 + 1, 0, none⟩ = some (.int .u64 y0) ∧ w23.cell? ⟨w.heap.size + 1 + 1, 1, none⟩ = some (.int .u64 y1) ∧ w23.cell? ⟨w.heap.size + 1 + 1, 2, none⟩ = some (.int .u64 y2) ∧ w23.cell? ⟨w.heap.size + 1 + 1, 3, none⟩ = some (.int .u64 y3) := ⟨X_23.out.c0, X_23.out.c1, X_23.out.c2, X_23.out.c3, Y_23.out.c0, Y_23.out.c1, Y_23.out.c2, Y_23.out.c3⟩))
      | (go_at_call 13; have gg := G_21; clear gg; (refine (CFq.out _ _ B_21.out).mono ?_); (rintro e w22 ⟨rfl, g22⟩; have M_22 : Hid (Blk w22 w.heap.size m0 m1 m2 m3) := M_21.out.below g22; have X_22 : Hid (Blk w22 (w.heap.size + 1) x0 x1 x2 x3) := X_21.out.below g22; have Y_22 : Hid (Blk w22 (w.heap.size + 1 + 1) y0 y1 y2 y3) := Y_21.out.below g22; have R_22 : Hid (Rg w22 (w2.heap.size + 1) m) := R_21.out.below g22; have N_22 : Hid (Num w22 (.slice na nc nd) m) := N_21.out.below g22; have U_22 : Hid (Num w22 (.slice ua uc ud) vU) := U_21.out.below g22; have V_22 : Hid (Num w22 (.slice va vc vd) vV) := V_21.out.below g22; have G_22 : Hid (Below w.heap.size w w22) := G_21.out.trans (g22.mono G_21.out.size); clear M_21 X_21 Y_21 R_21 N_21 U_21 V_21 B_21 G_21 g22; clear K; have K : w22.cell? ⟨w.heap.size + 1, 0, none⟩ = some (.int .u64 x0) ∧ w22.cell? ⟨w.heap.size + 1, 1, none⟩ = some (.int .u64 x1) ∧ w22.cell? ⟨w.heap.size + 1, 2, none⟩ = some (.int .u64 x2) ∧ w22.cell? ⟨w.heap.size + 1, 3, none⟩ = some (.int .u64 x3) ∧ w22.cell? ⟨w.heap.size + 1 + 1, 0, none⟩ = some (.int .u64 y0) ∧ w22.cell? ⟨w.heap.size + 1 + 1, 1, none⟩ = some (.int .u64 y1) ∧ w22.cell? ⟨w.heap.size + 1 + 1, 2, none⟩ = some (.int .u64 y2) ∧ w22.cell? ⟨w.heap.size + 1 + 1, 3, none⟩ = some (.int .u64 y3) := ⟨X_22.out.c0, X_22.out.c1, X_22.out.c2, X_22.out.c3, Y_22.out.c0, Y_22.out.c1, Y_22.out.c2, Y_22.out.c3⟩))
      | (go_at_call 19; have gg := G_20; clear gg; (refine (CNs.out _ _ _ A_20.out N_20.out).mono ?_); (rintro e w21 ⟨v21, rfl, hn21, g21⟩; obtain ⟨ha, hc, hd, rfl⟩ := hn21.shape; have B_21 : Hid (Num w21 (.slice ha hc hd) vQ) := hn21; have M_21 : Hid (Blk w21 w.heap.size m0 m1 m2 m3) := M_20.out.below g21; have X_21 : Hid (Blk w21 (w.heap.size + 1) x0 x1 x2 x3) := X_20.out.below g21; have Y_21 : Hid (Blk w21 (w.heap.size + 1 + 1) y0 y1 y2 y3) := Y_20.out.below g21; have R_21 : Hid (Rg w21 (w2.heap.size + 1) m) := R_20.out.below g21; have N_21 : Hid (Num w21 (.slice na nc nd) m) := N_20.out.below g21; have U_21 : Hid (Num w21 (.slice ua uc ud) vU) := U_20.out.below g21; have V_21 : Hid (Num w21 (.slice va vc vd) vV) := V_20.out.below g21; have G_21 : Hid (Below w.heap.size w w21) := G_20.out.trans (g21.mono G_20.out.size); clear M_20 X_20 Y_20 R_20 N_20 U_20 V_20 A_20 G_20 g21; clear hn21; clear K; have K : w21.cell? ⟨w.heap.size + 1, 0, none⟩ = some (.int .u64 x0) ∧ w21.cell? ⟨w.heap.size + 1, 1, none⟩ = some (.int .u64 x1) ∧ w21.cell? ⟨w.heap.size + 1, 2, none⟩ = some (.int .u64 x2) ∧ w21.cell? ⟨w.heap.size + 1, 3, none⟩ = some (.int .u64 x3) ∧ w21.cell? ⟨w.heap.size + 1 + 1, 0, none⟩ = some (.int .u64 y0) ∧ w21.cell? ⟨w.heap.size + 1 + 1, 1, none⟩ = some (.int .u64 y1) ∧ w21.cell? ⟨w.heap.size + 1 + 1, 2, none⟩ = some (.int .u64 y2) ∧ w21.cell? ⟨w.heap.size + 1 + 1, 3, none⟩ = some (.int .u64 y3) := ⟨X_21.out.c0, X_21.out.c1, X_21.out.c2, X_21.out.c3, Y_21.out.c0, Y_21.out.c1, Y_21.out.c2, Y_21.out.c3⟩))
      | (go_at_call 24; have gg := G_19; clear gg; (refine (CS.out _ _ _ _ U_19.out V_19.out N_19.out).mono ?_); (rintro e w20 ⟨v20, rfl, hn20, g20⟩; obtain ⟨ga, gc, gd, rfl⟩ := hn20.shape; have A_20 : Hid (Num w20 (.slice ga gc gd) vS) := hn20; have M_20 : Hid (Blk w20 w.heap.size m0 m1 m2 m3) := M_19.out.below g20; have X_20 : Hid (Blk w20 (w.heap.size + 1) x0 x1 x2 x3) := X_19.out.below g20; have Y_20 : Hid (Blk w20 (w.heap.size + 1 + 1) y0 y1 y2 y3) := Y_19.out.below g20; have R_20 : Hid (Rg w20 (w2.heap.size + 1) m) := R_19.out.below g20; have N_20 : Hid (Num w20 (.slice na nc nd) m) := N_19.out.below g20; have U_20 : Hid (Num w20 (.slice ua uc ud) vU) := U_19.out.below g20; have V_20 : Hid (Num w20 (.slice va vc vd) vV) := V_19.out.below g20; have G_20 : Hid (Below w.heap.size w w20) := G_19.out.trans (g20.mono G_19.out.size); clear M_19 X_19 Y_19 R_19 N_19 U_19 V_19 G_19 g20; clear hn20; clear K; have K : w20.cell? ⟨w.heap.size + 1, 0, none⟩ = some (.int .u64 x0) ∧ w20.cell? ⟨w.heap.size + 1, 1, none⟩ = some (.int .u64 x1) ∧ w20.cell? ⟨w.heap.size + 1, 2, none⟩ = some (.int .u64 x2) ∧ w20.cell? ⟨w.heap.size + 1, 3, none⟩ = some (.int .u64 x3) ∧ w20.cell? ⟨w.heap.size + 1 + 1, 0, none⟩ = some (.int .u64 y0) ∧ w20.cell? ⟨w.heap.size + 1 + 1, 1, none⟩ = some (.int .u64 y1) ∧ w20.cell? ⟨w.heap.size + 1 + 1, 2, none⟩ = some (.int .u64 y2) ∧ w20.cell? ⟨w.heap.size + 1 + 1, 3, none⟩ = some (.int .u64 y3) := ⟨X_20.out.c0, X_20.out.c1, X_20.out.c2, X_20.out.c3, Y_20.out.c0, Y_20.out.c1, Y_20.out.c2, Y_20.out.c3⟩))
      | (go_at_call 23; have gg := G_18; clear gg; (refine (CMi.out _ _ R_18.out).mono ?_); (rintro e w19 ⟨rfl, g19⟩; have M_19 : Hid (Blk w19 w.heap.size m0 m1 m2 m3) := M_18.out.below g19; have X_19 : Hid (Blk w19 (w.heap.size + 1) x0 x1 x2 x3) := X_18.out.below g19; have Y_19 : Hid (Blk w19 (w.heap.size + 1 + 1) y0 y1 y2 y3) := Y_18.out.below g19; have R_19 : Hid (Rg w19 (w2.heap.size + 1) m) := R_18.out.below g19; have N_19 : Hid (Num w19 (.slice na nc nd) m) := N_18.out.below g19; have U_19 : Hid (Num w19 (.slice ua uc ud) vU) := U_18.out.below g19; have V_19 : Hid (Num w19 (.slice va vc vd) vV) := V_18.out.below g19; have G_19 : Hid (Below w.heap.size w w19) := G_18.out.trans (g19.mono G_18.out.size); clear M_18 X_18 Y_18 R_18 N_18 U_18 V_18 G_18 g19; clear K; have K : w19.cell? ⟨w.heap.size + 1, 0, none⟩ = some (.int .u64 x0) ∧ w19.cell? ⟨w.heap.size + 1, 1, none⟩ = some (.int .u64 x1) ∧ w19.cell? ⟨w.heap.size + 1, 2, none⟩ = some (.int .u64 x2) ∧ w19.cell? ⟨w.heap.size + 1, 3, none⟩ = some (.int .u64 x3) ∧ w19.cell? ⟨w.heap.size + 1 + 1, 0, none⟩ = some (.int .u64 y0) ∧ w19.cell? ⟨w.heap.size + 1 + 1, 1, none⟩ = some (.int .u64 y1) ∧ w19.cell? ⟨w.heap.size + 1 + 1, 2, none⟩ = some (.int .u64 y2) ∧ w19.cell? ⟨w.heap.size + 1 + 1, 3, none⟩ = some (.int .u64 y3) := ⟨X_19.out.c0, X_19.out.c1, X_19.out.c2, X_19.out.c3, Y_19.out.c0, Y_19.out.c1, Y_19.out.c2, Y_19.out.c3⟩))
      | (go_at_call 13; have gg := G_17; clear gg; (refine (CFp.out _ _ B_17.out).mono ?_); (rintro e w18 ⟨rfl, g18⟩; have M_18 : Hid (Blk w18 w.heap.size m0 m1 m2 m3) := M_17.out.below g18; have X_18 : Hid (Blk w18 (w.heap.size + 1) x0 x1 x2 x3) := X_17.out.below g18; have Y_18 : Hid (Blk w18 (w.heap.size + 1 + 1) y0 y1 y2 y3) := Y_17.out.below g18; have R_18 : Hid (Rg w18 (w2.heap.size + 1) m) := R_17.out.below g18; have N_18 : Hid (Num w18 (.slice na nc nd) m) := N_17.out.below g18; have U_18 : Hid (Num w18 (.slice ua uc ud) vU) := U_17.out.below g18; have V_18 : Hid (Num w18 (.slice va vc vd) vV) := V_17.out.below g18; have G_18 : Hid (Below w.heap.size w w18) := G_17.out.trans (g18.mono G_17.out.size); clear M_17 X_17 Y_17 R_17 N_17 U_17 V_17 B_17 G_17 g18; clear K; have K : w18.cell? ⟨w.heap.size + 1, 0, none⟩ = some (.int .u64 x0) ∧ w18.cell? ⟨w.heap.size + 1, 1, none⟩ = some (.int .u64 x1) ∧ w18.cell? ⟨w.heap.size + 1, 2, none⟩ = some (.int .u64 x2) ∧ w18.cell? ⟨w.heap.size + 1, 3, none⟩ = some (.int .u64 x3) ∧ w18.cell? ⟨w.heap.size + 1 + 1, 0, none⟩ = some (.int .u64 y0) ∧ w18.cell? ⟨w.heap.size + 1 + 1, 1, none⟩ = some (.int .u64 y1) ∧ w18.cell? ⟨w.heap.size + 1 + 1, 2, none⟩ = some (.int .u64 y2) ∧ w18.cell? ⟨w.heap.size + 1 + 1, 3, none⟩ = some (.int .u64 y3) := ⟨X_18.out.c0, X_18.out.c1, X_18.out.c2, X_18.out.c3, Y_18.out.c0, Y_18.out.c1, Y_18.out.c2, Y_18.out.c3⟩))
      | (go_at_call 19; have gg := G_16; clear gg; (refine (CNa.out _ _ _ A_16.out N_16.out).mono ?_); (rintro e w17 ⟨v17, rfl, hn17, g17⟩; obtain ⟨fa, fc, fd, rfl⟩ := hn17.shape; have B_17 : Hid (Num w17 (.slice fa fc fd) vP) := hn17; have M_17 : Hid (Blk w17 w.heap.size m0 m1 m2 m3) := M_16.out.below g17; have X_17 : Hid (Blk w17 (w.heap.size + 1) x0 x1 x2 x3) := X_16.out.below g17; have Y_17 : Hid (Blk w17 (w.heap.size + 1 + 1) y0 y1 y2 y3) := Y_16.out.below g17; have R_17 : Hid (Rg w17 (w2.heap.size + 1) m) := R_16.out.below g17; have N_17 : Hid (Num w17 (.slice na nc nd) m) := N_16.out.below g17; have U_17 : Hid (Num w17 (.slice ua uc ud) vU) := U_16.out.below g17; have V_17 : Hid (Num w17 (.slice va vc vd) vV) := V_16.out.below g17; have G_17 : Hid (Below w.heap.size w w17) := G_16.out.trans (g17.mono G_16.out.size); clear M_16 X_16 Y_16 R_16 N_16 U_16 V_16 A_16 G_16 g17; clear hn17; clear K; have K : w17.cell? ⟨w.heap.size + 1, 0, none⟩ = some (.int .u64 x0) ∧ w17.cell? ⟨w.heap.size + 1, 1, none⟩ = some (.int .u64 x1) ∧ w17.cell? ⟨w.heap.size + 1, 2, none⟩ = some (.int .u64 x2) ∧ w17.cell? ⟨w.heap.size + 1, 3, none⟩ = some (.int .u64 x3) ∧ w17.cell? ⟨w.heap.size + 1 + 1, 0, none⟩ = some (.int .u64 y0) ∧ w17.cell? ⟨w.heap.size + 1 + 1, 1, none⟩ = some (.int .u64 y1) ∧ w17.cell? ⟨w.heap.size + 1 + 1, 2, none⟩ = some (.int .u64 y2) ∧ w17.cell? ⟨w.heap.size + 1 + 1, 3, none⟩ = some (.int .u64 y3) := ⟨X_17.out.c0, X_17.out.c1, X_17.out.c2, X_17.out.c3, Y_17.out.c0, Y_17.out.c1, Y_17.out.c2, Y_17.out.c3⟩))
      | (go_at_call 22; have gg := G_15; clear gg; (refine (CA.out _ _ _ U_15.out V_15.out).mono ?_); (rintro e w16 ⟨v16, rfl, hn16, g16⟩; obtain ⟨ea, ec, ed, rfl⟩ := hn16.shape; have A_16 : Hid (Num w16 (.slice ea ec ed) vA) := hn16; have M_16 : Hid (Blk w16 w.heap.size m0 m1 m2 m3) := M_15.out.below g16; have X_16 : Hid (Blk w16 (w.heap.size + 1) x0 x1 x2 x3) := X_15.out.below g16; have Y_16 : Hid (Blk w16 (w.heap.size + 1 + 1) y0 y1 y2 y3) := Y_15.out.below g16; have R_16 : Hid (Rg w16 (w2.heap.size + 1) m) := R_15.out.below g16; have N_16 : Hid (Num w16 (.slice na nc nd) m) := N_15.out.below g16; have U_16 : Hid (Num w16 (.slice ua uc ud) vU) := U_15.out.below g16; have V_16 : Hid (Num w16 (.slice va vc vd) vV) := V_15.out.below g16; have G_16 : Hid (Below w.heap.size w w16) := G_15.out.trans (g16.mono G_15.out.size); clear M_15 X_15 Y_15 R_15 N_15 U_15 V_15 G_15 g16; clear hn16; clear K; have K : w16.cell? ⟨w.heap.size + 1, 0, none⟩ = some (.int .u64 x0) ∧ w16.cell? ⟨w.heap.size + 1, 1, none⟩ = some (.int .u64 x1) ∧ w16.cell? ⟨w.heap.size + 1, 2, none⟩ = some (.int .u64 x2) ∧ w16.cell? ⟨w.heap.size + 1, 3, none⟩ = some (.int .u64 x3) ∧ w16.cell? ⟨w.heap.size + 1 + 1, 0, none⟩ = some (.int .u64 y0) ∧ w16.cell? ⟨w.heap.size + 1 + 1, 1, none⟩ = some (.int .u64 y1) ∧ w16.cell? ⟨w.heap.size + 1 + 1, 2, none⟩ = some (.int .u64 y2) ∧ w16.cell? ⟨w.heap.size + 1 + 1, 3, none⟩ = some (.int .u64 y3) := ⟨X_16.out.c0, X_16.out.c1, X_16.out.c2, X_16.out.c3, Y_16.out.c0, Y_16.out.c1, Y_16.out.c2, Y_16.out.c3⟩))
      | (go_at_call 21; have gg := G_14; clear gg; (refine (CPl.out _ _ R_14.out).mono ?_); (rintro e w15 ⟨rfl, g15⟩; have M_15 : Hid (Blk w15 w.heap.size m0 m1 m2 m3) := M_14.out.below g15; have X_15 : Hid (Blk w15 (w.heap.size + 1) x0 x1 x2 x3) := X_14.out.below g15; have Y_15 : Hid (Blk w15 (w.heap.size + 1 + 1) y0 y1 y2 y3) := Y_14.out.below g15; have R_15 : Hid (Rg w15 (w2.heap.size + 1) m) := R_14.out.below g15; have N_15 : Hid (Num w15 (.slice na nc nd) m) := N_14.out.below g15; have U_15 : Hid (Num w15 (.slice ua uc ud) vU) := U_14.out.below g15; have V_15 : Hid (Num w15 (.slice va vc vd) vV) := V_14.out.below g15; have G_15 : Hid (Below w.heap.size w w15) := G_14.out.trans (g15.mono G_14.out.size); clear M_14 X_14 Y_14 R_14 N_14 U_14 V_14 G_14 g15; clear K; have K : w15.cell? ⟨w.heap.size + 1, 0, none⟩ = some (.int .u64 x0) ∧ w15.cell? ⟨w.heap.size + 1, 1, none⟩ = some (.int .u64 x1) ∧ w15.cell? ⟨w.heap.size + 1, 2, none⟩ = some (.int .u64 x2) ∧ w15.cell? ⟨w.heap.size + 1, 3, none⟩ = some (.int .u64 x3) ∧ w15.cell? ⟨w.heap.size + 1 + 1, 0, none⟩ = some (.int .u64 y0) ∧ w15.cell? ⟨w.heap.size + 1 + 1, 1, none⟩ = some (.int .u64 y1) ∧ w15.cell? ⟨w.heap.size + 1 + 1, 2, none⟩ = some (.int .u64 y2) ∧ w15.cell? ⟨w.heap.size + 1 + 1, 3, none⟩ = some (.int .u64 y3) := ⟨X_15.out.c0, X_15.out.c1, X_15.out.c2, X_15.out.c3, Y_15.out.c0, Y_15.out.c1, Y_15.out.c2, Y_15.out.c3⟩))
      | (go_at_call 13; have gg := G_13; clear gg; (refine (CFo.out _ _ U_13.out).mono ?_); (rintro e w14 ⟨rfl, g14⟩; have M_14 : Hid (Blk w14 w.heap.size m0 m1 m2 m3) := M_13.out.below g14; have X_14 : Hid (Blk w14 (w.heap.size + 1) x0 x1 x2 x3) := X_13.out.below g14; have Y_14 : Hid (Blk w14 (w.heap.size + 1 + 1) y0 y1 y2 y3) := Y_13.out.below g14; have R_14 : Hid (Rg w14 (w2.heap.size + 1) m) := R_13.out.below g14; have N_14 : Hid (Num w14 (.slice na nc nd) m) := N_13.out.below g14; have U_14 : Hid (Num w14 (.slice ua uc ud) vU) := U_13.out.below g14; have V_14 : Hid (Num w14 (.slice va vc vd) vV) := V_13.out.below g14; have G_14 : Hid (Below w.heap.size w w14) := G_13.out.trans (g14.mono G_13.out.size); clear M_13 X_13 Y_13 R_13 N_13 U_13 V_13 G_13 g14; clear K; have K : w14.cell? ⟨w.heap.size + 1, 0, none⟩ = some (.int .u64 x0) ∧ w14.cell? ⟨w.heap.size + 1, 1, none⟩ = some (.int .u64 x1) ∧ w14.cell? ⟨w.heap.size + 1, 2, none⟩ = some (.int .u64 x2) ∧ w14.cell? ⟨w.heap.size + 1, 3, none⟩ = some (.int .u64 x3) ∧ w14.cell? ⟨w.heap.size + 1 + 1, 0, none⟩ = some (.int .u64 y0) ∧ w14.cell? ⟨w.heap.size + 1 + 1, 1, none⟩ = some (.int .u64 y1) ∧ w14.cell? ⟨w.heap.size + 1 + 1, 2, none⟩ = some (.int .u64 y2) ∧ w14.cell? ⟨w.heap.size + 1 + 1, 3, none⟩ = some (.int .u64 y3) := ⟨X_14.out.c0, X_14.out.c1, X_14.out.c2, X_14.out.c3, Y_14.out.c0, Y_14.out.c1, Y_14.out.c2, Y_14.out.c3⟩))
      | (go_at_call 20; have gg := G_12; clear gg; (refine (COut.out _ _ R_12.out).mono ?_); (rintro e w13 ⟨rfl, g13⟩; have M_13 : Hid (Blk w13 w.heap.size m0 m1 m2 m3) := M_12.out.below g13; have X_13 : Hid (Blk w13 (w.heap.size + 1) x0 x1 x2 x3) := X_12.out.below g13; have Y_13 : Hid (Blk w13 (w.heap.size + 1 + 1) y0 y1 y2 y3) := Y_12.out.below g13; have R_13 : Hid (Rg w13 (w2.heap.size + 1) m) := R_12.out.below g13; have N_13 : Hid (Num w13 (.slice na nc nd) m) := N_12.out.below g13; have U_13 : Hid (Num w13 (.slice ua uc ud) vU) := U_12.out.below g13; have V_13 : Hid (Num w13 (.slice va vc vd) vV) := V_12.out.below g13; have G_13 : Hid (Below w.heap.size w w13) := G_12.out.trans (g13.mono G_12.out.size); clear M_12 X_12 Y_12 R_12 N_12 U_12 V_12 G_12 g13; clear K; have K : w13.cell? ⟨w.heap.size + 1, 0, none⟩ = some (.int .u64 x0) ∧ w13.cell? ⟨w.heap.size + 1, 1, none⟩ = some (.int .u64 x1) ∧ w13.cell? ⟨w.heap.size + 1, 2, none⟩ = some (.int .u64 x2) ∧ w13.cell? ⟨w.heap.size + 1, 3, none⟩ = some (.int .u64 x3) ∧ w13.cell? ⟨w.heap.size + 1 + 1, 0, none⟩ = some (.int .u64 y0) ∧ w13.cell? ⟨w.heap.size + 1 + 1, 1, none⟩ = some (.int .u64 y1) ∧ w13.cell? ⟨w.heap.size + 1 + 1, 2, none⟩ = some (.int .u64 y2) ∧ w13.cell? ⟨w.heap.size + 1 + 1, 3, none⟩ = some (.int .u64 y3) := ⟨X_13.out.c0, X_13.out.c1, X_13.out.c2, X_13.out.c3, Y_13.out.c0, Y_13.out.c1, Y_13.out.c2, Y_13.out.c3⟩))
      | (go_at_call 13; have gg := G_11; clear gg; (refine (CFn.out _ _ B_11.out).mono ?_); (rintro e w12 ⟨rfl, g12⟩; have M_12 : Hid (Blk w12 w.heap.size m0 m1 m2 m3) := M_11.out.below g12; have X_12 : Hid (Blk w12 (w.heap.size + 1) x0 x1 x2 x3) := X_11.out.below g12; have Y_12 : Hid (Blk w12 (w.heap.size + 1 + 1) y0 y1 y2 y3) := Y_11.out.below g12; have R_12 : Hid (Rg w12 (w2.heap.size + 1) m) := R_11.out.below g12; have N_12 : Hid (Num w12 (.slice na nc nd) m) := N_11.out.below g12; have U_12 : Hid (Num w12 (.slice ua uc ud) vU) := U_11.out.below g12; have V_12 : Hid (Num w12 (.slice va vc vd) vV) := V_11.out.below g12; have G_12 : Hid (Below w.heap.size w w12) := G_11.out.trans (g12.mono G_11.out.size); clear M_11 X_11 Y_11 R_11 N_11 U_11 V_11 B_11 G_11 g12; clear K; have K : w12.cell? ⟨w.heap.size + 1, 0, none⟩ = some (.int .u64 x0) ∧ w12.cell? ⟨w.heap.size + 1, 1, none⟩ = some (.int .u64 x1) ∧ w12.cell? ⟨w.heap.size + 1, 2, none⟩ = some (.int .u64 x2) ∧ w12.cell? ⟨w.heap.size + 1, 3, none⟩ = some (.int .u64 x3) ∧ w12.cell? ⟨w.heap.size + 1 + 1, 0, none⟩ = some (.int .u64 y0) ∧ w12.cell? ⟨w.heap.size + 1 + 1, 1, none⟩ = some (.int .u64 y1) ∧ w12.cell? ⟨w.heap.size + 1 + 1, 2, none⟩ = some (.int .u64 y2) ∧ w12.cell? ⟨w.heap.size + 1 + 1, 3, none⟩ = some (.int .u64 y3) := ⟨X_12.out.c0, X_12.out.c1, X_12.out.c2, X_12.out.c3, Y_12.out.c0, Y_12.out.c1, Y_12.out.c2, Y_12.out.c3⟩))
      | (go_at_call 19; have gg := G_10; clear gg; (refine (CNx.out _ _ _ A_10.out N_10.out).mono ?_); (rintro e w11 ⟨v11, rfl, hn11, g11⟩; obtain ⟨da, dc, dd, rfl⟩ := hn11.shape; have B_11 : Hid (Num w11 (.slice da dc dd) vN) := hn11; have M_11 : Hid (Blk w11 w.heap.size m0 m1 m2 m3) := M_10.out.below g11; have X_11 : Hid (Blk w11 (w.heap.size + 1) x0 x1 x2 x3) := X_10.out.below g11; have Y_11 : Hid (Blk w11 (w.heap.size + 1 + 1) y0 y1 y2 y3) := Y_10.out.below g11; have R_11 : Hid (Rg w11 (w2.heap.size + 1) m) := R_10.out.below g11; have N_11 : Hid (Num w11 (.slice na nc nd) m) := N_10.out.below g11; have U_11 : Hid (Num w11 (.slice ua uc ud) vU) := U_10.out.below g11; have V_11 : Hid (Num w11 (.slice va vc vd) vV) := V_10.out.below g11; have G_11 : Hid (Below w.heap.size w w11) := G_10.out.trans (g11.mono G_10.out.size); clear M_10 X_10 Y_10 R_10 N_10 U_10 V_10 A_10 G_10 g11; clear hn11; clear K; have K : w11.cell? ⟨w.heap.size + 1, 0, none⟩ = some (.int .u64 x0) ∧ w11.cell? ⟨w.heap.size + 1, 1, none⟩ = some (.int .u64 x1) ∧ w11.cell? ⟨w.heap.size + 1, 2, none⟩ = some (.int .u64 x2) ∧ w11.cell? ⟨w.heap.size + 1, 3, none⟩ = some (.int .u64 x3) ∧ w11.cell? ⟨w.heap.size + 1 + 1, 0, none⟩ = some (.int .u64 y0) ∧ w11.cell? ⟨w.heap.size + 1 + 1, 1, none⟩ = some (.int .u64 y1) ∧ w11.cell? ⟨w.heap.size + 1 + 1, 2, none⟩ = some (.int .u64 y2) ∧ w11.cell? ⟨w.heap.size + 1 + 1, 3, none⟩ = some (.int .u64 y3) := ⟨X_11.out.c0, X_11.out.c1, X_11.out.c2, X_11.out.c3, Y_11.out.c0, Y_11.out.c1, Y_11.out.c2, Y_11.out.c3⟩))
      | (go_at_call 10; have gg := G_9; clear gg; (refine (COx.out _).mono ?_); (rintro e w10 ⟨v10, rfl, hn10, g10⟩; obtain ⟨ca, cc, cd, rfl⟩ := hn10.shape; have A_10 : Hid (Num w10 (.slice ca cc cd) x) := hn10; have M_10 : Hid (Blk w10 w.heap.size m0 m1 m2 m3) := M_9.out.below g10; have X_10 : Hid (Blk w10 (w.heap.size + 1) x0 x1 x2 x3) := X_9.out.below g10; have Y_10 : Hid (Blk w10 (w.heap.size + 1 + 1) y0 y1 y2 y3) := Y_9.out.below g10; have R_10 : Hid (Rg w10 (w2.heap.size + 1) m) := R_9.out.below g10; have N_10 : Hid (Num w10 (.slice na nc nd) m) := N_9.out.below g10; have U_10 : Hid (Num w10 (.slice ua uc ud) vU) := U_9.out.below g10; have V_10 : Hid (Num w10 (.slice va vc vd) vV) := V_9.out.below g10; have G_10 : Hid (Below w.heap.size w w10) := G_9.out.trans (g10.mono G_9.out.size); clear M_9 X_9 Y_9 R_9 N_9 U_9 V_9 G_9 g10; clear hn10; clear K; have K : w10.cell? ⟨w.heap.size + 1, 0, none⟩ = some (.int .u64 x0) ∧ w10.cell? ⟨w.heap.size + 1, 1, none⟩ = some (.int .u64 x1) ∧ w10.cell? ⟨w.heap.size + 1, 2, none⟩ = some (.int .u64 x2) ∧ w10.cell? ⟨w.heap.size + 1, 3, none⟩ = some (.int .u64 x3) ∧ w10.cell? ⟨w.heap.size + 1 + 1, 0, none⟩ = some (.int .u64 y0) ∧ w10.cell? ⟨w.heap.size + 1 + 1, 1, none⟩ = some (.int .u64 y1) ∧ w10.cell? ⟨w.heap.size + 1 + 1, 2, none⟩ = some (.int .u64 y2) ∧ w10.cell? ⟨w.heap.size + 1 + 1, 3, none⟩ = some (.int .u64 y3) := ⟨X_10.out.c0, X_10.out.c1, X_10.out.c2, X_10.out.c3, Y_10.out.c0, Y_10.out.c1, Y_10.out.c2, Y_10.out.c3⟩))
      | (go_at_call 18; have gg := G_8; clear gg; (refine (CIn.out _ _ (R_8.out.below D_8.out)).mono ?_); (rintro e w9 ⟨rfl, g9⟩; have M_9 : Hid (Blk w9 w.heap.size m0 m1 m2 m3) := (M_8.out.below D_8.out).below g9; have X_9 : Hid (Blk w9 (w.heap.size + 1) x0 x1 x2 x3) := (X_8.out.below D_8.out).below g9; have Y_9 : Hid (Blk w9 (w.heap.size + 1 + 1) y0 y1 y2 y3) := (Y_8.out.below D_8.out).below g9; have R_9 : Hid (Rg w9 (w2.heap.size + 1) m) := (R_8.out.below D_8.out).below g9; have N_9 : Hid (Num w9 (.slice na nc nd) m) := (N_8.out.below D_8.out).below g9; have U_9 : Hid (Num w9 (.slice ua uc ud) vU) := (U_8.out.below D_8.out).below g9; have V_9 : Hid (Num w9 (.slice va vc vd) vV) := (V_8.out.below D_8.out).below g9; have G_9 : Hid (Below w.heap.size w w9) := (G_8.out.trans (D_8.out.mono G_8.out.size)).trans (g9.mono G_8.out.size); clear M_8 X_8 Y_8 R_8 N_8 U_8 V_8 G_8 g9 D_8; clear K; have K : w9.cell? ⟨w.heap.size + 1, 0, none⟩ = some (.int .u64 x0) ∧ w9.cell? ⟨w.heap.size + 1, 1, none⟩ = some (.int .u64 x1) ∧ w9.cell? ⟨w.heap.size + 1, 2, none⟩ = some (.int .u64 x2) ∧ w9.cell? ⟨w.heap.size + 1, 3, none⟩ = some (.int .u64 x3) ∧ w9.cell? ⟨w.heap.size + 1 + 1, 0, none⟩ = some (.int .u64 y0) ∧ w9.cell? ⟨w.heap.size + 1 + 1, 1, none⟩ = some (.int .u64 y1) ∧ w9.cell? ⟨w.heap.size + 1 + 1, 2, none⟩ = some (.int .u64 y2) ∧ w9.cell? ⟨w.heap.size + 1 + 1, 3, none⟩ = some (.int .u64 y3) := ⟨X_9.out.c0, X_9.out.c1, X_9.out.c2, X_9.out.c3, Y_9.out.c0, Y_9.out.c1, Y_9.out.c2, Y_9.out.c3⟩)))
  clear K
  go_wp2_with fail
  go_ret
  exact ⟨rfl, G_26.out⟩

theorem rnum_any (m x y : Nat) (hm : m < M4) (hx : x < M4) (hy : y < M4)  (w : World) :
    Calls Try.prog 4 #[four m, four x, four y] w fun e w' => e = .returned (.bool true) ∧ Below w.heap.size w w' := by
  by_cases h : m % 2 = 0 ∨ m = 1
  · exact rnum_no m x y hm hx hy h w
  · exact rnum_yes m x y hm hx hy (by omega) (by omega) w

end Go.Proofs.Ytkaekgjpjnnjpaa
