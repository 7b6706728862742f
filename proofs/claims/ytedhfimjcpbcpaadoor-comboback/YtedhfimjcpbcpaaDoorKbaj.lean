/-
  The contract of ring's mul (Montgomery's product): for a modulus in memory and two numbers below 2^256, one of them below the modulus, it returns their product by 2^256, modulo m, and changes no memory that was there. Conditions: as the theorem says.
-/
import Derived.Deep.QuietTactic
import Derived.BigQuiet
import Derived.Test.YtedhfimjcpbcpaaDoorKbai
namespace Go.Proofs.YtedhfimjcpbcpaaDoor
open Go.RowKit
set_option linter.unusedVariables false

theorem row_sum (B a0 a1 a2 a3 w : Int) (x : Int) (h : x = a0 + B * a1 + (B * B) * a2 + (B * B * B) * a3) : x * w = a0 * w + B * (a1 * w) + (B * B) * (a2 * w) + (B * B * B) * (a3 * w) := by
  rw [h, Int.add_mul, Int.add_mul, Int.add_mul, Int.mul_assoc, Int.mul_assoc (B * B), Int.mul_assoc (B * B * B)]

theorem round_sum (t0 t1 t2 t3 o x0 x1 x2 x3 y0 y1 y2 y3 u0 c0 u1 c1 u2 c2 u3 c3 v top d0 n0 d1 n1 d2 n2 d3 n3 cc : Int)
    (e0 : t0 + x0 + 0 = u0 + 18446744073709551616 * c0) (e1 : t1 + x1 + c0 = u1 + 18446744073709551616 * c1) (e2 : t2 + x2 + c1 = u2 + 18446744073709551616 * c2) (e3 : t3 + x3 + c2 = u3 + 18446744073709551616 * c3)
    (e4 : o + c3 + 0 = v + 18446744073709551616 * top) (f0 : u0 + y0 + 0 = 0 + 18446744073709551616 * d0) (f1 : u1 + y1 + d0 = n0 + 18446744073709551616 * d1) (f2 : u2 + y2 + d1 = n1 + 18446744073709551616 * d2) (f3 : u3 + y3 + d2 = n2 + 18446744073709551616 * d3)
    (f4 : v + d3 + 0 = n3 + 18446744073709551616 * cc) (T T' X Y : Int)
    (hT : T = t0 + 18446744073709551616 * t1 + 340282366920938463463374607431768211456 * t2 + 6277101735386680763835789423207666416102355444464034512896 * t3 + 115792089237316195423570985008687907853269984665640564039457584007913129639936 * o)
    (hT' : T' = n0 + 18446744073709551616 * n1 + 340282366920938463463374607431768211456 * n2 + 6277101735386680763835789423207666416102355444464034512896 * n3 + 115792089237316195423570985008687907853269984665640564039457584007913129639936 * (top + cc))
    (hX : X = x0 + 18446744073709551616 * x1 + 340282366920938463463374607431768211456 * x2 + 6277101735386680763835789423207666416102355444464034512896 * x3)
    (hY : Y = y0 + 18446744073709551616 * y1 + 340282366920938463463374607431768211456 * y2 + 6277101735386680763835789423207666416102355444464034512896 * y3) : T' * 18446744073709551616 = T + X + Y := by
  omega

/-- One round of the product: what its calls answer, and what is gathered behind it. -/
theorem mont_round (a m f T : Nat) (a0 a1 a2 a3 m0 m1 m2 m3 u t0 t1 t2 t3 o : Int) (ha0 : Wd a0) (ha1 : Wd a1) (ha2 : Wd a2) (ha3 : Wd a3) (hm0 : Wd m0) (hm1 : Wd m1) (hm2 : Wd m2) (hm3 : Wd m3)
    (hu : Wd u) (ht0 : Wd t0) (ht1 : Wd t1) (ht2 : Wd t2) (ht3 : Wd t3) (ho : 0 ≤ o ∧ o ≤ 2)
    (ea : (a : Int) = a0 + 18446744073709551616 * a1 + 340282366920938463463374607431768211456 * a2 + 6277101735386680763835789423207666416102355444464034512896 * a3)
    (em : (m : Int) = m0 + 18446744073709551616 * m1 + 340282366920938463463374607431768211456 * m2 + 6277101735386680763835789423207666416102355444464034512896 * m3)
    (hf : m0.toNat * f % 18446744073709551616 = 18446744073709551615) (hT : T < a + m)
    (eT : (T : Int) = t0 + 18446744073709551616 * t1 + 340282366920938463463374607431768211456 * t2 + 6277101735386680763835789423207666416102355444464034512896 * t3 + 115792089237316195423570985008687907853269984665640564039457584007913129639936 * o) :
    ∃ (u0 c0 u1 c1 u2 c2 u3 c3 v top ti d0 n0 d1 n1 d2 n2 d3 n3 cc o' : Int) (T' : Nat),
      (Hid (∀ w : World, Calls Tryd.prog 103 #[.int .u64 t0, .int .u64 a0, .int .u64 u, .int .u64 0] w fun e w' => e = .returned (.tuple #[.int .u64 u0, .int .u64 c0]) ∧ w' = w) ∧
       Hid (∀ w : World, Calls Tryd.prog 103 #[.int .u64 t1, .int .u64 a1, .int .u64 u, .int .u64 c0] w fun e w' => e = .returned (.tuple #[.int .u64 u1, .int .u64 c1]) ∧ w' = w) ∧
       Hid (∀ w : World, Calls Tryd.prog 103 #[.int .u64 t2, .int .u64 a2, .int .u64 u, .int .u64 c1] w fun e w' => e = .returned (.tuple #[.int .u64 u2, .int .u64 c2]) ∧ w' = w) ∧
       Hid (∀ w : World, Calls Tryd.prog 103 #[.int .u64 t3, .int .u64 a3, .int .u64 u, .int .u64 c2] w fun e w' => e = .returned (.tuple #[.int .u64 u3, .int .u64 c3]) ∧ w' = w)) ∧
      (∀ w : World, (callFunc 69 #[.int .u64 o, .int .u64 c3, .int .u64 0]).run Tryd.prog w = .ok (.value (.tuple #[.int .u64 v, .int .u64 top])) w) ∧
      IntKind.u64.wrap (u0 * (f : Int)) = ti ∧
      (Hid (∀ w : World, Calls Tryd.prog 103 #[.int .u64 u0, .int .u64 m0, .int .u64 ti, .int .u64 0] w fun e w' => e = .returned (.tuple #[.int .u64 0, .int .u64 d0]) ∧ w' = w) ∧
       Hid (∀ w : World, Calls Tryd.prog 103 #[.int .u64 u1, .int .u64 m1, .int .u64 ti, .int .u64 d0] w fun e w' => e = .returned (.tuple #[.int .u64 n0, .int .u64 d1]) ∧ w' = w) ∧
       Hid (∀ w : World, Calls Tryd.prog 103 #[.int .u64 u2, .int .u64 m2, .int .u64 ti, .int .u64 d1] w fun e w' => e = .returned (.tuple #[.int .u64 n1, .int .u64 d2]) ∧ w' = w) ∧
       Hid (∀ w : World, Calls Tryd.prog 103 #[.int .u64 u3, .int .u64 m3, .int .u64 ti, .int .u64 d2] w fun e w' => e = .returned (.tuple #[.int .u64 n2, .int .u64 d3]) ∧ w' = w)) ∧
      (∀ w : World, (callFunc 69 #[.int .u64 v, .int .u64 d3, .int .u64 0]).run Tryd.prog w = .ok (.value (.tuple #[.int .u64 n3, .int .u64 cc])) w) ∧
      IntKind.u64.wrap (top + cc) = o' ∧
      (Wd n0 ∧ Wd n1 ∧ Wd n2 ∧ Wd n3 ∧ 0 ≤ o' ∧ o' ≤ 2) ∧ T' < a + m ∧ Hid (∃ s : Nat, s < 18446744073709551616 ∧ T' * 18446744073709551616 = T + a * u.toNat + m * s) ∧
      (T' : Int) = n0 + 18446744073709551616 * n1 + 340282366920938463463374607431768211456 * n2 + 6277101735386680763835789423207666416102355444464034512896 * n3 + 115792089237316195423570985008687907853269984665640564039457584007913129639936 * o' := by
  have wz : Wd 0 := ⟨by omega, by omega⟩
  have wo : Wd o := ⟨by omega, by omega⟩
  obtain ⟨u0, c0, hu0, hc0, E0, P0⟩ := prod_step t0 a0 u 0 ht0 ha0 hu wz
  obtain ⟨u1, c1, hu1, hc1, E1, P1⟩ := prod_step t1 a1 u c0 ht1 ha1 hu hc0
  obtain ⟨u2, c2, hu2, hc2, E2, P2⟩ := prod_step t2 a2 u c1 ht2 ha2 hu hc1
  obtain ⟨u3, c3, hu3, hc3, E3, P3⟩ := prod_step t3 a3 u c2 ht3 ha3 hu hc2
  obtain ⟨v, top, hv, htop, E4, P4⟩ := add_step o c3 0 wo hc3 ⟨by omega, by omega⟩
  obtain ⟨ti, hti, lti⟩ := wrap_nat (u0 * (f : Int))
  have wti : Wd (ti : Int) := ⟨by omega, by omega⟩
  obtain ⟨x, d0, hx, hd0, F0, Q0⟩ := prod_step u0 m0 ti 0 hu0 hm0 wti wz
  obtain ⟨n0, d1, hn0, hd1, F1, Q1⟩ := prod_step u1 m1 ti d0 hu1 hm1 wti hd0
  obtain ⟨n1, d2, hn1, hd2, F2, Q2⟩ := prod_step u2 m2 ti d1 hu2 hm2 wti hd1
  obtain ⟨n2, d3, hn2, hd3, F3, Q3⟩ := prod_step u3 m3 ti d2 hu3 hm3 wti hd2
  obtain ⟨n3, cc, hn3, hcc, F4, Q4⟩ := add_step v d3 0 hv hd3 ⟨by omega, by omega⟩
  have hx0 : x = 0 := by
    have g0 := F0.out
    obtain ⟨u0', rfl⟩ := Int.eq_ofNat_of_zero_le hu0.1
    obtain ⟨m0', rfl⟩ := Int.eq_ofNat_of_zero_le hm0.1
    have hf' : m0' * f % 18446744073709551616 = 18446744073709551615 := by simpa using hf
    have k := low_goes m0' f u0' hf'
    have ht : ti = u0' * f % 18446744073709551616 := by
      rw [IntKind.wrap_u64, ← Int.natCast_mul] at hti
      omega
    rw [← ht] at k
    rw [← Int.natCast_mul] at g0
    obtain ⟨y, hy⟩ : ∃ y, m0' * ti = y := ⟨_, rfl⟩
    rw [hy] at k g0
    unfold Wd at hx
    clear hf hf' ht hti
    omega
  subst hx0
  have hu' : (u.toNat : Int) = u := Int.toNat_of_nonneg hu.1
  have RX := row_sum 18446744073709551616 a0 a1 a2 a3 u a ea
  have RY := row_sum 18446744073709551616 m0 m1 m2 m3 ti m em
  rw [show (18446744073709551616 : Int) * 18446744073709551616 = 340282366920938463463374607431768211456 by decide, show (340282366920938463463374607431768211456 : Int) * 18446744073709551616 = 6277101735386680763835789423207666416102355444464034512896 by decide] at RX RY
  obtain ⟨T', hT'⟩ : ∃ T' : Nat, (T' : Int) = n0 + 18446744073709551616 * n1 + 340282366920938463463374607431768211456 * n2 + 6277101735386680763835789423207666416102355444464034512896 * n3 + 115792089237316195423570985008687907853269984665640564039457584007913129639936 * (top + cc) :=
    ⟨(n0 + 18446744073709551616 * n1 + 340282366920938463463374607431768211456 * n2 + 6277101735386680763835789423207666416102355444464034512896 * n3 + 115792089237316195423570985008687907853269984665640564039457584007913129639936 * (top + cc)).toNat, Int.toNat_of_nonneg (by unfold Wd at hn0 hn1 hn2 hn3; omega)⟩
  have S := round_sum t0 t1 t2 t3 o _ _ _ _ _ _ _ _ u0 c0 u1 c1 u2 c2 u3 c3 v top d0 n0 d1 n1 d2 n2 d3 n3 cc E0.out E1.out E2.out E3.out E4.out F0.out F1.out F2.out F3.out F4.out T T' _ _ eT hT' RX RY
  have S' : T' * 18446744073709551616 = T + a * u.toNat + m * ti := by
    rw [← hu', ← Int.natCast_mul, ← Int.natCast_mul] at S
    obtain ⟨y, hy⟩ : ∃ y, a * u.toNat = y := ⟨_, rfl⟩
    obtain ⟨z, hz⟩ : ∃ z, m * ti = z := ⟨_, rfl⟩
    rw [hy, hz] at S ⊢
    clear hT' RX RY eT ea em hti hy hz
    omega
  have hlt : u.toNat < 18446744073709551616 := by unfold Wd at hu; omega
  refine ⟨u0, c0, u1, c1, u2, c2, u3, c3, v, top, ti, d0, n0, d1, n1, d2, n2, d3, n3, cc, top + cc, T', ⟨P0, P1, P2, P3⟩, P4, hti, ⟨Q0, Q1, Q2, Q3⟩, Q4, ?_, ⟨hn0, hn1, hn2, hn3, by omega, by omega⟩, mont_next m a u.toNat ti T T' hlt lti hT S', ⟨ti, lti, S'⟩, hT'⟩
  rw [IntKind.wrap_u64]
  omega

end Go.Proofs.YtedhfimjcpbcpaaDoor

/-
  The contract of ring's mul (Montgomery's product): for a modulus in memory and two numbers below 2^256, one of them below the modulus, it returns their product by 2^256, modulo m, and changes no memory that was there. Conditions: as the theorem says.
-/
namespace Go.Proofs.YtedhfimjcpbcpaaDoor
open Go.RowKit
set_option linter.unusedVariables false
attribute [local go_sem] idx4_0 idx4_1 idx4_2 idx4_3

theorem four_val (x : Nat) (a0 a1 a2 a3 : Int) (hx : x < M4) (h : four x = .agg #[.int .u64 a0, .int .u64 a1, .int .u64 a2, .int .u64 a3]) : (x : Int) = a0 + 18446744073709551616 * a1 + 340282366920938463463374607431768211456 * a2 + 6277101735386680763835789423207666416102355444464034512896 * a3 := by
  obtain ⟨b0, b1, b2, b3, -, -, -, -, e, hv⟩ := four_open x hx
  rw [h] at e
  simp only [Value.agg.injEq, Array.mk.injEq, List.cons.injEq, Value.int.injEq, true_and, and_true] at e
  obtain ⟨rfl, rfl, rfl, rfl⟩ := e
  exact hv

set_option maxHeartbeats 4000000 in
set_option maxRecDepth 100000 in
theorem mulR_raw (W : World) (b m x y : Nat) (hM : Md W b m) (hx : x < M4) (hy : y < M4) (h : x < m ∨ y < m) :
    Calls Tryd.prog 76 #[.pointer (some ⟨b, 0, none⟩), four x, four y] W fun e w' => e = .returned (four (red m (x * y))) ∧ Below W.heap.size W w' := by
  have HM : Hid (Md W b m) := hM
  obtain ⟨h1, h2, h3, m0, m1, m2, m3, f, k0, k1, k2, k3, k4, k5, k6, k7, k8⟩ := hM
  obtain ⟨a0, a1, a2, a3, ha0, ha1, ha2, ha3, ea, hxa⟩ := four_open x hx
  obtain ⟨b0, b1, b2, b3, hb0, hb1, hb2, hb3, eb, hyb⟩ := four_open y hy
  have wz : Wd 0 := ⟨by omega, by omega⟩
  obtain ⟨u0_0, c0_0, u1_0, c1_0, u2_0, c2_0, u3_0, c3_0, v_0, top_0, ti_0, d0_0, n0_0, d1_0, n1_0, d2_0, n2_0, d3_0, n3_0, cc_0, o_0, T_0, ⟨P0_0, P1_0, P2_0, P3_0⟩, A0_0, I_0, ⟨Q0_0, Q1_0, Q2_0, Q3_0⟩, A1_0, O_0, ⟨w0_0, w1_0, w2_0, w3_0, wo_0, wp_0⟩, hT_0, S_0, eT_0⟩ := mont_round x m f 0 a0 a1 a2 a3 m0 m1 m2 m3 b0 0 0 0 0 0 ha0 ha1 ha2 ha3 k0 k1 k2 k3 hb0 wz wz wz wz ⟨by omega, by omega⟩ hxa k6 k7 (by omega) (by simp)
  obtain ⟨u0_1, c0_1, u1_1, c1_1, u2_1, c2_1, u3_1, c3_1, v_1, top_1, ti_1, d0_1, n0_1, d1_1, n1_1, d2_1, n2_1, d3_1, n3_1, cc_1, o_1, T_1, ⟨P0_1, P1_1, P2_1, P3_1⟩, A0_1, I_1, ⟨Q0_1, Q1_1, Q2_1, Q3_1⟩, A1_1, O_1, ⟨w0_1, w1_1, w2_1, w3_1, wo_1, wp_1⟩, hT_1, S_1, eT_1⟩ := mont_round x m f T_0 a0 a1 a2 a3 m0 m1 m2 m3 b1 n0_0 n1_0 n2_0 n3_0 o_0 ha0 ha1 ha2 ha3 k0 k1 k2 k3 hb1 w0_0 w1_0 w2_0 w3_0 ⟨wo_0, wp_0⟩ hxa k6 k7 hT_0 eT_0
  obtain ⟨u0_2, c0_2, u1_2, c1_2, u2_2, c2_2, u3_2, c3_2, v_2, top_2, ti_2, d0_2, n0_2, d1_2, n1_2, d2_2, n2_2, d3_2, n3_2, cc_2, o_2, T_2, ⟨P0_2, P1_2, P2_2, P3_2⟩, A0_2, I_2, ⟨Q0_2, Q1_2, Q2_2, Q3_2⟩, A1_2, O_2, ⟨w0_2, w1_2, w2_2, w3_2, wo_2, wp_2⟩, hT_2, S_2, eT_2⟩ := mont_round x m f T_1 a0 a1 a2 a3 m0 m1 m2 m3 b2 n0_1 n1_1 n2_1 n3_1 o_1 ha0 ha1 ha2 ha3 k0 k1 k2 k3 hb2 w0_1 w1_1 w2_1 w3_1 ⟨wo_1, wp_1⟩ hxa k6 k7 hT_1 eT_1
  obtain ⟨u0_3, c0_3, u1_3, c1_3, u2_3, c2_3, u3_3, c3_3, v_3, top_3, ti_3, d0_3, n0_3, d1_3, n1_3, d2_3, n2_3, d3_3, n3_3, cc_3, o_3, T_3, ⟨P0_3, P1_3, P2_3, P3_3⟩, A0_3, I_3, ⟨Q0_3, Q1_3, Q2_3, Q3_3⟩, A1_3, O_3, ⟨w0_3, w1_3, w2_3, w3_3, wo_3, wp_3⟩, hT_3, S_3, eT_3⟩ := mont_round x m f T_2 a0 a1 a2 a3 m0 m1 m2 m3 b3 n0_2 n1_2 n2_2 n3_2 o_2 ha0 ha1 ha2 ha3 k0 k1 k2 k3 hb3 w0_2 w1_2 w2_2 w3_2 ⟨wo_2, wp_2⟩ hxa k6 k7 hT_2 eT_2
  have END : Hid (∃ lo c : Nat, lo < M4 ∧ c ≤ 1 ∧ lo + c * M4 < 2 * m ∧ four lo = .agg #[.int .u64 n0_3, .int .u64 n1_3, .int .u64 n2_3, .int .u64 n3_3] ∧ o_3 = (c : Int) ∧ (lo + c * M4) % m = red m (x * y)) := by
    obtain ⟨s0, l0, e0⟩ := S_0.out
    obtain ⟨s1, l1, e1⟩ := S_1.out
    obtain ⟨s2, l2, e2⟩ := S_2.out
    obtain ⟨s3, l3, e3⟩ := S_3.out
    have hyn : y = b0.toNat + 18446744073709551616 * b1.toNat + 340282366920938463463374607431768211456 * b2.toNat + 6277101735386680763835789423207666416102355444464034512896 * b3.toNat := by
      unfold Wd at hb0 hb1 hb2 hb3
      clear eT_0 eT_1 eT_2 eT_3 e0 e1 e2 e3 hxa k6 k7
      omega
    have E := mont_four m x y b0.toNat b1.toNat b2.toNat b3.toNat s0 s1 s2 s3 T_0 T_1 T_2 T_3 hyn e0 e1 e2 e3
    obtain ⟨g1, g2⟩ := mont_end m x y T_3 _ h1 h2 (by clear eT_0 eT_1 eT_2 eT_3 e0 e1 e2 e3 hxa k6 k7 hyn hyb E; unfold M4; omega) hy hx h hT_3 E
    obtain ⟨c, rfl⟩ := Int.eq_ofNat_of_zero_le wo_3
    obtain ⟨lo, hl, el⟩ := four_of n0_3 n1_3 n2_3 n3_3 w0_3 w1_3 w2_3 w3_3
    have hlo := four_val lo n0_3 n1_3 n2_3 n3_3 hl el
    have hTl : T_3 = lo + c * M4 := by
      clear eT_0 eT_1 eT_2 e0 e1 e2 e3 hxa k6 k7 hyn hyb E
      unfold M4
      omega
    rw [hTl] at g1 g2
    have hc : c ≤ 1 := by
      rcases Nat.lt_or_ge 1 c with hc | hc
      · have : 2 * M4 ≤ c * M4 := Nat.mul_le_mul_right _ hc
        omega
      · exact hc
    exact ⟨lo, c, hl, hc, g1, el, rfl, g2⟩
  clear S_0 S_1 S_2 S_3 eT_0 eT_1 eT_2 eT_3 hT_0 hT_1 hT_2 hT_3 k7 hxa hyb k6
  obtain ⟨lo, c, hlo, hc, hlc, el, eo, er⟩ := END.out
  have hrM : red m (x * y) < M4 := Nat.lt_trans (red_lt m _ h2) h3
  obtain ⟨z0, z1, z2, z3, -, -, -, -, ez, -⟩ := four_open _ hrM
  rw [eo] at O_3
  rw [ea, eb, ez]
  have cW : Hid (∀ w, Below W.heap.size W w → Calls Tryd.prog 102 #[.pointer (some ⟨b, 0, none⟩), .agg #[.int .u64 n0_3, .int .u64 n1_3, .int .u64 n2_3, .int .u64 n3_3], .int .u64 (c : Int)] w fun e w' => e = .returned (.agg #[.int .u64 z0, .int .u64 z1, .int .u64 z2, .int .u64 z3]) ∧ Below w.heap.size w w') := by
    intro w hw; have := within_any w b m lo c (HM.out.below hw) hlo hc hlc; rwa [er, el, ez] at this
  clear END el eo er ez ea eb hlc hc hlo hx hy h h1 h2 h3 hrM k5 wz ha0 ha1 ha2 ha3 hb0 hb1 hb2 hb3 HM
  clear w0_0 w1_0 w2_0 w3_0
  clear w0_1 w1_1 w2_1 w3_1
  clear w0_2 w1_2 w2_2 w3_2
  clear w0_3 w1_3 w2_3 w3_3
  obtain ⟨l, q0, q1, q2, q3, q4⟩ := k8
  go_enter Tryd.func76, Tryd.ntmps76
  go_wp2_with fail
  have bA : Hid (Blk (((W.alloc (.cells #[.int .u64 a0, .int .u64 a1, .int .u64 a2, .int .u64 a3] 25)).alloc (.cells #[.int .u64 b0, .int .u64 b1, .int .u64 b2, .int .u64 b3] 25)).alloc (.cells #[.int .u64 0, .int .u64 0, .int .u64 0, .int .u64 0] 25)) W.heap.size a0 a1 a2 a3) := ((Blk.new W a0 a1 a2 a3 25).alloc _).alloc _
  have bR : Hid (Blk (((W.alloc (.cells #[.int .u64 a0, .int .u64 a1, .int .u64 a2, .int .u64 a3] 25)).alloc (.cells #[.int .u64 b0, .int .u64 b1, .int .u64 b2, .int .u64 b3] 25)).alloc (.cells #[.int .u64 0, .int .u64 0, .int .u64 0, .int .u64 0] 25)) (W.heap.size + 1 + 1) 0 0 0 0) := by have := Blk.new ((W.alloc (.cells #[.int .u64 a0, .int .u64 a1, .int .u64 a2, .int .u64 a3] 25)).alloc (.cells #[.int .u64 b0, .int .u64 b1, .int .u64 b2, .int .u64 b3] 25)) 0 0 0 0 25; simp at this; exact this
  have bB : Hid (Below W.heap.size W (((W.alloc (.cells #[.int .u64 a0, .int .u64 a1, .int .u64 a2, .int .u64 a3] 25)).alloc (.cells #[.int .u64 b0, .int .u64 b1, .int .u64 b2, .int .u64 b3] 25)).alloc (.cells #[.int .u64 0, .int .u64 0, .int .u64 0, .int .u64 0] 25))) := by
    repeat (first | exact Below.refl _ _ | refine Below.alloc ?_ (by first | omega | (simp <;> omega)) _)
  have k9 := Five.below ⟨l, q0, q1, q2, q3, q4⟩ bB.out
  clear l q0 q1 q2 q3 q4
  refine wp_cut (fun V => Blk V W.heap.size a0 a1 a2 a3 ∧ Blk V (W.heap.size + 1 + 1) 0 0 0 0 ∧ Below W.heap.size W V ∧ Five V b m0 m1 m2 m3 f) ⟨bA.out, bR.out, bB.out, k9⟩ ?_
  clear bA bR bB k9
  rintro V ⟨bA, bR, bB, k9⟩
  have BR : Hid (Blk V (W.heap.size + 1 + 1) 0 0 0 0) := bR
  have BB : Hid (Below W.heap.size W V) := bB
  obtain ⟨l1, ca0, ca1, ca2, ca3, -⟩ := bA
  obtain ⟨l, q0, q1, q2, q3, q4⟩ := k9
  clear bR bB
  refine wp_unr 5 ?_
  refine unr_succ ?_
  go_wp2_with fail
  refine (P0_0.out _).mono ?_
  rintro e w' ⟨rfl, hw⟩
  rw [hw]
  clear hw w'
  go_wp2_with fail
  refine (P1_0.out _).mono ?_
  rintro e w' ⟨rfl, hw⟩
  rw [hw]
  clear hw w'
  go_wp2_with fail
  refine (P2_0.out _).mono ?_
  rintro e w' ⟨rfl, hw⟩
  rw [hw]
  clear hw w'
  go_wp2_with fail
  refine (P3_0.out _).mono ?_
  rintro e w' ⟨rfl, hw⟩
  rw [hw]
  clear hw w'
  go_wp2_with fail
  refine (Q0_0.out _).mono ?_
  rintro e w' ⟨rfl, hw⟩
  rw [hw]
  clear hw w'
  go_wp2_with fail
  refine (Q1_0.out _).mono ?_
  rintro e w' ⟨rfl, hw⟩
  rw [hw]
  clear hw w'
  go_wp2_with fail
  refine (Q2_0.out _).mono ?_
  rintro e w' ⟨rfl, hw⟩
  rw [hw]
  clear hw w'
  go_wp2_with fail
  refine (Q3_0.out _).mono ?_
  rintro e w' ⟨rfl, hw⟩
  rw [hw]
  clear hw w'
  go_wp2_with fail
  refine unr_succ ?_
  go_wp2_with fail
  refine (P0_1.out _).mono ?_
  rintro e w' ⟨rfl, hw⟩
  rw [hw]
  clear hw w'
  go_wp2_with fail
  refine (P1_1.out _).mono ?_
  rintro e w' ⟨rfl, hw⟩
  rw [hw]
  clear hw w'
  go_wp2_with fail
  refine (P2_1.out _).mono ?_
  rintro e w' ⟨rfl, hw⟩
  rw [hw]
  clear hw w'
  go_wp2_with fail
  refine (P3_1.out _).mono ?_
  rintro e w' ⟨rfl, hw⟩
  rw [hw]
  clear hw w'
  go_wp2_with fail
  refine (Q0_1.out _).mono ?_
  rintro e w' ⟨rfl, hw⟩
  rw [hw]
  clear hw w'
  go_wp2_with fail
  refine (Q1_1.out _).mono ?_
  rintro e w' ⟨rfl, hw⟩
  rw [hw]
  clear hw w'
  go_wp2_with fail
  refine (Q2_1.out _).mono ?_
  rintro e w' ⟨rfl, hw⟩
  rw [hw]
  clear hw w'
  go_wp2_with fail
  refine (Q3_1.out _).mono ?_
  rintro e w' ⟨rfl, hw⟩
  rw [hw]
  clear hw w'
  go_wp2_with fail
  refine unr_succ ?_
  go_wp2_with fail
  refine (P0_2.out _).mono ?_
  rintro e w' ⟨rfl, hw⟩
  rw [hw]
  clear hw w'
  go_wp2_with fail
  refine (P1_2.out _).mono ?_
  rintro e w' ⟨rfl, hw⟩
  rw [hw]
  clear hw w'
  go_wp2_with fail
  refine (P2_2.out _).mono ?_
  rintro e w' ⟨rfl, hw⟩
  rw [hw]
  clear hw w'
  go_wp2_with fail
  refine (P3_2.out _).mono ?_
  rintro e w' ⟨rfl, hw⟩
  rw [hw]
  clear hw w'
  go_wp2_with fail
  refine (Q0_2.out _).mono ?_
  rintro e w' ⟨rfl, hw⟩
  rw [hw]
  clear hw w'
  go_wp2_with fail
  refine (Q1_2.out _).mono ?_
  rintro e w' ⟨rfl, hw⟩
  rw [hw]
  clear hw w'
  go_wp2_with fail
  refine (Q2_2.out _).mono ?_
  rintro e w' ⟨rfl, hw⟩
  rw [hw]
  clear hw w'
  go_wp2_with fail
  refine (Q3_2.out _).mono ?_
  rintro e w' ⟨rfl, hw⟩
  rw [hw]
  clear hw w'
  go_wp2_with fail
  refine unr_succ ?_
  go_wp2_with fail
  refine (P0_3.out _).mono ?_
  rintro e w' ⟨rfl, hw⟩
  rw [hw]
  clear hw w'
  go_wp2_with fail
  refine (P1_3.out _).mono ?_
  rintro e w' ⟨rfl, hw⟩
  rw [hw]
  clear hw w'
  go_wp2_with fail
  refine (P2_3.out _).mono ?_
  rintro e w' ⟨rfl, hw⟩
  rw [hw]
  clear hw w'
  go_wp2_with fail
  refine (P3_3.out _).mono ?_
  rintro e w' ⟨rfl, hw⟩
  rw [hw]
  clear hw w'
  go_wp2_with fail
  refine (Q0_3.out _).mono ?_
  rintro e w' ⟨rfl, hw⟩
  rw [hw]
  clear hw w'
  go_wp2_with fail
  refine (Q1_3.out _).mono ?_
  rintro e w' ⟨rfl, hw⟩
  rw [hw]
  clear hw w'
  go_wp2_with fail
  refine (Q2_3.out _).mono ?_
  rintro e w' ⟨rfl, hw⟩
  rw [hw]
  clear hw w'
  go_wp2_with fail
  refine (Q3_3.out _).mono ?_
  rintro e w' ⟨rfl, hw⟩
  rw [hw]
  clear hw w'
  go_wp2_with fail
  refine unr_succ ?_
  go_wp2_with fail
  refine (cW.out _ BB.out).mono ?_
  rintro e w2 ⟨rfl, g2⟩
  obtain ⟨l3, cc0, cc1, cc2, cc3, cf⟩ := BR.out.below g2
  go_wp2_with fail
  refine bodyPost_ret (v := .agg #[.int .u64 z0, .int .u64 z1, .int .u64 z2, .int .u64 z3]) (by simp [results, Tryd.results76, go_sem, cc0, cc1, cc2, cc3]) rfl ⟨rfl, ?_⟩
  have gs := BB.out.size
  have gs2 := g2.size
  repeat (first | exact BB.out | refine Below.setCell ?_ (by first | omega | (simp <;> omega)) _ | refine Below.trans ?_ (g2.mono gs))

end Go.Proofs.YtedhfimjcpbcpaaDoor

/-
  A ring's whole block of memory; the contract of ring's numeral. Conditions: as each theorem says.
-/
namespace Go.Proofs.YtedhfimjcpbcpaaDoor
open Go.RowKit
set_option linter.unusedVariables false

theorem Blk.new_at (W : World) (g : Nat) (v0 v1 v2 v3 : Int) (t : TypeId) (h : g = W.heap.size) : Blk (W.alloc (.cells #[.int .u64 v0, .int .u64 v1, .int .u64 v2, .int .u64 v3] t)) g v0 v1 v2 v3 := h ▸ Blk.new W v0 v1 v2 v3 t

/-- Four words that stand behind one another in a block. -/
structure At4 (W : World) (b k : Nat) (v0 v1 v2 v3 : Int) : Prop where
  lt : b < W.heap.size
  c0 : W.cell? ⟨b, k, none⟩ = some (.int .u64 v0)
  c1 : W.cell? ⟨b, k + 1, none⟩ = some (.int .u64 v1)
  c2 : W.cell? ⟨b, k + 2, none⟩ = some (.int .u64 v2)
  c3 : W.cell? ⟨b, k + 3, none⟩ = some (.int .u64 v3)
theorem At4.below {W W' : World} {b k : Nat} {v0 v1 v2 v3 : Int} (h : At4 W b k v0 v1 v2 v3) (hb : Below W.heap.size W W') : At4 W' b k v0 v1 v2 v3 :=
  ⟨Nat.lt_of_lt_of_le h.lt hb.size, (hb.cell (p := ⟨b, k, none⟩) h.lt).trans h.c0, (hb.cell (p := ⟨b, k + 1, none⟩) h.lt).trans h.c1, (hb.cell (p := ⟨b, k + 2, none⟩) h.lt).trans h.c2, (hb.cell (p := ⟨b, k + 3, none⟩) h.lt).trans h.c3⟩

/-- A number below 2^256 in a block, from a place on. -/
def Nu (W : World) (b k x : Nat) : Prop := x < M4 ∧ ∃ v0 v1 v2 v3 : Int, four x = .agg #[.int .u64 v0, .int .u64 v1, .int .u64 v2, .int .u64 v3] ∧ At4 W b k v0 v1 v2 v3
theorem Nu.below {W W' : World} {b k x : Nat} (h : Nu W b k x) (hb : Below W.heap.size W W') : Nu W' b k x := by
  obtain ⟨h1, v0, v1, v2, v3, h2, h3⟩ := h
  exact ⟨h1, v0, v1, v2, v3, h2, h3.below hb⟩

/-- A ring in memory. -/
def Rg (W : World) (b m : Nat) : Prop := Md W b m ∧ Nu W b 5 (M4 % m) ∧ Nu W b 9 (M4 * M4 % m)
theorem Rg.below {W W' : World} {b m : Nat} (h : Rg W b m) (hb : Below W.heap.size W W') : Rg W' b m := ⟨h.1.below hb, h.2.1.below hb, h.2.2.below hb⟩

theorem red_numeral (m x : Nat) (ho : m % 2 = 1) (hm : 1 < m) : red m (x * (M4 * M4 % m)) = x * M4 % m := by
  rw [red_mul_right, ← Nat.mul_assoc, red_up m _ ho hm]

set_option maxHeartbeats 1000000 in
theorem numeral_any (W : World) (b m x : Nat) (hR : Rg W b m) (hx : x < M4) :
    Calls Tryd.prog 106 #[.pointer (some ⟨b, 0, none⟩), four x] W fun e w' => e = .returned (four (x * M4 % m)) ∧ Below W.heap.size W w' := by
  have HR : Hid (Rg W b m) := hR
  obtain ⟨⟨h1, h2, h3, -⟩, -, hsM, s0, s1, s2, s3, es, hs⟩ := hR
  have hzM : x * M4 % m < M4 := Nat.lt_trans (Nat.mod_lt _ (by omega)) h3
  obtain ⟨x0, x1, x2, x3, -, -, -, -, ex, -⟩ := four_open x hx
  obtain ⟨z0, z1, z2, z3, -, -, -, -, ez, -⟩ := four_open _ hzM
  have cM : Hid (∀ w, Below W.heap.size W w → Calls Tryd.prog 76 #[.pointer (some ⟨b, 0, none⟩), .agg #[.int .u64 x0, .int .u64 x1, .int .u64 x2, .int .u64 x3], .agg #[.int .u64 s0, .int .u64 s1, .int .u64 s2, .int .u64 s3]] w fun e w' => e = .returned (.agg #[.int .u64 z0, .int .u64 z1, .int .u64 z2, .int .u64 z3]) ∧ Below w.heap.size w w') := by
    intro w hw; have := mulR_raw w b m x (M4 * M4 % m) (HR.out.1.below hw) hx hsM (Or.inr (Nat.mod_lt _ (by omega))); rwa [red_numeral m x h1 h2, ex, es, ez] at this
  rw [ex, ez]
  clear ex es ez hzM HR hsM hx h1 h2 h3
  obtain ⟨l, c0, c1, c2, c3⟩ := hs
  simp only [Nat.reduceAdd] at c1 c2 c3
  have l1 : b < W.heap.size + 1 := by omega
  have l2 : b < W.heap.size + 1 + 1 := by omega
  have n0 : ¬ b = W.heap.size := by omega
  have n1 : ¬ b = W.heap.size + 1 := by omega
  go_enter Tryd.func106, Tryd.ntmps106
  go_wp2_with fail
  go_region_with (go_at_call 76; refine (cM.out _ (by (repeat (first | exact Below.refl _ _ | refine Below.drew ?_ | refine Below.alloc ?_ (by first | omega | (simp <;> omega)) _ | refine Below.setCell ?_ (by first | omega | (simp <;> omega)) _)); done)).mono ?_; rintro e w1 ⟨rfl, g1⟩; have bZ : Blk w1 (W.heap.size + 1) 0 0 0 0 := Blk.below (by (repeat (first | exact Blk.new_at _ _ _ _ _ _ _ (by simp) | refine Blk.drew ?_ | refine Blk.alloc ?_ _)); done) g1; obtain ⟨k0, k1, k2, k3, k4, k5⟩ := bZ)
  all_goals
    go_wp2_with fail
    refine bodyPost_ret (v := .agg #[.int .u64 z0, .int .u64 z1, .int .u64 z2, .int .u64 z3]) (by simp [results, Tryd.results106, go_sem, k1, k2, k3, k4]) rfl ⟨rfl, ?_⟩
    have gs := g1.size
    simp at gs
    repeat (first | exact Below.refl _ _ | refine Below.drew ?_ | refine Below.setCell ?_ (by first | omega | (simp <;> omega)) _ | refine Below.alloc ?_ (by first | omega | (simp <;> omega)) _ | refine Below.trans ?_ (g1.mono (by first | omega | (simp <;> omega))))

end Go.Proofs.YtedhfimjcpbcpaaDoor

/-
  The law ComboBack of layer 11, of a point's bytes: the walk, given what each call answers. Conditions: as each theorem says.
-/
namespace Go.Proofs.YtedhfimjcpbcpaaDoor.Ed
open Go.RowKit
set_option linter.unusedVariables false
set_option linter.unusedSimpArgs false

set_option maxRecDepth 100000 in
set_option maxHeartbeats 16000000 in
theorem back_yes_w (ka kb p kx ky ks mx my bb ms bt m8 e8 bk b2 bs b3 mm s3 z8 z kr : List Value) (ka_h : Wl ka) (kb_h : Wl kb) (p_h : Pl p) (kx_h : Wl kx) (ky_h : Wl ky) (ks_h : Wl ks) (mx_h : Pl mx) (my_h : Pl my) (bb_h : Pl bb) (ms_h : Pl ms) (bt_h : Pl bt) (m8_h : Pl m8) (e8_h : Pl e8) (bk_h : Pl bk) (b2_h : Pl b2) (bs_h : Pl bs) (b3_h : Pl b3) (mm_h : Pl mm) (s3_h : Pl s3) (z8_h : Pl z8) (z_h : Pl z) (kr_h : Wl kr) (a0 : Option Addr) (n0 c0 : Nat) (la : List Nat)
    (Q1 : Hid (∀ w : World, Env w → Calls Tryd.prog 6 #[] w fun e w' => e = .returned (.bool true) ∧ Below w.heap.size w w'))
    (Q2 : Hid (∀ (v : Value) (w : World), SK .u8 w v la → Env w → Calls Tryd.prog 7 #[v] w fun e w' => e = .returned (.tuple #[.agg p.toArray, .bool true]) ∧ Below w.heap.size w w'))
    (Q3 : Hid (∀ w : World, Calls Tryd.prog 26 #[.agg ka.toArray, .int .i64 1] w fun e w' => e = .returned (.agg kx.toArray) ∧ Below w.heap.size w w'))
    (Q4 : Hid (∀ w : World, Calls Tryd.prog 26 #[.agg kb.toArray, .int .i64 1] w fun e w' => e = .returned (.agg ky.toArray) ∧ Below w.heap.size w w'))
    (Q5 : Hid (∀ w : World, Calls Tryd.prog 27 #[.agg kx.toArray, .agg ky.toArray] w fun e w' => e = .returned (.tuple #[.agg ks.toArray, .int .u64 0]) ∧ Below w.heap.size w w'))
    (Q6 : Hid (∀ w : World, Env w → Calls Tryd.prog 9 #[.agg kx.toArray, .agg p.toArray] w fun e w' => e = .returned (.agg mx.toArray) ∧ Below w.heap.size w w'))
    (Q7 : Hid (∀ w : World, Env w → Calls Tryd.prog 9 #[.agg ky.toArray, .agg p.toArray] w fun e w' => e = .returned (.agg my.toArray) ∧ Below w.heap.size w w'))
    (Q8 : Hid (∀ w : World, Env w → Calls Tryd.prog 28 #[.agg mx.toArray, .agg my.toArray] w fun e w' => e = .returned (.agg bb.toArray) ∧ Below w.heap.size w w'))
    (Q9 : Hid (∀ w : World, Env w → Calls Tryd.prog 9 #[.agg ks.toArray, .agg p.toArray] w fun e w' => e = .returned (.agg ms.toArray) ∧ Below w.heap.size w w'))
    (Q10 : Hid (∀ w : World, Calls Tryd.prog 18 #[.agg ms.toArray, .agg bb.toArray] w fun e w' => e = .returned (.bool true) ∧ Below w.heap.size w w'))
    (Q11 : Hid (∀ w : World, Env w → Calls Tryd.prog 21 #[.agg kx.toArray, .agg p.toArray, .agg ky.toArray, .agg p.toArray] w fun e w' => e = .returned (.agg bt.toArray) ∧ Below w.heap.size w w'))
    (Q12 : Hid (∀ w : World, Calls Tryd.prog 18 #[.agg bt.toArray, .agg bb.toArray] w fun e w' => e = .returned (.bool true) ∧ Below w.heap.size w w'))
    (Q13 : Hid (∀ w : World, Env w → Calls Tryd.prog 9 #[.agg #[.int .u64 8, .int .u64 0, .int .u64 0, .int .u64 0], .agg p.toArray] w fun e w' => e = .returned (.agg m8.toArray) ∧ Below w.heap.size w w'))
    (Q14 : Hid (∀ w : World, Env w → Calls Tryd.prog 29 #[.agg p.toArray] w fun e w' => e = .returned (.agg e8.toArray) ∧ Below w.heap.size w w'))
    (Q15 : Hid (∀ w : World, Calls Tryd.prog 18 #[.agg m8.toArray, .agg e8.toArray] w fun e w' => e = .returned (.bool true) ∧ Below w.heap.size w w'))
    (Q16 : Hid (∀ w : World, Calls Tryd.prog 15 #[] w fun e w' => e = .returned (.agg #[.int .u64 6346243789798364141, .int .u64 1503914060200516822, .int .u64 0, .int .u64 1152921504606846976]) ∧ Below w.heap.size w w'))
    (Q17 : Hid (∀ w : World, Calls Tryd.prog 30 #[.agg #[.int .u64 6346243789798364141, .int .u64 1503914060200516822, .int .u64 0, .int .u64 1152921504606846976]] w fun e w' => ∃ b, e = .returned (.tuple #[.pointer (some ⟨b, 0, none⟩), .int .i64 0]) ∧ Rg w' b L25 ∧ Below w.heap.size w w'))
    (Q18 : Hid (∀ w : World, Env w → Calls Tryd.prog 31 #[.agg ka.toArray] w fun e w' => e = .returned (.agg bk.toArray) ∧ Below w.heap.size w w'))
    (Q19 : Hid (∀ (b : Nat) (w : World), Rg w b L25 → Calls Tryd.prog 32 #[.pointer (some ⟨b, 0, none⟩), .agg ka.toArray] w fun e w' => e = .returned (.agg kr.toArray) ∧ Below w.heap.size w w'))
    (Q20 : Hid (∀ w : World, Env w → Calls Tryd.prog 31 #[.agg kr.toArray] w fun e w' => e = .returned (.agg b2.toArray) ∧ Below w.heap.size w w'))
    (Q21 : Hid (∀ w : World, Calls Tryd.prog 18 #[.agg b2.toArray, .agg bk.toArray] w fun e w' => e = .returned (.bool true) ∧ Below w.heap.size w w'))
    (Q22 : Hid (∀ w : World, Env w → Calls Tryd.prog 22 #[.agg bk.toArray] w fun e w' => e = .returned (.bool true) ∧ Below w.heap.size w w'))
    (Q23 : Hid (∀ w : World, Env w → Calls Tryd.prog 25 #[] w fun e w' => e = .returned (.agg bs.toArray) ∧ Below w.heap.size w w'))
    (Q24 : Hid (∀ w : World, Env w → Calls Tryd.prog 21 #[.agg ka.toArray, .agg bs.toArray, .agg kb.toArray, .agg p.toArray] w fun e w' => e = .returned (.agg b3.toArray) ∧ Below w.heap.size w w'))
    (Q25 : Hid (∀ w : World, Env w → Calls Tryd.prog 9 #[.agg kb.toArray, .agg p.toArray] w fun e w' => e = .returned (.agg mm.toArray) ∧ Below w.heap.size w w'))
    (Q26 : Hid (∀ w : World, Env w → Calls Tryd.prog 28 #[.agg bk.toArray, .agg mm.toArray] w fun e w' => e = .returned (.agg s3.toArray) ∧ Below w.heap.size w w'))
    (Q27 : Hid (∀ w : World, Calls Tryd.prog 18 #[.agg b3.toArray, .agg s3.toArray] w fun e w' => e = .returned (.bool true) ∧ Below w.heap.size w w'))
    (Q28 : Hid (∀ w : World, Calls Tryd.prog 15 #[] w fun e w' => e = .returned (.agg #[.int .u64 6346243789798364141, .int .u64 1503914060200516822, .int .u64 0, .int .u64 1152921504606846976]) ∧ Below w.heap.size w w'))
    (Q29 : Hid (∀ w : World, Env w → Calls Tryd.prog 29 #[.agg p.toArray] w fun e w' => e = .returned (.agg e8.toArray) ∧ Below w.heap.size w w'))
    (Q30 : Hid (∀ w : World, Env w → Calls Tryd.prog 9 #[.agg #[.int .u64 6346243789798364141, .int .u64 1503914060200516822, .int .u64 0, .int .u64 1152921504606846976], .agg e8.toArray] w fun e w' => e = .returned (.agg z8.toArray) ∧ Below w.heap.size w w'))
    (Q31 : Hid (∀ w : World, Calls Tryd.prog 33 #[] w fun e w' => e = .returned (.agg z.toArray) ∧ Below w.heap.size w w'))
    (Q32 : Hid (∀ w : World, Calls Tryd.prog 18 #[.agg z8.toArray, .agg z.toArray] w fun e w' => e = .returned (.bool true) ∧ Below w.heap.size w w'))
    (w : World) (Sa_0 : Hid (SK .u8 w (.slice a0 n0 c0) la)) (E_0 : Hid (Env w)) :
    Calls Tryd.prog 5 #[.slice a0 n0 c0, .agg ka.toArray, .agg kb.toArray] w fun e w' => e = .returned (.bool true) ∧ Below w.heap.size w w' := by
  have EE := hid E_0.out
  go_enter Tryd.func5, Tryd.ntmps5
  go_upto_region 1 with fail
  have HE := E_0.out.lt
  refine wp_cut (fun V => At 25 V w.heap.size ka ∧ At 25 V (w.heap.size + 1) kb ∧ SK .u8 V (.slice a0 n0 c0) la ∧ Env V ∧ Below w.heap.size w V) ⟨?_, ?_, ?_, ?_, ?_⟩ ?_
  · (repeat (first | refine At.drew ?_ | refine At.drewN ?_ _ | (refine at_new2 _ _ _ _ ?_; simp; done) | refine at_alloc ?_ _))
  · (repeat (first | refine At.drew ?_ | refine At.drewN ?_ _ | (refine at_new2 _ _ _ _ ?_; simp; done) | refine at_alloc ?_ _))
  · refine Sa_0.out.below ?_
    (repeat (first | exact Below.refl _ _ | refine Below.drew ?_ | refine below_drewN ?_ _ | refine Below.alloc ?_ (by simp <;> omega) _))
  · refine E_0.out.grown ?_
    (repeat (first | exact Below.refl _ _ | refine Below.drew ?_ | refine below_drewN ?_ _ | refine Below.alloc ?_ (by simp <;> omega) _))
  · (repeat (first | exact Below.refl _ _ | refine Below.drew ?_ | refine below_drewN ?_ _ | refine Below.alloc ?_ (by simp <;> omega) _))
  rintro w1 ⟨k0, k1, k2, k3, k4⟩
  have B4_1 := hid k0
  have B5_1 := hid k1
  have Sa_1 := hid k2
  have E_1 := hid k3
  have G_1 := hid k4
  clear k0 k1 k2 k3 k4 Sa_0 E_0
  go_wp2_with (fail)
  refine (Q1.out _ E_1.out).mono ?_
  rintro e w2 ⟨rfl, g0⟩
  have g := g0
  clear g0
  have B4_2 := hid (B4_1.out.below g)
  have B5_2 := hid (B5_1.out.below g)
  have Sa_2 := hid (Sa_1.out.below g)
  have E_2 := hid (E_1.out.grown g)
  have G_2 := hid (G_1.out.trans (g.mono G_1.out.size))
  clear g B4_1 B5_1 Sa_1 E_1 G_1
  go_wp2_with (fail)
  refine (Q2.out _ _ Sa_2.out E_2.out).mono ?_
  rintro e w3 ⟨rfl, g0⟩
  have g := g0
  clear g0
  have B4_3 := hid (B4_2.out.below g)
  have B5_3 := hid (B5_2.out.below g)
  have Sa_3 := hid (Sa_2.out.below g)
  have E_3 := hid (E_2.out.grown g)
  have G_3 := hid (G_2.out.trans (g.mono G_2.out.size))
  clear g B4_2 B5_2 Sa_2 E_2 G_2
  have szB7 : w.heap.size ≤ w3.heap.size := G_3.out.size
  have nlB4B7 : w.heap.size < w3.heap.size := B4_3.out.lt
  have nlB5B7 : (w.heap.size + 1) < w3.heap.size := B5_3.out.lt
  go_wp2_with (first | (refine list_store_new rfl 32 _ _ rfl w3 p [.int .u64 0, .int .u64 0, .int .u64 0, .int .u64 0, .int .u64 0, .int .u64 0, .int .u64 0, .int .u64 0, .int .u64 0, .int .u64 0, .int .u64 0, .int .u64 0, .int .u64 0, .int .u64 0, .int .u64 0, .int .u64 0, .int .u64 0, .int .u64 0, .int .u64 0, .int .u64 0] rfl rfl p_h.len p_h.is p_h.one (fun w4 hC g => ?_)) | fail)
  have B7_4 := hid hC
  have B4_4 := hid (B4_3.out.below g)
  have B5_4 := hid (B5_3.out.below g)
  have Sa_4 := hid (Sa_3.out.below g)
  have E_4 := hid (E_3.out.grown g)
  have G_4 := hid (G_3.out.trans (g.mono G_3.out.size))
  clear hC g B4_3 B5_3 Sa_3 E_3 G_3
  clear Sa_4
  clear EE
  go_wp2_with fail
  refine wp_region_grow (ob := (fun k => if k = 4 then some (.cells #[.int .u64 0, .int .u64 0, .int .u64 0, .int .u64 0] 25) else if k = 5 then some (.cells #[.int .u64 0, .int .u64 0, .int .u64 0, .int .u64 0] 25) else none)) (st := (fun k => if k = 6 then some (4, .cells kx.toArray 25) else if k = 7 then some (5, .cells ky.toArray 25) else none)) (by kernel_rfl) ?_
  simp only [List.size_toArray, List.length_cons, List.length_nil, Nat.reduceAdd, Array.replicate_succ, Array.replicate_zero, List.push_toArray, List.nil_append, List.cons_append]
  refine g_first 0 _ (.agg ka.toArray) rfl rfl rfl (by kernel_rfl) (by kernel_rfl) (by kernel_rfl) ?_ ?_
  · refine Or.inl ⟨by rfl, fun w' hw' => ?_⟩
    exact quiet_load 25 _ rfl _ 0 rfl ka _ (at_mid (B4_4.out.below hw') 0 _ (by simp)) Tryd.underlying25 rfl ka_h.il
  try simp only [List.getElem_toArray, List.getElem_cons_zero, List.getElem_cons_succ, Act.put, List.setIfInBounds_toArray, List.set_cons_zero, List.set_cons_succ]
  refine g_first 1 _ (.agg kx.toArray) rfl rfl rfl (by kernel_rfl) (by kernel_rfl) (by kernel_rfl) ?_ ?_
  · refine Or.inl ⟨by rfl, fun w' hw' => ?_⟩
    refine quiet_call (by go_simp) (Q3.out _)
  try simp only [List.getElem_toArray, List.getElem_cons_zero, List.getElem_cons_succ, Act.put, List.setIfInBounds_toArray, List.set_cons_zero, List.set_cons_succ]
  refine g_first 2 _ (.agg kb.toArray) rfl rfl rfl (by kernel_rfl) (by kernel_rfl) (by kernel_rfl) ?_ ?_
  · refine Or.inl ⟨by rfl, fun w' hw' => ?_⟩
    exact quiet_load 25 _ rfl _ 0 rfl kb _ (at_mid (B5_4.out.below hw') 0 _ (by simp)) Tryd.underlying25 rfl kb_h.il
  try simp only [List.getElem_toArray, List.getElem_cons_zero, List.getElem_cons_succ, Act.put, List.setIfInBounds_toArray, List.set_cons_zero, List.set_cons_succ]
  refine g_first 3 _ (.agg ky.toArray) rfl rfl rfl (by kernel_rfl) (by kernel_rfl) (by kernel_rfl) ?_ ?_
  · refine Or.inl ⟨by rfl, fun w' hw' => ?_⟩
    refine quiet_call (by go_simp) (Q4.out _)
  try simp only [List.getElem_toArray, List.getElem_cons_zero, List.getElem_cons_succ, Act.put, List.setIfInBounds_toArray, List.set_cons_zero, List.set_cons_succ]
  refine g_make 4 _ (.cells #[.int .u64 0, .int .u64 0, .int .u64 0, .int .u64 0] 25) (fun k => (decide (4 ≤ k ∧ k ≤ 5)) || (decide (6 ≤ k ∧ k ≤ 7) && k != 6)) rfl rfl rfl rfl ?_ ?_ (by kernel_rfl) (by kernel_rfl) (by kernel_rfl) (by kernel_rfl) (fun g9 => ?_)
  · intro a w
    go_simp
  · intro j hj
    simp only [Bool.or_eq_true, Bool.and_eq_true, decide_eq_true_eq, bne_iff_ne] at hj
    rcases hj with hj | ⟨hj, hne⟩
    · left
      rcases (show j = 4 ∨ j = 5 by omega) with rfl | rfl <;> simp
    · right
      rcases (show j = 6 ∨ j = 7 by omega) with rfl | rfl <;> first | exact ⟨_, _, rfl, by decide⟩ | omega
  try simp only [List.getElem_toArray, List.getElem_cons_zero, List.getElem_cons_succ, Act.put, List.setIfInBounds_toArray, List.set_cons_zero, List.set_cons_succ]
  refine g_make 5 _ (.cells #[.int .u64 0, .int .u64 0, .int .u64 0, .int .u64 0] 25) (fun k => (decide (4 ≤ k ∧ k ≤ 5)) || (decide (6 ≤ k ∧ k ≤ 7) && k != 7)) rfl rfl rfl rfl ?_ ?_ (by kernel_rfl) (by kernel_rfl) (by kernel_rfl) (by kernel_rfl) (fun g10 => ?_)
  · intro a w
    go_simp
  · intro j hj
    simp only [Bool.or_eq_true, Bool.and_eq_true, decide_eq_true_eq, bne_iff_ne] at hj
    rcases hj with hj | ⟨hj, hne⟩
    · left
      rcases (show j = 4 ∨ j = 5 by omega) with rfl | rfl <;> simp
    · right
      rcases (show j = 6 ∨ j = 7 by omega) with rfl | rfl <;> first | exact ⟨_, _, rfl, by decide⟩ | omega
  try simp only [List.getElem_toArray, List.getElem_cons_zero, List.getElem_cons_succ, Act.put, List.setIfInBounds_toArray, List.set_cons_zero, List.set_cons_succ]
  refine g_store 6 4 _ (.cells kx.toArray 25) g9 (.cells #[.int .u64 0, .int .u64 0, .int .u64 0, .int .u64 0] 25) (fun k => decide (6 ≤ k ∧ k ≤ 7) && k != 6) rfl rfl rfl rfl ?_ (by kernel_rfl) (by kernel_rfl) (by kernel_rfl) (by kernel_rfl) (by simp [upd]) ?_ ?_
  · intro j hj
    simp only [Bool.and_eq_true, decide_eq_true_eq, bne_iff_ne] at hj
    rcases (show j = 6 ∨ j = 7 by omega) with rfl | rfl <;> first | exact ⟨_, _, rfl, by decide⟩ | omega
  · exact stores_whole 25 _ _ rfl g9 kx [.int .u64 0, .int .u64 0, .int .u64 0, .int .u64 0] rfl rfl kx_h.len kx_h.is kx_h.one
  try simp only [List.getElem_toArray, List.getElem_cons_zero, List.getElem_cons_succ, Act.put, List.setIfInBounds_toArray, List.set_cons_zero, List.set_cons_succ]
  refine g_store 7 5 _ (.cells ky.toArray 25) g10 (.cells #[.int .u64 0, .int .u64 0, .int .u64 0, .int .u64 0] 25) (fun k => decide (6 ≤ k ∧ k ≤ 7) && k != 7) rfl rfl rfl rfl ?_ (by kernel_rfl) (by kernel_rfl) (by kernel_rfl) (by kernel_rfl) (by simp [upd]) ?_ ?_
  · intro j hj
    simp only [Bool.and_eq_true, decide_eq_true_eq, bne_iff_ne] at hj
    rcases (show j = 6 ∨ j = 7 by omega) with rfl | rfl <;> first | exact ⟨_, _, rfl, by decide⟩ | omega
  · exact stores_whole 25 _ _ rfl g10 ky [.int .u64 0, .int .u64 0, .int .u64 0, .int .u64 0] rfl rfl ky_h.len ky_h.is ky_h.one
  try simp only [List.getElem_toArray, List.getElem_cons_zero, List.getElem_cons_succ, Act.put, List.setIfInBounds_toArray, List.set_cons_zero, List.set_cons_succ]
  refine ⟨by kernel_rfl, fun w5 hV => ?_⟩
  have own9 := hV.own 4 _ (by simp [upd]; rfl)
  have B9_5 : Hid (At 25 w5 g9 kx) := own9.2.2
  have szB9 : w.heap.size ≤ g9 := by have h1 := own9.1; have h2 := G_4.out.size; dsimp only at h1; omega
  have nlB4B9 : w.heap.size < g9 := by have h1 := own9.1; have h2 := B4_4.out.lt; dsimp only at h1; omega
  have nlB5B9 : (w.heap.size + 1) < g9 := by have h1 := own9.1; have h2 := B5_4.out.lt; dsimp only at h1; omega
  have nlB7B9 : w3.heap.size < g9 := by have h1 := own9.1; have h2 := B7_4.out.lt; dsimp only at h1; omega
  have own10 := hV.own 5 _ (by simp [upd]; rfl)
  have B10_5 : Hid (At 25 w5 g10 ky) := own10.2.2
  have szB10 : w.heap.size ≤ g10 := by have h1 := own10.1; have h2 := G_4.out.size; dsimp only at h1; omega
  have nlB4B10 : w.heap.size < g10 := by have h1 := own10.1; have h2 := B4_4.out.lt; dsimp only at h1; omega
  have nlB5B10 : (w.heap.size + 1) < g10 := by have h1 := own10.1; have h2 := B5_4.out.lt; dsimp only at h1; omega
  have nlB7B10 : w3.heap.size < g10 := by have h1 := own10.1; have h2 := B7_4.out.lt; dsimp only at h1; omega
  have g := hV.bel
  have B4_5 := hid (B4_4.out.below g)
  have B5_5 := hid (B5_4.out.below g)
  have B7_5 := hid (B7_4.out.below g)
  have E_5 := hid (E_4.out.grown g)
  have G_5 := hid (G_4.out.trans (g.mono G_4.out.size))
  clear hV g own9 own10 B4_4 B5_4 B7_4 E_4 G_4
  go_wp2_with (first | (refine wpList_load_mid rfl 25 _ rfl g9 0 rfl kx _ (at_mid B9_5.out 0 _ (by simp)) Tryd.underlying25 rfl kx_h.il ?_) | (refine wpList_load_mid rfl 25 _ rfl g10 0 rfl ky _ (at_mid B10_5.out 0 _ (by simp)) Tryd.underlying25 rfl ky_h.il ?_) | fail)
  refine (Q5.out _).mono ?_
  rintro e w6 ⟨rfl, g0⟩
  have g := g0
  clear g0
  have B4_6 := hid (B4_5.out.below g)
  have B5_6 := hid (B5_5.out.below g)
  have B7_6 := hid (B7_5.out.below g)
  have B9_6 := hid (B9_5.out.below g)
  have B10_6 := hid (B10_5.out.below g)
  have E_6 := hid (E_5.out.grown g)
  have G_6 := hid (G_5.out.trans (g.mono G_5.out.size))
  clear g B4_5 B5_5 B7_5 B9_5 B10_5 E_5 G_5
  have szB11 : w.heap.size ≤ w6.heap.size := G_6.out.size
  have nlB4B11 : w.heap.size < w6.heap.size := B4_6.out.lt
  have nlB5B11 : (w.heap.size + 1) < w6.heap.size := B5_6.out.lt
  have nlB7B11 : w3.heap.size < w6.heap.size := B7_6.out.lt
  have nlB9B11 : g9 < w6.heap.size := B9_6.out.lt
  have nlB10B11 : g10 < w6.heap.size := B10_6.out.lt
  go_wp2_with (first | (refine list_store_new rfl 25 _ _ rfl w6 ks [.int .u64 0, .int .u64 0, .int .u64 0, .int .u64 0] rfl rfl ks_h.len ks_h.is ks_h.one (fun w7 hC g => ?_)) | fail)
  have B11_7 := hid hC
  have B4_7 := hid (B4_6.out.below g)
  have B5_7 := hid (B5_6.out.below g)
  have B7_7 := hid (B7_6.out.below g)
  have B9_7 := hid (B9_6.out.below g)
  have B10_7 := hid (B10_6.out.below g)
  have E_7 := hid (E_6.out.grown g)
  have G_7 := hid (G_6.out.trans (g.mono G_6.out.size))
  clear hC g B4_6 B5_6 B7_6 B9_6 B10_6 E_6 G_6
  go_wp2_with fail
  refine wp_region_grow (ob := (fun k => if k = 7 then some (.cells #[.int .u64 0, .int .u64 0, .int .u64 0, .int .u64 0, .int .u64 0, .int .u64 0, .int .u64 0, .int .u64 0, .int .u64 0, .int .u64 0, .int .u64 0, .int .u64 0, .int .u64 0, .int .u64 0, .int .u64 0, .int .u64 0, .int .u64 0, .int .u64 0, .int .u64 0, .int .u64 0] 32) else none)) (st := (fun k => if k = 8 then some (7, .cells bb.toArray 32) else none)) (by kernel_rfl) ?_
  simp only [List.size_toArray, List.length_cons, List.length_nil, Nat.reduceAdd, Array.replicate_succ, Array.replicate_zero, List.push_toArray, List.nil_append, List.cons_append]
  refine g_first 0 _ (.agg kx.toArray) rfl rfl rfl (by kernel_rfl) (by kernel_rfl) (by kernel_rfl) ?_ ?_
  · refine Or.inl ⟨by rfl, fun w' hw' => ?_⟩
    exact quiet_load 25 _ rfl _ 0 rfl kx _ (at_mid (B9_7.out.below hw') 0 _ (by simp)) Tryd.underlying25 rfl kx_h.il
  try simp only [List.getElem_toArray, List.getElem_cons_zero, List.getElem_cons_succ, Act.put, List.setIfInBounds_toArray, List.set_cons_zero, List.set_cons_succ]
  refine g_first 1 _ (.agg p.toArray) rfl rfl rfl (by kernel_rfl) (by kernel_rfl) (by kernel_rfl) ?_ ?_
  · refine Or.inl ⟨by rfl, fun w' hw' => ?_⟩
    exact quiet_load 32 _ rfl _ 0 rfl p _ (at_mid (B7_7.out.below hw') 0 _ (by simp)) Tryd.underlying32 rfl p_h.il
  try simp only [List.getElem_toArray, List.getElem_cons_zero, List.getElem_cons_succ, Act.put, List.setIfInBounds_toArray, List.set_cons_zero, List.set_cons_succ]
  refine g_first 2 _ (.agg mx.toArray) rfl rfl rfl (by kernel_rfl) (by kernel_rfl) (by kernel_rfl) ?_ ?_
  · refine Or.inl ⟨by rfl, fun w' hw' => ?_⟩
    refine quiet_call (by go_simp) (Q6.out _ (E_7.out.grown hw'))
  try simp only [List.getElem_toArray, List.getElem_cons_zero, List.getElem_cons_succ, Act.put, List.setIfInBounds_toArray, List.set_cons_zero, List.set_cons_succ]
  refine g_first 3 _ (.agg ky.toArray) rfl rfl rfl (by kernel_rfl) (by kernel_rfl) (by kernel_rfl) ?_ ?_
  · refine Or.inl ⟨by rfl, fun w' hw' => ?_⟩
    exact quiet_load 25 _ rfl _ 0 rfl ky _ (at_mid (B10_7.out.below hw') 0 _ (by simp)) Tryd.underlying25 rfl ky_h.il
  try simp only [List.getElem_toArray, List.getElem_cons_zero, List.getElem_cons_succ, Act.put, List.setIfInBounds_toArray, List.set_cons_zero, List.set_cons_succ]
  refine g_first 4 _ (.agg p.toArray) rfl rfl rfl (by kernel_rfl) (by kernel_rfl) (by kernel_rfl) ?_ ?_
  · refine Or.inl ⟨by rfl, fun w' hw' => ?_⟩
    exact quiet_load 32 _ rfl _ 0 rfl p _ (at_mid (B7_7.out.below hw') 0 _ (by simp)) Tryd.underlying32 rfl p_h.il
  try simp only [List.getElem_toArray, List.getElem_cons_zero, List.getElem_cons_succ, Act.put, List.setIfInBounds_toArray, List.set_cons_zero, List.set_cons_succ]
  refine g_first 5 _ (.agg my.toArray) rfl rfl rfl (by kernel_rfl) (by kernel_rfl) (by kernel_rfl) ?_ ?_
  · refine Or.inl ⟨by rfl, fun w' hw' => ?_⟩
    refine quiet_call (by go_simp) (Q7.out _ (E_7.out.grown hw'))
  try simp only [List.getElem_toArray, List.getElem_cons_zero, List.getElem_cons_succ, Act.put, List.setIfInBounds_toArray, List.set_cons_zero, List.set_cons_succ]
  refine g_first 6 _ (.agg bb.toArray) rfl rfl rfl (by kernel_rfl) (by kernel_rfl) (by kernel_rfl) ?_ ?_
  · refine Or.inl ⟨by rfl, fun w' hw' => ?_⟩
    refine quiet_call (by go_simp) (Q8.out _ (E_7.out.grown hw'))
  try simp only [List.getElem_toArray, List.getElem_cons_zero, List.getElem_cons_succ, Act.put, List.setIfInBounds_toArray, List.set_cons_zero, List.set_cons_succ]
  refine g_make 7 _ (.cells #[.int .u64 0, .int .u64 0, .int .u64 0, .int .u64 0, .int .u64 0, .int .u64 0, .int .u64 0, .int .u64 0, .int .u64 0, .int .u64 0, .int .u64 0, .int .u64 0, .int .u64 0, .int .u64 0, .int .u64 0, .int .u64 0, .int .u64 0, .int .u64 0, .int .u64 0, .int .u64 0] 32) (fun k => (decide (7 ≤ k ∧ k ≤ 7)) || (decide (8 ≤ k ∧ k ≤ 8) && k != 8)) rfl rfl rfl rfl ?_ ?_ (by kernel_rfl) (by kernel_rfl) (by kernel_rfl) (by kernel_rfl) (fun g13 => ?_)
  · intro a w
    go_simp
  · intro j hj
    simp only [Bool.or_eq_true, Bool.and_eq_true, decide_eq_true_eq, bne_iff_ne] at hj
    rcases hj with hj | ⟨hj, hne⟩
    · left
      rcases (show j = 7 by omega) with rfl <;> simp
    · right
      rcases (show j = 8 by omega) with rfl <;> first | exact ⟨_, _, rfl, by decide⟩ | omega
  try simp only [List.getElem_toArray, List.getElem_cons_zero, List.getElem_cons_succ, Act.put, List.setIfInBounds_toArray, List.set_cons_zero, List.set_cons_succ]
  refine g_store 8 7 _ (.cells bb.toArray 32) g13 (.cells #[.int .u64 0, .int .u64 0, .int .u64 0, .int .u64 0, .int .u64 0, .int .u64 0, .int .u64 0, .int .u64 0, .int .u64 0, .int .u64 0, .int .u64 0, .int .u64 0, .int .u64 0, .int .u64 0, .int .u64 0, .int .u64 0, .int .u64 0, .int .u64 0, .int .u64 0, .int .u64 0] 32) (fun k => decide (8 ≤ k ∧ k ≤ 8) && k != 8) rfl rfl rfl rfl ?_ (by kernel_rfl) (by kernel_rfl) (by kernel_rfl) (by kernel_rfl) (by simp [upd]) ?_ ?_
  · intro j hj
    simp only [Bool.and_eq_true, decide_eq_true_eq, bne_iff_ne] at hj
    rcases (show j = 8 by omega) with rfl <;> first | exact ⟨_, _, rfl, by decide⟩ | omega
  · exact stores_whole 32 _ _ rfl g13 bb [.int .u64 0, .int .u64 0, .int .u64 0, .int .u64 0, .int .u64 0, .int .u64 0, .int .u64 0, .int .u64 0, .int .u64 0, .int .u64 0, .int .u64 0, .int .u64 0, .int .u64 0, .int .u64 0, .int .u64 0, .int .u64 0, .int .u64 0, .int .u64 0, .int .u64 0, .int .u64 0] rfl rfl bb_h.len bb_h.is bb_h.one
  try simp only [List.getElem_toArray, List.getElem_cons_zero, List.getElem_cons_succ, Act.put, List.setIfInBounds_toArray, List.set_cons_zero, List.set_cons_succ]
  refine ⟨by kernel_rfl, fun w8 hV => ?_⟩
  have own13 := hV.own 7 _ (by simp [upd]; rfl)
  have B13_8 : Hid (At 32 w8 g13 bb) := own13.2.2
  have szB13 : w.heap.size ≤ g13 := by have h1 := own13.1; have h2 := G_7.out.size; dsimp only at h1; omega
  have nlB4B13 : w.heap.size < g13 := by have h1 := own13.1; have h2 := B4_7.out.lt; dsimp only at h1; omega
  have nlB5B13 : (w.heap.size + 1) < g13 := by have h1 := own13.1; have h2 := B5_7.out.lt; dsimp only at h1; omega
  have nlB7B13 : w3.heap.size < g13 := by have h1 := own13.1; have h2 := B7_7.out.lt; dsimp only at h1; omega
  have nlB9B13 : g9 < g13 := by have h1 := own13.1; have h2 := B9_7.out.lt; dsimp only at h1; omega
  have nlB10B13 : g10 < g13 := by have h1 := own13.1; have h2 := B10_7.out.lt; dsimp only at h1; omega
  have nlB11B13 : w6.heap.size < g13 := by have h1 := own13.1; have h2 := B11_7.out.lt; dsimp only at h1; omega
  have g := hV.bel
  have B4_8 := hid (B4_7.out.below g)
  have B5_8 := hid (B5_7.out.below g)
  have B7_8 := hid (B7_7.out.below g)
  have B9_8 := hid (B9_7.out.below g)
  have B10_8 := hid (B10_7.out.below g)
  have B11_8 := hid (B11_7.out.below g)
  have E_8 := hid (E_7.out.grown g)
  have G_8 := hid (G_7.out.trans (g.mono G_7.out.size))
  clear hV g own13 B4_7 B5_7 B7_7 B9_7 B10_7 B11_7 E_7 G_7
  go_wp2_with fail
  have E_8' := hid (E_8.out.grown (Below.refl _ w8).drew)
  have K8 : At 25 w8.drew w6.heap.size ks ∧ At 32 w8.drew w3.heap.size p ∧ At 32 w8.drew g13 bb ∧ At 25 w8.drew g9 kx ∧ At 25 w8.drew g10 ky := And.intro B11_8.out.drew (And.intro B7_8.out.drew (And.intro B13_8.out.drew (And.intro B9_8.out.drew (B10_8.out.drew))))
  refine wp_region_held_drew (S := fun w' => At 25 w' w6.heap.size ks ∧ At 32 w' w3.heap.size p ∧ At 32 w' g13 bb ∧ At 25 w' g9 kx ∧ At 25 w' g10 ky) (by kernel_rfl) K8 (fun hHeld => ?_)
  clear K8
  refine h_take 0 (v := .agg ks.toArray) rfl (by kernel_rfl) (by kernel_rfl) (by kernel_rfl) (fun _ _ _ h => h) (by rfl) ?hyr9_0 (by assumption) ?_
  case hyr9_0 =>
    intro w' hSw
    exact load_run 25 _ rfl _ 0 rfl ks _ (at_mid hSw.1 0 _ (by simp)) Tryd.underlying25 rfl ks_h.il
  try simp only [Act.put, List.setIfInBounds_toArray, List.set_cons_zero, List.set_cons_succ]
  refine h_take 1 (v := .agg p.toArray) rfl (by kernel_rfl) (by kernel_rfl) (by kernel_rfl) (fun _ _ _ h => h) (by rfl) ?hyr9_1 (by assumption) ?_
  case hyr9_1 =>
    intro w' hSw
    exact load_run 32 _ rfl _ 0 rfl p _ (at_mid hSw.2.1 0 _ (by simp)) Tryd.underlying32 rfl p_h.il
  try simp only [Act.put, List.setIfInBounds_toArray, List.set_cons_zero, List.set_cons_succ]
  refine h_take 3 (v := .agg bb.toArray) rfl (by kernel_rfl) (by kernel_rfl) (by kernel_rfl) (fun _ _ _ h => h) (by rfl) ?hyr9_3 (by assumption) ?_
  case hyr9_3 =>
    intro w' hSw
    exact load_run 32 _ rfl _ 0 rfl bb _ (at_mid hSw.2.2.1 0 _ (by simp)) Tryd.underlying32 rfl bb_h.il
  try simp only [Act.put, List.setIfInBounds_toArray, List.set_cons_zero, List.set_cons_succ]
  refine h_call 2 rfl (by kernel_rfl) (by rfl) (fun Kk hK => ?_)
  go_simp
  (refine (Q9.out _ E_8'.out).mono ?_)
  rintro e w9 ⟨rfl, g0⟩
  have g : Below w8.heap.size w8 w9 := (Below.refl _ w8).drew.trans g0
  clear g0
  have B4_9 := hid (B4_8.out.below g)
  have B5_9 := hid (B5_8.out.below g)
  have B7_9 := hid (B7_8.out.below g)
  have B9_9 := hid (B9_8.out.below g)
  have B10_9 := hid (B10_8.out.below g)
  have B11_9 := hid (B11_8.out.below g)
  have B13_9 := hid (B13_8.out.below g)
  have E_9 := hid (E_8.out.grown g)
  have G_9 := hid (G_8.out.trans (g.mono G_8.out.size))
  clear g B4_8 B5_8 B7_8 B9_8 B10_8 B11_8 B13_8 E_8 G_8
  clear E_8'
  have K9 := And.intro B11_9.out (And.intro B7_9.out (And.intro B13_9.out (And.intro B9_9.out (B10_9.out))))
  go_wp2_with fail
  clear hHeld
  refine hK.out _ _ K9 (fun hHeld => ?_)
  clear hK Kk K9
  try simp only [Act.put, List.setIfInBounds_toArray, List.set_cons_zero, List.set_cons_succ]
  refine h_call 4 rfl (by kernel_rfl) (by rfl) (fun Kk hK => ?_)
  go_simp
  (refine (Q10.out _).mono ?_)
  rintro e w10 ⟨rfl, g0⟩
  have g := g0
  clear g0
  have B4_10 := hid (B4_9.out.below g)
  have B5_10 := hid (B5_9.out.below g)
  have B7_10 := hid (B7_9.out.below g)
  have B9_10 := hid (B9_9.out.below g)
  have B10_10 := hid (B10_9.out.below g)
  have B11_10 := hid (B11_9.out.below g)
  have B13_10 := hid (B13_9.out.below g)
  have E_10 := hid (E_9.out.grown g)
  have G_10 := hid (G_9.out.trans (g.mono G_9.out.size))
  clear g B4_9 B5_9 B7_9 B9_9 B10_9 B11_9 B13_9 E_9 G_9
  have K10 := And.intro B11_10.out (And.intro B7_10.out (And.intro B13_10.out (And.intro B9_10.out (B10_10.out))))
  go_wp2_with fail
  clear hHeld
  refine hK.out _ _ K10 (fun hHeld => ?_)
  clear hK Kk K10
  try simp only [Act.put, List.setIfInBounds_toArray, List.set_cons_zero, List.set_cons_succ]
  refine h_take 5 (v := .bool false) rfl (by kernel_rfl) (by kernel_rfl) (by kernel_rfl) (fun _ _ _ h => h) (by rfl) ?hyr9_5 (by assumption) ?_
  case hyr9_5 =>
    intro w' hSw
    clear hSw
    go_simp
  try simp only [Act.put, List.setIfInBounds_toArray, List.set_cons_zero, List.set_cons_succ]
  refine h_take 6 (v := .bool false) rfl (by kernel_rfl) (by kernel_rfl) (by kernel_rfl) (fun _ _ _ h => h) (by rfl) ?hyr9_6 (by assumption) ?_
  case hyr9_6 =>
    intro w' hSw
    clear hSw
    go_simp
  try simp only [Act.put, List.setIfInBounds_toArray, List.set_cons_zero, List.set_cons_succ]
  refine h_take 7 (v := .agg kx.toArray) rfl (by kernel_rfl) (by kernel_rfl) (by kernel_rfl) (fun _ _ _ h => h) (by rfl) ?hyr9_7 (by assumption) ?_
  case hyr9_7 =>
    intro w' hSw
    exact load_run 25 _ rfl _ 0 rfl kx _ (at_mid hSw.2.2.2.1 0 _ (by simp)) Tryd.underlying25 rfl kx_h.il
  try simp only [Act.put, List.setIfInBounds_toArray, List.set_cons_zero, List.set_cons_succ]
  refine h_take 8 (v := .agg p.toArray) rfl (by kernel_rfl) (by kernel_rfl) (by kernel_rfl) (fun _ _ _ h => h) (by rfl) ?hyr9_8 (by assumption) ?_
  case hyr9_8 =>
    intro w' hSw
    exact load_run 32 _ rfl _ 0 rfl p _ (at_mid hSw.2.1 0 _ (by simp)) Tryd.underlying32 rfl p_h.il
  try simp only [Act.put, List.setIfInBounds_toArray, List.set_cons_zero, List.set_cons_succ]
  refine h_take 9 (v := .agg ky.toArray) rfl (by kernel_rfl) (by kernel_rfl) (by kernel_rfl) (fun _ _ _ h => h) (by rfl) ?hyr9_9 (by assumption) ?_
  case hyr9_9 =>
    intro w' hSw
    exact load_run 25 _ rfl _ 0 rfl ky _ (at_mid hSw.2.2.2.2 0 _ (by simp)) Tryd.underlying25 rfl ky_h.il
  try simp only [Act.put, List.setIfInBounds_toArray, List.set_cons_zero, List.set_cons_succ]
  refine h_take 10 (v := .agg p.toArray) rfl (by kernel_rfl) (by kernel_rfl) (by kernel_rfl) (fun _ _ _ h => h) (by rfl) ?hyr9_10 (by assumption) ?_
  case hyr9_10 =>
    intro w' hSw
    exact load_run 32 _ rfl _ 0 rfl p _ (at_mid hSw.2.1 0 _ (by simp)) Tryd.underlying32 rfl p_h.il
  try simp only [Act.put, List.setIfInBounds_toArray, List.set_cons_zero, List.set_cons_succ]
  refine h_take 12 (v := .agg bb.toArray) rfl (by kernel_rfl) (by kernel_rfl) (by kernel_rfl) (fun _ _ _ h => h) (by rfl) ?hyr9_12 (by assumption) ?_
  case hyr9_12 =>
    intro w' hSw
    exact load_run 32 _ rfl _ 0 rfl bb _ (at_mid hSw.2.2.1 0 _ (by simp)) Tryd.underlying32 rfl bb_h.il
  try simp only [Act.put, List.setIfInBounds_toArray, List.set_cons_zero, List.set_cons_succ]
  refine h_call 11 rfl (by kernel_rfl) (by rfl) (fun Kk hK => ?_)
  go_simp
  (refine (Q11.out _ E_10.out).mono ?_)
  rintro e w11 ⟨rfl, g0⟩
  have g := g0
  clear g0
  have B4_11 := hid (B4_10.out.below g)
  have B5_11 := hid (B5_10.out.below g)
  have B7_11 := hid (B7_10.out.below g)
  have B9_11 := hid (B9_10.out.below g)
  have B10_11 := hid (B10_10.out.below g)
  have B11_11 := hid (B11_10.out.below g)
  have B13_11 := hid (B13_10.out.below g)
  have E_11 := hid (E_10.out.grown g)
  have G_11 := hid (G_10.out.trans (g.mono G_10.out.size))
  clear g B4_10 B5_10 B7_10 B9_10 B10_10 B11_10 B13_10 E_10 G_10
  have K11 := And.intro B11_11.out (And.intro B7_11.out (And.intro B13_11.out (And.intro B9_11.out (B10_11.out))))
  go_wp2_with fail
  clear hHeld
  refine hK.out _ _ K11 (fun hHeld => ?_)
  clear hK Kk K11
  try simp only [Act.put, List.setIfInBounds_toArray, List.set_cons_zero, List.set_cons_succ]
  refine h_call 13 rfl (by kernel_rfl) (by rfl) (fun Kk hK => ?_)
  go_simp
  (refine (Q12.out _).mono ?_)
  rintro e w12 ⟨rfl, g0⟩
  have g := g0
  clear g0
  have B4_12 := hid (B4_11.out.below g)
  have B5_12 := hid (B5_11.out.below g)
  have B7_12 := hid (B7_11.out.below g)
  have B9_12 := hid (B9_11.out.below g)
  have B10_12 := hid (B10_11.out.below g)
  have B11_12 := hid (B11_11.out.below g)
  have B13_12 := hid (B13_11.out.below g)
  have E_12 := hid (E_11.out.grown g)
  have G_12 := hid (G_11.out.trans (g.mono G_11.out.size))
  clear g B4_11 B5_11 B7_11 B9_11 B10_11 B11_11 B13_11 E_11 G_11
  have K12 := And.intro B11_12.out (And.intro B7_12.out (And.intro B13_12.out (And.intro B9_12.out (B10_12.out))))
  go_wp2_with fail
  clear hHeld
  refine hK.out _ _ K12 (fun hHeld => ?_)
  clear hK Kk K12
  try simp only [Act.put, List.setIfInBounds_toArray, List.set_cons_zero, List.set_cons_succ]
  refine h_take 14 (v := .bool false) rfl (by kernel_rfl) (by kernel_rfl) (by kernel_rfl) (fun _ _ _ h => h) (by rfl) ?hyr9_14 (by assumption) ?_
  case hyr9_14 =>
    intro w' hSw
    clear hSw
    go_simp
  try simp only [Act.put, List.setIfInBounds_toArray, List.set_cons_zero, List.set_cons_succ]
  refine h_take 15 (v := .bool false) rfl (by kernel_rfl) (by kernel_rfl) (by kernel_rfl) (fun _ _ _ h => h) (by rfl) ?hyr9_15 (by assumption) ?_
  case hyr9_15 =>
    intro w' hSw
    clear hSw
    go_simp
  try simp only [Act.put, List.setIfInBounds_toArray, List.set_cons_zero, List.set_cons_succ]
  refine h_take 16 (v := .bool false) rfl (by kernel_rfl) (by kernel_rfl) (by kernel_rfl) (fun _ _ _ h => h) (by rfl) ?hyr9_16 (by assumption) ?_
  case hyr9_16 =>
    intro w' hSw
    clear hSw
    go_simp
  try simp only [Act.put, List.setIfInBounds_toArray, List.set_cons_zero, List.set_cons_succ]
  refine h_take 17 (v := .agg #[.int .u64 8, .int .u64 0, .int .u64 0, .int .u64 0]) rfl (by kernel_rfl) (by kernel_rfl) (by kernel_rfl) (fun _ _ _ h => h) (by rfl) ?hyr9_17 (by assumption) ?_
  case hyr9_17 =>
    intro w' hSw
    clear hSw
    go_simp
  try simp only [Act.put, List.setIfInBounds_toArray, List.set_cons_zero, List.set_cons_succ]
  refine h_take 18 (v := .agg p.toArray) rfl (by kernel_rfl) (by kernel_rfl) (by kernel_rfl) (fun _ _ _ h => h) (by rfl) ?hyr9_18 (by assumption) ?_
  case hyr9_18 =>
    intro w' hSw
    exact load_run 32 _ rfl _ 0 rfl p _ (at_mid hSw.2.1 0 _ (by simp)) Tryd.underlying32 rfl p_h.il
  try simp only [Act.put, List.setIfInBounds_toArray, List.set_cons_zero, List.set_cons_succ]
  refine h_take 20 (v := .agg p.toArray) rfl (by kernel_rfl) (by kernel_rfl) (by kernel_rfl) (fun _ _ _ h => h) (by rfl) ?hyr9_20 (by assumption) ?_
  case hyr9_20 =>
    intro w' hSw
    exact load_run 32 _ rfl _ 0 rfl p _ (at_mid hSw.2.1 0 _ (by simp)) Tryd.underlying32 rfl p_h.il
  try simp only [Act.put, List.setIfInBounds_toArray, List.set_cons_zero, List.set_cons_succ]
  refine h_call 19 rfl (by kernel_rfl) (by rfl) (fun Kk hK => ?_)
  go_simp
  (refine (Q13.out _ E_12.out).mono ?_)
  rintro e w13 ⟨rfl, g0⟩
  have g := g0
  clear g0
  have B4_13 := hid (B4_12.out.below g)
  have B5_13 := hid (B5_12.out.below g)
  have B7_13 := hid (B7_12.out.below g)
  have B9_13 := hid (B9_12.out.below g)
  have B10_13 := hid (B10_12.out.below g)
  have B11_13 := hid (B11_12.out.below g)
  have B13_13 := hid (B13_12.out.below g)
  have E_13 := hid (E_12.out.grown g)
  have G_13 := hid (G_12.out.trans (g.mono G_12.out.size))
  clear g B4_12 B5_12 B7_12 B9_12 B10_12 B11_12 B13_12 E_12 G_12
  have K13 := And.intro B11_13.out (And.intro B7_13.out (And.intro B13_13.out (And.intro B9_13.out (B10_13.out))))
  go_wp2_with fail
  clear hHeld
  refine hK.out _ _ K13 (fun hHeld => ?_)
  clear hK Kk K13
  try simp only [Act.put, List.setIfInBounds_toArray, List.set_cons_zero, List.set_cons_succ]
  refine h_call 21 rfl (by kernel_rfl) (by rfl) (fun Kk hK => ?_)
  go_simp
  (refine (Q14.out _ E_13.out).mono ?_)
  rintro e w14 ⟨rfl, g0⟩
  have g := g0
  clear g0
  have B4_14 := hid (B4_13.out.below g)
  have B5_14 := hid (B5_13.out.below g)
  have B7_14 := hid (B7_13.out.below g)
  have B9_14 := hid (B9_13.out.below g)
  have B10_14 := hid (B10_13.out.below g)
  have B11_14 := hid (B11_13.out.below g)
  have B13_14 := hid (B13_13.out.below g)
  have E_14 := hid (E_13.out.grown g)
  have G_14 := hid (G_13.out.trans (g.mono G_13.out.size))
  clear g B4_13 B5_13 B7_13 B9_13 B10_13 B11_13 B13_13 E_13 G_13
  have K14 := And.intro B11_14.out (And.intro B7_14.out (And.intro B13_14.out (And.intro B9_14.out (B10_14.out))))
  go_wp2_with fail
  clear hHeld
  refine hK.out _ _ K14 (fun hHeld => ?_)
  clear hK Kk K14
  try simp only [Act.put, List.setIfInBounds_toArray, List.set_cons_zero, List.set_cons_succ]
  refine h_call 22 rfl (by kernel_rfl) (by rfl) (fun Kk hK => ?_)
  go_simp
  (refine (Q15.out _).mono ?_)
  rintro e w15 ⟨rfl, g0⟩
  have g := g0
  clear g0
  have B4_15 := hid (B4_14.out.below g)
  have B5_15 := hid (B5_14.out.below g)
  have B7_15 := hid (B7_14.out.below g)
  have B9_15 := hid (B9_14.out.below g)
  have B10_15 := hid (B10_14.out.below g)
  have B11_15 := hid (B11_14.out.below g)
  have B13_15 := hid (B13_14.out.below g)
  have E_15 := hid (E_14.out.grown g)
  have G_15 := hid (G_14.out.trans (g.mono G_14.out.size))
  clear g B4_14 B5_14 B7_14 B9_14 B10_14 B11_14 B13_14 E_14 G_14
  have K15 := And.intro B11_15.out (And.intro B7_15.out (And.intro B13_15.out (And.intro B9_15.out (B10_15.out))))
  go_wp2_with fail
  clear hHeld
  refine hK.out _ _ K15 (fun hHeld => ?_)
  clear hK Kk K15
  try simp only [Act.put, List.setIfInBounds_toArray, List.set_cons_zero, List.set_cons_succ]
  refine h_take 23 (v := .bool false) rfl (by kernel_rfl) (by kernel_rfl) (by kernel_rfl) (fun _ _ _ h => h) (by rfl) ?hyr9_23 (by assumption) ?_
  case hyr9_23 =>
    intro w' hSw
    clear hSw
    go_simp
  try simp only [Act.put, List.setIfInBounds_toArray, List.set_cons_zero, List.set_cons_succ]
  refine h_take 24 (v := .bool false) rfl (by kernel_rfl) (by kernel_rfl) (by kernel_rfl) (fun _ _ _ h => h) (by rfl) ?hyr9_24 (by assumption) ?_
  case hyr9_24 =>
    intro w' hSw
    clear hSw
    go_simp
  try simp only [Act.put, List.setIfInBounds_toArray, List.set_cons_zero, List.set_cons_succ]
  refine wpAnyH_done (by kernel_rfl) ?_ _
  clear hHeld
  clear B9_15
  clear B10_15
  clear B11_15
  clear B13_15
  go_wp2_with (fail)
  refine (Q16.out _).mono ?_
  rintro e w16 ⟨rfl, g0⟩
  have g := g0
  clear g0
  have B4_16 := hid (B4_15.out.below g)
  have B5_16 := hid (B5_15.out.below g)
  have B7_16 := hid (B7_15.out.below g)
  have E_16 := hid (E_15.out.grown g)
  have G_16 := hid (G_15.out.trans (g.mono G_15.out.size))
  clear g B4_15 B5_15 B7_15 E_15 G_15
  go_wp2_with (fail)
  refine (Q17.out _).mono ?_
  rintro e w17 ⟨br, rfl, hr, g0⟩
  have g := g0
  clear g0
  have B4_17 := hid (B4_16.out.below g)
  have B5_17 := hid (B5_16.out.below g)
  have B7_17 := hid (B7_16.out.below g)
  have E_17 := hid (E_16.out.grown g)
  have G_17 := hid (G_16.out.trans (g.mono G_16.out.size))
  clear g B4_16 B5_16 B7_16 E_16 G_16
  have Rr_17 : Hid (Rg w17 br L25) := hr
  clear hr
  go_wp2_with (first | (refine wpList_load_mid rfl 25 _ rfl w.heap.size 0 rfl ka _ (at_mid B4_17.out 0 _ (by simp)) Tryd.underlying25 rfl ka_h.il ?_) | fail)
  refine (Q18.out _ E_17.out).mono ?_
  rintro e w18 ⟨rfl, g0⟩
  have g := g0
  clear g0
  have B4_18 := hid (B4_17.out.below g)
  have B5_18 := hid (B5_17.out.below g)
  have B7_18 := hid (B7_17.out.below g)
  have Rr_18 := hid (Rr_17.out.below g)
  have E_18 := hid (E_17.out.grown g)
  have G_18 := hid (G_17.out.trans (g.mono G_17.out.size))
  clear g B4_17 B5_17 B7_17 Rr_17 E_17 G_17
  have szB16 : w.heap.size ≤ w18.heap.size := G_18.out.size
  have nlB4B16 : w.heap.size < w18.heap.size := B4_18.out.lt
  have nlB5B16 : (w.heap.size + 1) < w18.heap.size := B5_18.out.lt
  have nlB7B16 : w3.heap.size < w18.heap.size := B7_18.out.lt
  go_wp2_with (first | (refine list_store_new rfl 32 _ _ rfl w18 bk [.int .u64 0, .int .u64 0, .int .u64 0, .int .u64 0, .int .u64 0, .int .u64 0, .int .u64 0, .int .u64 0, .int .u64 0, .int .u64 0, .int .u64 0, .int .u64 0, .int .u64 0, .int .u64 0, .int .u64 0, .int .u64 0, .int .u64 0, .int .u64 0, .int .u64 0, .int .u64 0] rfl rfl bk_h.len bk_h.is bk_h.one (fun w19 hC g => ?_)) | fail)
  have B16_19 := hid hC
  have B4_19 := hid (B4_18.out.below g)
  have B5_19 := hid (B5_18.out.below g)
  have B7_19 := hid (B7_18.out.below g)
  have Rr_19 := hid (Rr_18.out.below g)
  have E_19 := hid (E_18.out.grown g)
  have G_19 := hid (G_18.out.trans (g.mono G_18.out.size))
  clear hC g B4_18 B5_18 B7_18 Rr_18 E_18 G_18
  go_wp2_with fail
  have E_19' := hid (E_19.out.grown (Below.refl _ w19).drew)
  have Rr_19' := hid (Rr_19.out.below (Below.refl _ w19).drew)
  have K19 : At 25 w19.drew w.heap.size ka ∧ At 32 w19.drew w18.heap.size bk ∧ At 25 w19.drew (w.heap.size + 1) kb ∧ At 32 w19.drew w3.heap.size p := And.intro B4_19.out.drew (And.intro B16_19.out.drew (And.intro B5_19.out.drew (B7_19.out.drew)))
  refine wp_region_held_drew (S := fun w' => At 25 w' w.heap.size ka ∧ At 32 w' w18.heap.size bk ∧ At 25 w' (w.heap.size + 1) kb ∧ At 32 w' w3.heap.size p) (by kernel_rfl) K19 (fun hHeld => ?_)
  clear K19
  refine h_take 0 (v := .int .i64 0) rfl (by kernel_rfl) (by kernel_rfl) (by kernel_rfl) (fun _ _ _ h => h) (by rfl) ?hyr13_0 (by assumption) ?_
  case hyr13_0 =>
    intro w' hSw
    clear hSw
    go_simp
  try simp only [Act.put, List.setIfInBounds_toArray, List.set_cons_zero, List.set_cons_succ]
  refine h_take 1 (v := .bool true) rfl (by kernel_rfl) (by kernel_rfl) (by kernel_rfl) (fun _ _ _ h => h) (by rfl) ?hyr13_1 (by assumption) ?_
  case hyr13_1 =>
    intro w' hSw
    clear hSw
    go_simp
  try simp only [Act.put, List.setIfInBounds_toArray, List.set_cons_zero, List.set_cons_succ]
  refine h_take 2 (v := .bool true) rfl (by kernel_rfl) (by kernel_rfl) (by kernel_rfl) (fun _ _ _ h => h) (by rfl) ?hyr13_2 (by assumption) ?_
  case hyr13_2 =>
    intro w' hSw
    clear hSw
    go_simp
  try simp only [Act.put, List.setIfInBounds_toArray, List.set_cons_zero, List.set_cons_succ]
  refine h_take 3 (v := .pointer (some ⟨br, 0, none⟩)) rfl (by kernel_rfl) (by kernel_rfl) (by kernel_rfl) (fun _ _ _ h => h) (by rfl) ?hyr13_3 (by assumption) ?_
  case hyr13_3 =>
    intro w' hSw
    clear hSw
    go_simp
  try simp only [Act.put, List.setIfInBounds_toArray, List.set_cons_zero, List.set_cons_succ]
  refine h_take 4 (v := .agg ka.toArray) rfl (by kernel_rfl) (by kernel_rfl) (by kernel_rfl) (fun _ _ _ h => h) (by rfl) ?hyr13_4 (by assumption) ?_
  case hyr13_4 =>
    intro w' hSw
    exact load_run 25 _ rfl _ 0 rfl ka _ (at_mid hSw.1 0 _ (by simp)) Tryd.underlying25 rfl ka_h.il
  try simp only [Act.put, List.setIfInBounds_toArray, List.set_cons_zero, List.set_cons_succ]
  refine h_take 7 (v := .agg bk.toArray) rfl (by kernel_rfl) (by kernel_rfl) (by kernel_rfl) (fun _ _ _ h => h) (by rfl) ?hyr13_7 (by assumption) ?_
  case hyr13_7 =>
    intro w' hSw
    exact load_run 32 _ rfl _ 0 rfl bk _ (at_mid hSw.2.1 0 _ (by simp)) Tryd.underlying32 rfl bk_h.il
  try simp only [Act.put, List.setIfInBounds_toArray, List.set_cons_zero, List.set_cons_succ]
  refine h_call 5 rfl (by kernel_rfl) (by rfl) (fun Kk hK => ?_)
  go_simp
  (refine (Q19.out _ _ Rr_19'.out).mono ?_)
  rintro e w20 ⟨rfl, g0⟩
  have g : Below w19.heap.size w19 w20 := (Below.refl _ w19).drew.trans g0
  clear g0
  have B4_20 := hid (B4_19.out.below g)
  have B5_20 := hid (B5_19.out.below g)
  have B7_20 := hid (B7_19.out.below g)
  have B16_20 := hid (B16_19.out.below g)
  have Rr_20 := hid (Rr_19.out.below g)
  have E_20 := hid (E_19.out.grown g)
  have G_20 := hid (G_19.out.trans (g.mono G_19.out.size))
  clear g B4_19 B5_19 B7_19 B16_19 Rr_19 E_19 G_19
  clear Rr_19' E_19'
  have K20 := And.intro B4_20.out (And.intro B16_20.out (And.intro B5_20.out (B7_20.out)))
  go_wp2_with fail
  clear hHeld
  refine hK.out _ _ K20 (fun hHeld => ?_)
  clear hK Kk K20
  try simp only [Act.put, List.setIfInBounds_toArray, List.set_cons_zero, List.set_cons_succ]
  refine h_call 6 rfl (by kernel_rfl) (by rfl) (fun Kk hK => ?_)
  go_simp
  (refine (Q20.out _ E_20.out).mono ?_)
  rintro e w21 ⟨rfl, g0⟩
  have g := g0
  clear g0
  have B4_21 := hid (B4_20.out.below g)
  have B5_21 := hid (B5_20.out.below g)
  have B7_21 := hid (B7_20.out.below g)
  have B16_21 := hid (B16_20.out.below g)
  have Rr_21 := hid (Rr_20.out.below g)
  have E_21 := hid (E_20.out.grown g)
  have G_21 := hid (G_20.out.trans (g.mono G_20.out.size))
  clear g B4_20 B5_20 B7_20 B16_20 Rr_20 E_20 G_20
  have K21 := And.intro B4_21.out (And.intro B16_21.out (And.intro B5_21.out (B7_21.out)))
  go_wp2_with fail
  clear hHeld
  refine hK.out _ _ K21 (fun hHeld => ?_)
  clear hK Kk K21
  try simp only [Act.put, List.setIfInBounds_toArray, List.set_cons_zero, List.set_cons_succ]
  refine h_call 8 rfl (by kernel_rfl) (by rfl) (fun Kk hK => ?_)
  go_simp
  (refine (Q21.out _).mono ?_)
  rintro e w22 ⟨rfl, g0⟩
  have g := g0
  clear g0
  have B4_22 := hid (B4_21.out.below g)
  have B5_22 := hid (B5_21.out.below g)
  have B7_22 := hid (B7_21.out.below g)
  have B16_22 := hid (B16_21.out.below g)
  have Rr_22 := hid (Rr_21.out.below g)
  have E_22 := hid (E_21.out.grown g)
  have G_22 := hid (G_21.out.trans (g.mono G_21.out.size))
  clear g B4_21 B5_21 B7_21 B16_21 Rr_21 E_21 G_21
  have K22 := And.intro B4_22.out (And.intro B16_22.out (And.intro B5_22.out (B7_22.out)))
  go_wp2_with fail
  clear hHeld
  refine hK.out _ _ K22 (fun hHeld => ?_)
  clear hK Kk K22
  try simp only [Act.put, List.setIfInBounds_toArray, List.set_cons_zero, List.set_cons_succ]
  refine h_take 9 (v := .bool true) rfl (by kernel_rfl) (by kernel_rfl) (by kernel_rfl) (fun _ _ _ h => h) (by rfl) ?hyr13_9 (by assumption) ?_
  case hyr13_9 =>
    intro w' hSw
    clear hSw
    go_simp
  try simp only [Act.put, List.setIfInBounds_toArray, List.set_cons_zero, List.set_cons_succ]
  refine h_take 10 (v := .bool true) rfl (by kernel_rfl) (by kernel_rfl) (by kernel_rfl) (fun _ _ _ h => h) (by rfl) ?hyr13_10 (by assumption) ?_
  case hyr13_10 =>
    intro w' hSw
    clear hSw
    go_simp
  try simp only [Act.put, List.setIfInBounds_toArray, List.set_cons_zero, List.set_cons_succ]
  refine h_take 11 (v := .agg bk.toArray) rfl (by kernel_rfl) (by kernel_rfl) (by kernel_rfl) (fun _ _ _ h => h) (by rfl) ?hyr13_11 (by assumption) ?_
  case hyr13_11 =>
    intro w' hSw
    exact load_run 32 _ rfl _ 0 rfl bk _ (at_mid hSw.2.1 0 _ (by simp)) Tryd.underlying32 rfl bk_h.il
  try simp only [Act.put, List.setIfInBounds_toArray, List.set_cons_zero, List.set_cons_succ]
  refine h_call 12 rfl (by kernel_rfl) (by rfl) (fun Kk hK => ?_)
  go_simp
  (refine (Q22.out _ E_22.out).mono ?_)
  rintro e w23 ⟨rfl, g0⟩
  have g := g0
  clear g0
  have B4_23 := hid (B4_22.out.below g)
  have B5_23 := hid (B5_22.out.below g)
  have B7_23 := hid (B7_22.out.below g)
  have B16_23 := hid (B16_22.out.below g)
  have Rr_23 := hid (Rr_22.out.below g)
  have E_23 := hid (E_22.out.grown g)
  have G_23 := hid (G_22.out.trans (g.mono G_22.out.size))
  clear g B4_22 B5_22 B7_22 B16_22 Rr_22 E_22 G_22
  have K23 := And.intro B4_23.out (And.intro B16_23.out (And.intro B5_23.out (B7_23.out)))
  go_wp2_with fail
  clear hHeld
  refine hK.out _ _ K23 (fun hHeld => ?_)
  clear hK Kk K23
  try simp only [Act.put, List.setIfInBounds_toArray, List.set_cons_zero, List.set_cons_succ]
  refine h_take 13 (v := .bool true) rfl (by kernel_rfl) (by kernel_rfl) (by kernel_rfl) (fun _ _ _ h => h) (by rfl) ?hyr13_13 (by assumption) ?_
  case hyr13_13 =>
    intro w' hSw
    clear hSw
    go_simp
  try simp only [Act.put, List.setIfInBounds_toArray, List.set_cons_zero, List.set_cons_succ]
  refine h_take 14 (v := .bool true) rfl (by kernel_rfl) (by kernel_rfl) (by kernel_rfl) (fun _ _ _ h => h) (by rfl) ?hyr13_14 (by assumption) ?_
  case hyr13_14 =>
    intro w' hSw
    clear hSw
    go_simp
  try simp only [Act.put, List.setIfInBounds_toArray, List.set_cons_zero, List.set_cons_succ]
  refine h_take 15 (v := .agg ka.toArray) rfl (by kernel_rfl) (by kernel_rfl) (by kernel_rfl) (fun _ _ _ h => h) (by rfl) ?hyr13_15 (by assumption) ?_
  case hyr13_15 =>
    intro w' hSw
    exact load_run 25 _ rfl _ 0 rfl ka _ (at_mid hSw.1 0 _ (by simp)) Tryd.underlying25 rfl ka_h.il
  try simp only [Act.put, List.setIfInBounds_toArray, List.set_cons_zero, List.set_cons_succ]
  refine h_take 17 (v := .agg kb.toArray) rfl (by kernel_rfl) (by kernel_rfl) (by kernel_rfl) (fun _ _ _ h => h) (by rfl) ?hyr13_17 (by assumption) ?_
  case hyr13_17 =>
    intro w' hSw
    exact load_run 25 _ rfl _ 0 rfl kb _ (at_mid hSw.2.2.1 0 _ (by simp)) Tryd.underlying25 rfl kb_h.il
  try simp only [Act.put, List.setIfInBounds_toArray, List.set_cons_zero, List.set_cons_succ]
  refine h_take 18 (v := .agg p.toArray) rfl (by kernel_rfl) (by kernel_rfl) (by kernel_rfl) (fun _ _ _ h => h) (by rfl) ?hyr13_18 (by assumption) ?_
  case hyr13_18 =>
    intro w' hSw
    exact load_run 32 _ rfl _ 0 rfl p _ (at_mid hSw.2.2.2 0 _ (by simp)) Tryd.underlying32 rfl p_h.il
  try simp only [Act.put, List.setIfInBounds_toArray, List.set_cons_zero, List.set_cons_succ]
  refine h_take 20 (v := .agg bk.toArray) rfl (by kernel_rfl) (by kernel_rfl) (by kernel_rfl) (fun _ _ _ h => h) (by rfl) ?hyr13_20 (by assumption) ?_
  case hyr13_20 =>
    intro w' hSw
    exact load_run 32 _ rfl _ 0 rfl bk _ (at_mid hSw.2.1 0 _ (by simp)) Tryd.underlying32 rfl bk_h.il
  try simp only [Act.put, List.setIfInBounds_toArray, List.set_cons_zero, List.set_cons_succ]
  refine h_take 21 (v := .agg kb.toArray) rfl (by kernel_rfl) (by kernel_rfl) (by kernel_rfl) (fun _ _ _ h => h) (by rfl) ?hyr13_21 (by assumption) ?_
  case hyr13_21 =>
    intro w' hSw
    exact load_run 25 _ rfl _ 0 rfl kb _ (at_mid hSw.2.2.1 0 _ (by simp)) Tryd.underlying25 rfl kb_h.il
  try simp only [Act.put, List.setIfInBounds_toArray, List.set_cons_zero, List.set_cons_succ]
  refine h_take 22 (v := .agg p.toArray) rfl (by kernel_rfl) (by kernel_rfl) (by kernel_rfl) (fun _ _ _ h => h) (by rfl) ?hyr13_22 (by assumption) ?_
  case hyr13_22 =>
    intro w' hSw
    exact load_run 32 _ rfl _ 0 rfl p _ (at_mid hSw.2.2.2 0 _ (by simp)) Tryd.underlying32 rfl p_h.il
  try simp only [Act.put, List.setIfInBounds_toArray, List.set_cons_zero, List.set_cons_succ]
  refine h_call 16 rfl (by kernel_rfl) (by rfl) (fun Kk hK => ?_)
  go_simp
  (refine (Q23.out _ E_23.out).mono ?_)
  rintro e w24 ⟨rfl, g0⟩
  have g := g0
  clear g0
  have B4_24 := hid (B4_23.out.below g)
  have B5_24 := hid (B5_23.out.below g)
  have B7_24 := hid (B7_23.out.below g)
  have B16_24 := hid (B16_23.out.below g)
  have Rr_24 := hid (Rr_23.out.below g)
  have E_24 := hid (E_23.out.grown g)
  have G_24 := hid (G_23.out.trans (g.mono G_23.out.size))
  clear g B4_23 B5_23 B7_23 B16_23 Rr_23 E_23 G_23
  have K24 := And.intro B4_24.out (And.intro B16_24.out (And.intro B5_24.out (B7_24.out)))
  go_wp2_with fail
  clear hHeld
  refine hK.out _ _ K24 (fun hHeld => ?_)
  clear hK Kk K24
  try simp only [Act.put, List.setIfInBounds_toArray, List.set_cons_zero, List.set_cons_succ]
  refine h_call 19 rfl (by kernel_rfl) (by rfl) (fun Kk hK => ?_)
  go_simp
  (refine (Q24.out _ E_24.out).mono ?_)
  rintro e w25 ⟨rfl, g0⟩
  have g := g0
  clear g0
  have B4_25 := hid (B4_24.out.below g)
  have B5_25 := hid (B5_24.out.below g)
  have B7_25 := hid (B7_24.out.below g)
  have B16_25 := hid (B16_24.out.below g)
  have Rr_25 := hid (Rr_24.out.below g)
  have E_25 := hid (E_24.out.grown g)
  have G_25 := hid (G_24.out.trans (g.mono G_24.out.size))
  clear g B4_24 B5_24 B7_24 B16_24 Rr_24 E_24 G_24
  have K25 := And.intro B4_25.out (And.intro B16_25.out (And.intro B5_25.out (B7_25.out)))
  go_wp2_with fail
  clear hHeld
  refine hK.out _ _ K25 (fun hHeld => ?_)
  clear hK Kk K25
  try simp only [Act.put, List.setIfInBounds_toArray, List.set_cons_zero, List.set_cons_succ]
  refine h_call 23 rfl (by kernel_rfl) (by rfl) (fun Kk hK => ?_)
  go_simp
  (refine (Q25.out _ E_25.out).mono ?_)
  rintro e w26 ⟨rfl, g0⟩
  have g := g0
  clear g0
  have B4_26 := hid (B4_25.out.below g)
  have B5_26 := hid (B5_25.out.below g)
  have B7_26 := hid (B7_25.out.below g)
  have B16_26 := hid (B16_25.out.below g)
  have Rr_26 := hid (Rr_25.out.below g)
  have E_26 := hid (E_25.out.grown g)
  have G_26 := hid (G_25.out.trans (g.mono G_25.out.size))
  clear g B4_25 B5_25 B7_25 B16_25 Rr_25 E_25 G_25
  have K26 := And.intro B4_26.out (And.intro B16_26.out (And.intro B5_26.out (B7_26.out)))
  go_wp2_with fail
  clear hHeld
  refine hK.out _ _ K26 (fun hHeld => ?_)
  clear hK Kk K26
  try simp only [Act.put, List.setIfInBounds_toArray, List.set_cons_zero, List.set_cons_succ]
  refine h_call 24 rfl (by kernel_rfl) (by rfl) (fun Kk hK => ?_)
  go_simp
  (refine (Q26.out _ E_26.out).mono ?_)
  rintro e w27 ⟨rfl, g0⟩
  have g := g0
  clear g0
  have B4_27 := hid (B4_26.out.below g)
  have B5_27 := hid (B5_26.out.below g)
  have B7_27 := hid (B7_26.out.below g)
  have B16_27 := hid (B16_26.out.below g)
  have Rr_27 := hid (Rr_26.out.below g)
  have E_27 := hid (E_26.out.grown g)
  have G_27 := hid (G_26.out.trans (g.mono G_26.out.size))
  clear g B4_26 B5_26 B7_26 B16_26 Rr_26 E_26 G_26
  have K27 := And.intro B4_27.out (And.intro B16_27.out (And.intro B5_27.out (B7_27.out)))
  go_wp2_with fail
  clear hHeld
  refine hK.out _ _ K27 (fun hHeld => ?_)
  clear hK Kk K27
  try simp only [Act.put, List.setIfInBounds_toArray, List.set_cons_zero, List.set_cons_succ]
  refine h_call 25 rfl (by kernel_rfl) (by rfl) (fun Kk hK => ?_)
  go_simp
  (refine (Q27.out _).mono ?_)
  rintro e w28 ⟨rfl, g0⟩
  have g := g0
  clear g0
  have B4_28 := hid (B4_27.out.below g)
  have B5_28 := hid (B5_27.out.below g)
  have B7_28 := hid (B7_27.out.below g)
  have B16_28 := hid (B16_27.out.below g)
  have Rr_28 := hid (Rr_27.out.below g)
  have E_28 := hid (E_27.out.grown g)
  have G_28 := hid (G_27.out.trans (g.mono G_27.out.size))
  clear g B4_27 B5_27 B7_27 B16_27 Rr_27 E_27 G_27
  have K28 := And.intro B4_28.out (And.intro B16_28.out (And.intro B5_28.out (B7_28.out)))
  go_wp2_with fail
  clear hHeld
  refine hK.out _ _ K28 (fun hHeld => ?_)
  clear hK Kk K28
  try simp only [Act.put, List.setIfInBounds_toArray, List.set_cons_zero, List.set_cons_succ]
  refine h_take 26 (v := .bool true) rfl (by kernel_rfl) (by kernel_rfl) (by kernel_rfl) (fun _ _ _ h => h) (by rfl) ?hyr13_26 (by assumption) ?_
  case hyr13_26 =>
    intro w' hSw
    clear hSw
    go_simp
  try simp only [Act.put, List.setIfInBounds_toArray, List.set_cons_zero, List.set_cons_succ]
  refine h_take 27 (v := .bool true) rfl (by kernel_rfl) (by kernel_rfl) (by kernel_rfl) (fun _ _ _ h => h) (by rfl) ?hyr13_27 (by assumption) ?_
  case hyr13_27 =>
    intro w' hSw
    clear hSw
    go_simp
  try simp only [Act.put, List.setIfInBounds_toArray, List.set_cons_zero, List.set_cons_succ]
  refine h_take 29 (v := .agg p.toArray) rfl (by kernel_rfl) (by kernel_rfl) (by kernel_rfl) (fun _ _ _ h => h) (by rfl) ?hyr13_29 (by assumption) ?_
  case hyr13_29 =>
    intro w' hSw
    exact load_run 32 _ rfl _ 0 rfl p _ (at_mid hSw.2.2.2 0 _ (by simp)) Tryd.underlying32 rfl p_h.il
  try simp only [Act.put, List.setIfInBounds_toArray, List.set_cons_zero, List.set_cons_succ]
  refine h_call 28 rfl (by kernel_rfl) (by rfl) (fun Kk hK => ?_)
  go_simp
  (refine (Q28.out _).mono ?_)
  rintro e w29 ⟨rfl, g0⟩
  have g := g0
  clear g0
  have B4_29 := hid (B4_28.out.below g)
  have B5_29 := hid (B5_28.out.below g)
  have B7_29 := hid (B7_28.out.below g)
  have B16_29 := hid (B16_28.out.below g)
  have Rr_29 := hid (Rr_28.out.below g)
  have E_29 := hid (E_28.out.grown g)
  have G_29 := hid (G_28.out.trans (g.mono G_28.out.size))
  clear g B4_28 B5_28 B7_28 B16_28 Rr_28 E_28 G_28
  have K29 := And.intro B4_29.out (And.intro B16_29.out (And.intro B5_29.out (B7_29.out)))
  go_wp2_with fail
  clear hHeld
  refine hK.out _ _ K29 (fun hHeld => ?_)
  clear hK Kk K29
  try simp only [Act.put, List.setIfInBounds_toArray, List.set_cons_zero, List.set_cons_succ]
  refine h_call 30 rfl (by kernel_rfl) (by rfl) (fun Kk hK => ?_)
  go_simp
  (refine (Q29.out _ E_29.out).mono ?_)
  rintro e w30 ⟨rfl, g0⟩
  have g := g0
  clear g0
  have B4_30 := hid (B4_29.out.below g)
  have B5_30 := hid (B5_29.out.below g)
  have B7_30 := hid (B7_29.out.below g)
  have B16_30 := hid (B16_29.out.below g)
  have Rr_30 := hid (Rr_29.out.below g)
  have E_30 := hid (E_29.out.grown g)
  have G_30 := hid (G_29.out.trans (g.mono G_29.out.size))
  clear g B4_29 B5_29 B7_29 B16_29 Rr_29 E_29 G_29
  have K30 := And.intro B4_30.out (And.intro B16_30.out (And.intro B5_30.out (B7_30.out)))
  go_wp2_with fail
  clear hHeld
  refine hK.out _ _ K30 (fun hHeld => ?_)
  clear hK Kk K30
  try simp only [Act.put, List.setIfInBounds_toArray, List.set_cons_zero, List.set_cons_succ]
  refine h_call 31 rfl (by kernel_rfl) (by rfl) (fun Kk hK => ?_)
  go_simp
  (refine (Q30.out _ E_30.out).mono ?_)
  rintro e w31 ⟨rfl, g0⟩
  have g := g0
  clear g0
  have B4_31 := hid (B4_30.out.below g)
  have B5_31 := hid (B5_30.out.below g)
  have B7_31 := hid (B7_30.out.below g)
  have B16_31 := hid (B16_30.out.below g)
  have Rr_31 := hid (Rr_30.out.below g)
  have E_31 := hid (E_30.out.grown g)
  have G_31 := hid (G_30.out.trans (g.mono G_30.out.size))
  clear g B4_30 B5_30 B7_30 B16_30 Rr_30 E_30 G_30
  have K31 := And.intro B4_31.out (And.intro B16_31.out (And.intro B5_31.out (B7_31.out)))
  go_wp2_with fail
  clear hHeld
  refine hK.out _ _ K31 (fun hHeld => ?_)
  clear hK Kk K31
  try simp only [Act.put, List.setIfInBounds_toArray, List.set_cons_zero, List.set_cons_succ]
  refine h_call 32 rfl (by kernel_rfl) (by rfl) (fun Kk hK => ?_)
  go_simp
  (refine (Q31.out _).mono ?_)
  rintro e w32 ⟨rfl, g0⟩
  have g := g0
  clear g0
  have B4_32 := hid (B4_31.out.below g)
  have B5_32 := hid (B5_31.out.below g)
  have B7_32 := hid (B7_31.out.below g)
  have B16_32 := hid (B16_31.out.below g)
  have Rr_32 := hid (Rr_31.out.below g)
  have E_32 := hid (E_31.out.grown g)
  have G_32 := hid (G_31.out.trans (g.mono G_31.out.size))
  clear g B4_31 B5_31 B7_31 B16_31 Rr_31 E_31 G_31
  have K32 := And.intro B4_32.out (And.intro B16_32.out (And.intro B5_32.out (B7_32.out)))
  go_wp2_with fail
  clear hHeld
  refine hK.out _ _ K32 (fun hHeld => ?_)
  clear hK Kk K32
  try simp only [Act.put, List.setIfInBounds_toArray, List.set_cons_zero, List.set_cons_succ]
  refine h_call 33 rfl (by kernel_rfl) (by rfl) (fun Kk hK => ?_)
  go_simp
  (refine (Q32.out _).mono ?_)
  rintro e w33 ⟨rfl, g0⟩
  have g := g0
  clear g0
  have B4_33 := hid (B4_32.out.below g)
  have B5_33 := hid (B5_32.out.below g)
  have B7_33 := hid (B7_32.out.below g)
  have B16_33 := hid (B16_32.out.below g)
  have Rr_33 := hid (Rr_32.out.below g)
  have E_33 := hid (E_32.out.grown g)
  have G_33 := hid (G_32.out.trans (g.mono G_32.out.size))
  clear g B4_32 B5_32 B7_32 B16_32 Rr_32 E_32 G_32
  have K33 := And.intro B4_33.out (And.intro B16_33.out (And.intro B5_33.out (B7_33.out)))
  go_wp2_with fail
  clear hHeld
  refine hK.out _ _ K33 (fun hHeld => ?_)
  clear hK Kk K33
  try simp only [Act.put, List.setIfInBounds_toArray, List.set_cons_zero, List.set_cons_succ]
  refine h_take 34 (v := .bool true) rfl (by kernel_rfl) (by kernel_rfl) (by kernel_rfl) (fun _ _ _ h => h) (by rfl) ?hyr13_34 (by assumption) ?_
  case hyr13_34 =>
    intro w' hSw
    clear hSw
    go_simp
  try simp only [Act.put, List.setIfInBounds_toArray, List.set_cons_zero, List.set_cons_succ]
  refine h_take 35 (v := .bool true) rfl (by kernel_rfl) (by kernel_rfl) (by kernel_rfl) (fun _ _ _ h => h) (by rfl) ?hyr13_35 (by assumption) ?_
  case hyr13_35 =>
    intro w' hSw
    clear hSw
    go_simp
  try simp only [Act.put, List.setIfInBounds_toArray, List.set_cons_zero, List.set_cons_succ]
  refine wpAnyH_done (by kernel_rfl) ?_ _
  clear hHeld
  go_wp2_with fail
  go_ret
  exact ⟨rfl, G_33.out⟩
end Go.Proofs.YtedhfimjcpbcpaaDoor.Ed

/-
  The law ComboBack of layer 11, of other bytes: the walk, given what each call answers. Conditions: as each theorem says.
-/
namespace Go.Proofs.YtedhfimjcpbcpaaDoor.Ed
open Go.RowKit
set_option linter.unusedVariables false
set_option linter.unusedSimpArgs false

set_option maxRecDepth 100000 in
set_option maxHeartbeats 16000000 in
theorem back_no_w (ka kb p bs kx ky ks mx my bb ms bt m8 e8 bk b2 b3 mm s3 z8 z kr : List Value) (ka_h : Wl ka) (kb_h : Wl kb) (p_h : Pl p) (bs_h : Pl bs) (kx_h : Wl kx) (ky_h : Wl ky) (ks_h : Wl ks) (mx_h : Pl mx) (my_h : Pl my) (bb_h : Pl bb) (ms_h : Pl ms) (bt_h : Pl bt) (m8_h : Pl m8) (e8_h : Pl e8) (bk_h : Pl bk) (b2_h : Pl b2) (b3_h : Pl b3) (mm_h : Pl mm) (s3_h : Pl s3) (z8_h : Pl z8) (z_h : Pl z) (kr_h : Wl kr) (a0 : Option Addr) (n0 c0 : Nat) (la : List Nat)
    (Q1 : Hid (∀ w : World, Env w → Calls Tryd.prog 6 #[] w fun e w' => e = .returned (.bool true) ∧ Below w.heap.size w w'))
    (Q2 : Hid (∀ (v : Value) (w : World), SK .u8 w v la → Env w → Calls Tryd.prog 7 #[v] w fun e w' => e = .returned (.tuple #[.agg p.toArray, .bool false]) ∧ Below w.heap.size w w'))
    (Q3 : Hid (∀ w : World, Env w → Calls Tryd.prog 25 #[] w fun e w' => e = .returned (.agg bs.toArray) ∧ Below w.heap.size w w'))
    (Q4 : Hid (∀ w : World, Calls Tryd.prog 26 #[.agg ka.toArray, .int .i64 1] w fun e w' => e = .returned (.agg kx.toArray) ∧ Below w.heap.size w w'))
    (Q5 : Hid (∀ w : World, Calls Tryd.prog 26 #[.agg kb.toArray, .int .i64 1] w fun e w' => e = .returned (.agg ky.toArray) ∧ Below w.heap.size w w'))
    (Q6 : Hid (∀ w : World, Calls Tryd.prog 27 #[.agg kx.toArray, .agg ky.toArray] w fun e w' => e = .returned (.tuple #[.agg ks.toArray, .int .u64 0]) ∧ Below w.heap.size w w'))
    (Q7 : Hid (∀ w : World, Env w → Calls Tryd.prog 9 #[.agg kx.toArray, .agg bs.toArray] w fun e w' => e = .returned (.agg mx.toArray) ∧ Below w.heap.size w w'))
    (Q8 : Hid (∀ w : World, Env w → Calls Tryd.prog 9 #[.agg ky.toArray, .agg bs.toArray] w fun e w' => e = .returned (.agg my.toArray) ∧ Below w.heap.size w w'))
    (Q9 : Hid (∀ w : World, Env w → Calls Tryd.prog 28 #[.agg mx.toArray, .agg my.toArray] w fun e w' => e = .returned (.agg bb.toArray) ∧ Below w.heap.size w w'))
    (Q10 : Hid (∀ w : World, Env w → Calls Tryd.prog 9 #[.agg ks.toArray, .agg bs.toArray] w fun e w' => e = .returned (.agg ms.toArray) ∧ Below w.heap.size w w'))
    (Q11 : Hid (∀ w : World, Calls Tryd.prog 18 #[.agg ms.toArray, .agg bb.toArray] w fun e w' => e = .returned (.bool true) ∧ Below w.heap.size w w'))
    (Q12 : Hid (∀ w : World, Env w → Calls Tryd.prog 21 #[.agg kx.toArray, .agg bs.toArray, .agg ky.toArray, .agg bs.toArray] w fun e w' => e = .returned (.agg bt.toArray) ∧ Below w.heap.size w w'))
    (Q13 : Hid (∀ w : World, Calls Tryd.prog 18 #[.agg bt.toArray, .agg bb.toArray] w fun e w' => e = .returned (.bool true) ∧ Below w.heap.size w w'))
    (Q14 : Hid (∀ w : World, Env w → Calls Tryd.prog 9 #[.agg #[.int .u64 8, .int .u64 0, .int .u64 0, .int .u64 0], .agg bs.toArray] w fun e w' => e = .returned (.agg m8.toArray) ∧ Below w.heap.size w w'))
    (Q15 : Hid (∀ w : World, Env w → Calls Tryd.prog 29 #[.agg bs.toArray] w fun e w' => e = .returned (.agg e8.toArray) ∧ Below w.heap.size w w'))
    (Q16 : Hid (∀ w : World, Calls Tryd.prog 18 #[.agg m8.toArray, .agg e8.toArray] w fun e w' => e = .returned (.bool true) ∧ Below w.heap.size w w'))
    (Q17 : Hid (∀ w : World, Calls Tryd.prog 15 #[] w fun e w' => e = .returned (.agg #[.int .u64 6346243789798364141, .int .u64 1503914060200516822, .int .u64 0, .int .u64 1152921504606846976]) ∧ Below w.heap.size w w'))
    (Q18 : Hid (∀ w : World, Calls Tryd.prog 30 #[.agg #[.int .u64 6346243789798364141, .int .u64 1503914060200516822, .int .u64 0, .int .u64 1152921504606846976]] w fun e w' => ∃ b, e = .returned (.tuple #[.pointer (some ⟨b, 0, none⟩), .int .i64 0]) ∧ Rg w' b L25 ∧ Below w.heap.size w w'))
    (Q19 : Hid (∀ w : World, Env w → Calls Tryd.prog 31 #[.agg ka.toArray] w fun e w' => e = .returned (.agg bk.toArray) ∧ Below w.heap.size w w'))
    (Q20 : Hid (∀ (b : Nat) (w : World), Rg w b L25 → Calls Tryd.prog 32 #[.pointer (some ⟨b, 0, none⟩), .agg ka.toArray] w fun e w' => e = .returned (.agg kr.toArray) ∧ Below w.heap.size w w'))
    (Q21 : Hid (∀ w : World, Env w → Calls Tryd.prog 31 #[.agg kr.toArray] w fun e w' => e = .returned (.agg b2.toArray) ∧ Below w.heap.size w w'))
    (Q22 : Hid (∀ w : World, Calls Tryd.prog 18 #[.agg b2.toArray, .agg bk.toArray] w fun e w' => e = .returned (.bool true) ∧ Below w.heap.size w w'))
    (Q23 : Hid (∀ w : World, Env w → Calls Tryd.prog 22 #[.agg bk.toArray] w fun e w' => e = .returned (.bool true) ∧ Below w.heap.size w w'))
    (Q24 : Hid (∀ w : World, Env w → Calls Tryd.prog 25 #[] w fun e w' => e = .returned (.agg bs.toArray) ∧ Below w.heap.size w w'))
    (Q25 : Hid (∀ w : World, Env w → Calls Tryd.prog 21 #[.agg ka.toArray, .agg bs.toArray, .agg kb.toArray, .agg bs.toArray] w fun e w' => e = .returned (.agg b3.toArray) ∧ Below w.heap.size w w'))
    (Q26 : Hid (∀ w : World, Env w → Calls Tryd.prog 9 #[.agg kb.toArray, .agg bs.toArray] w fun e w' => e = .returned (.agg mm.toArray) ∧ Below w.heap.size w w'))
    (Q27 : Hid (∀ w : World, Env w → Calls Tryd.prog 28 #[.agg bk.toArray, .agg mm.toArray] w fun e w' => e = .returned (.agg s3.toArray) ∧ Below w.heap.size w w'))
    (Q28 : Hid (∀ w : World, Calls Tryd.prog 18 #[.agg b3.toArray, .agg s3.toArray] w fun e w' => e = .returned (.bool true) ∧ Below w.heap.size w w'))
    (Q29 : Hid (∀ w : World, Calls Tryd.prog 15 #[] w fun e w' => e = .returned (.agg #[.int .u64 6346243789798364141, .int .u64 1503914060200516822, .int .u64 0, .int .u64 1152921504606846976]) ∧ Below w.heap.size w w'))
    (Q30 : Hid (∀ w : World, Env w → Calls Tryd.prog 29 #[.agg bs.toArray] w fun e w' => e = .returned (.agg e8.toArray) ∧ Below w.heap.size w w'))
    (Q31 : Hid (∀ w : World, Env w → Calls Tryd.prog 9 #[.agg #[.int .u64 6346243789798364141, .int .u64 1503914060200516822, .int .u64 0, .int .u64 1152921504606846976], .agg e8.toArray] w fun e w' => e = .returned (.agg z8.toArray) ∧ Below w.heap.size w w'))
    (Q32 : Hid (∀ w : World, Calls Tryd.prog 33 #[] w fun e w' => e = .returned (.agg z.toArray) ∧ Below w.heap.size w w'))
    (Q33 : Hid (∀ w : World, Calls Tryd.prog 18 #[.agg z8.toArray, .agg z.toArray] w fun e w' => e = .returned (.bool true) ∧ Below w.heap.size w w'))
    (w : World) (Sa_0 : Hid (SK .u8 w (.slice a0 n0 c0) la)) (E_0 : Hid (Env w)) :
    Calls Tryd.prog 5 #[.slice a0 n0 c0, .agg ka.toArray, .agg kb.toArray] w fun e w' => e = .returned (.bool true) ∧ Below w.heap.size w w' := by
  have EE := hid E_0.out
  go_enter Tryd.func5, Tryd.ntmps5
  go_upto_region 1 with fail
  have HE := E_0.out.lt
  refine wp_cut (fun V => At 25 V w.heap.size ka ∧ At 25 V (w.heap.size + 1) kb ∧ SK .u8 V (.slice a0 n0 c0) la ∧ Env V ∧ Below w.heap.size w V) ⟨?_, ?_, ?_, ?_, ?_⟩ ?_
  · (repeat (first | refine At.drew ?_ | refine At.drewN ?_ _ | (refine at_new2 _ _ _ _ ?_; simp; done) | refine at_alloc ?_ _))
  · (repeat (first | refine At.drew ?_ | refine At.drewN ?_ _ | (refine at_new2 _ _ _ _ ?_; simp; done) | refine at_alloc ?_ _))
  · refine Sa_0.out.below ?_
    (repeat (first | exact Below.refl _ _ | refine Below.drew ?_ | refine below_drewN ?_ _ | refine Below.alloc ?_ (by simp <;> omega) _))
  · refine E_0.out.grown ?_
    (repeat (first | exact Below.refl _ _ | refine Below.drew ?_ | refine below_drewN ?_ _ | refine Below.alloc ?_ (by simp <;> omega) _))
  · (repeat (first | exact Below.refl _ _ | refine Below.drew ?_ | refine below_drewN ?_ _ | refine Below.alloc ?_ (by simp <;> omega) _))
  rintro w1 ⟨k0, k1, k2, k3, k4⟩
  have B4_1 := hid k0
  have B5_1 := hid k1
  have Sa_1 := hid k2
  have E_1 := hid k3
  have G_1 := hid k4
  clear k0 k1 k2 k3 k4 Sa_0 E_0
  go_wp2_with (fail)
  refine (Q1.out _ E_1.out).mono ?_
  rintro e w2 ⟨rfl, g0⟩
  have g := g0
  clear g0
  have B4_2 := hid (B4_1.out.below g)
  have B5_2 := hid (B5_1.out.below g)
  have Sa_2 := hid (Sa_1.out.below g)
  have E_2 := hid (E_1.out.grown g)
  have G_2 := hid (G_1.out.trans (g.mono G_1.out.size))
  clear g B4_1 B5_1 Sa_1 E_1 G_1
  go_wp2_with (fail)
  refine (Q2.out _ _ Sa_2.out E_2.out).mono ?_
  rintro e w3 ⟨rfl, g0⟩
  have g := g0
  clear g0
  have B4_3 := hid (B4_2.out.below g)
  have B5_3 := hid (B5_2.out.below g)
  have Sa_3 := hid (Sa_2.out.below g)
  have E_3 := hid (E_2.out.grown g)
  have G_3 := hid (G_2.out.trans (g.mono G_2.out.size))
  clear g B4_2 B5_2 Sa_2 E_2 G_2
  have szB7 : w.heap.size ≤ w3.heap.size := G_3.out.size
  have nlB4B7 : w.heap.size < w3.heap.size := B4_3.out.lt
  have nlB5B7 : (w.heap.size + 1) < w3.heap.size := B5_3.out.lt
  go_wp2_with (first | (refine list_store_new rfl 32 _ _ rfl w3 p [.int .u64 0, .int .u64 0, .int .u64 0, .int .u64 0, .int .u64 0, .int .u64 0, .int .u64 0, .int .u64 0, .int .u64 0, .int .u64 0, .int .u64 0, .int .u64 0, .int .u64 0, .int .u64 0, .int .u64 0, .int .u64 0, .int .u64 0, .int .u64 0, .int .u64 0, .int .u64 0] rfl rfl p_h.len p_h.is p_h.one (fun w4 hC g => ?_)) | fail)
  have B7_4 := hid hC
  have B4_4 := hid (B4_3.out.below g)
  have B5_4 := hid (B5_3.out.below g)
  have Sa_4 := hid (Sa_3.out.below g)
  have E_4 := hid (E_3.out.grown g)
  have G_4 := hid (G_3.out.trans (g.mono G_3.out.size))
  clear hC g B4_3 B5_3 Sa_3 E_3 G_3
  clear Sa_4
  go_wp2_with (fail)
  refine (Q3.out _ E_4.out).mono ?_
  rintro e w5 ⟨rfl, g0⟩
  have g := g0
  clear g0
  have B4_5 := hid (B4_4.out.below g)
  have B5_5 := hid (B5_4.out.below g)
  have B7_5 := hid (B7_4.out.below g)
  have E_5 := hid (E_4.out.grown g)
  have G_5 := hid (G_4.out.trans (g.mono G_4.out.size))
  clear g B4_4 B5_4 B7_4 E_4 G_4
  have nbB4B7 : ¬ (w.heap.size = w3.heap.size) := by omega
  have nbB5B7 : ¬ ((w.heap.size + 1) = w3.heap.size) := by omega
  go_wp2_with (first | (refine list_store_oth rfl 32 _ _ rfl w3.heap.size bs p rfl rfl B7_5.out (bs_h.len.trans p_h.len.symm) bs_h.is bs_h.one (fun w6 hC hO => ?_)) | fail)
  have B4_6 := hid (hO.at B4_5.out nbB4B7)
  have B5_6 := hid (hO.at B5_5.out nbB5B7)
  have B7_6 := hid hC
  have G_6 := hid (Oth.bel G_5.out hO (by omega))
  have E_6 := hid (EE.out.grown G_6.out)
  clear B4_5 B5_5 B7_5 E_5 G_5 hC hO
  clear EE
  go_wp2_with fail
  refine wp_region_grow (ob := (fun k => if k = 4 then some (.cells #[.int .u64 0, .int .u64 0, .int .u64 0, .int .u64 0] 25) else if k = 5 then some (.cells #[.int .u64 0, .int .u64 0, .int .u64 0, .int .u64 0] 25) else none)) (st := (fun k => if k = 6 then some (4, .cells kx.toArray 25) else if k = 7 then some (5, .cells ky.toArray 25) else none)) (by kernel_rfl) ?_
  simp only [List.size_toArray, List.length_cons, List.length_nil, Nat.reduceAdd, Array.replicate_succ, Array.replicate_zero, List.push_toArray, List.nil_append, List.cons_append]
  refine g_first 0 _ (.agg ka.toArray) rfl rfl rfl (by kernel_rfl) (by kernel_rfl) (by kernel_rfl) ?_ ?_
  · refine Or.inl ⟨by rfl, fun w' hw' => ?_⟩
    exact quiet_load 25 _ rfl _ 0 rfl ka _ (at_mid (B4_6.out.below hw') 0 _ (by simp)) Tryd.underlying25 rfl ka_h.il
  try simp only [List.getElem_toArray, List.getElem_cons_zero, List.getElem_cons_succ, Act.put, List.setIfInBounds_toArray, List.set_cons_zero, List.set_cons_succ]
  refine g_first 1 _ (.agg kx.toArray) rfl rfl rfl (by kernel_rfl) (by kernel_rfl) (by kernel_rfl) ?_ ?_
  · refine Or.inl ⟨by rfl, fun w' hw' => ?_⟩
    refine quiet_call (by go_simp) (Q4.out _)
  try simp only [List.getElem_toArray, List.getElem_cons_zero, List.getElem_cons_succ, Act.put, List.setIfInBounds_toArray, List.set_cons_zero, List.set_cons_succ]
  refine g_first 2 _ (.agg kb.toArray) rfl rfl rfl (by kernel_rfl) (by kernel_rfl) (by kernel_rfl) ?_ ?_
  · refine Or.inl ⟨by rfl, fun w' hw' => ?_⟩
    exact quiet_load 25 _ rfl _ 0 rfl kb _ (at_mid (B5_6.out.below hw') 0 _ (by simp)) Tryd.underlying25 rfl kb_h.il
  try simp only [List.getElem_toArray, List.getElem_cons_zero, List.getElem_cons_succ, Act.put, List.setIfInBounds_toArray, List.set_cons_zero, List.set_cons_succ]
  refine g_first 3 _ (.agg ky.toArray) rfl rfl rfl (by kernel_rfl) (by kernel_rfl) (by kernel_rfl) ?_ ?_
  · refine Or.inl ⟨by rfl, fun w' hw' => ?_⟩
    refine quiet_call (by go_simp) (Q5.out _)
  try simp only [List.getElem_toArray, List.getElem_cons_zero, List.getElem_cons_succ, Act.put, List.setIfInBounds_toArray, List.set_cons_zero, List.set_cons_succ]
  refine g_make 4 _ (.cells #[.int .u64 0, .int .u64 0, .int .u64 0, .int .u64 0] 25) (fun k => (decide (4 ≤ k ∧ k ≤ 5)) || (decide (6 ≤ k ∧ k ≤ 7) && k != 6)) rfl rfl rfl rfl ?_ ?_ (by kernel_rfl) (by kernel_rfl) (by kernel_rfl) (by kernel_rfl) (fun g9 => ?_)
  · intro a w
    go_simp
  · intro j hj
    simp only [Bool.or_eq_true, Bool.and_eq_true, decide_eq_true_eq, bne_iff_ne] at hj
    rcases hj with hj | ⟨hj, hne⟩
    · left
      rcases (show j = 4 ∨ j = 5 by omega) with rfl | rfl <;> simp
    · right
      rcases (show j = 6 ∨ j = 7 by omega) with rfl | rfl <;> first | exact ⟨_, _, rfl, by decide⟩ | omega
  try simp only [List.getElem_toArray, List.getElem_cons_zero, List.getElem_cons_succ, Act.put, List.setIfInBounds_toArray, List.set_cons_zero, List.set_cons_succ]
  refine g_make 5 _ (.cells #[.int .u64 0, .int .u64 0, .int .u64 0, .int .u64 0] 25) (fun k => (decide (4 ≤ k ∧ k ≤ 5)) || (decide (6 ≤ k ∧ k ≤ 7) && k != 7)) rfl rfl rfl rfl ?_ ?_ (by kernel_rfl) (by kernel_rfl) (by kernel_rfl) (by kernel_rfl) (fun g10 => ?_)
  · intro a w
    go_simp
  · intro j hj
    simp only [Bool.or_eq_true, Bool.and_eq_true, decide_eq_true_eq, bne_iff_ne] at hj
    rcases hj with hj | ⟨hj, hne⟩
    · left
      rcases (show j = 4 ∨ j = 5 by omega) with rfl | rfl <;> simp
    · right
      rcases (show j = 6 ∨ j = 7 by omega) with rfl | rfl <;> first | exact ⟨_, _, rfl, by decide⟩ | omega
  try simp only [List.getElem_toArray, List.getElem_cons_zero, List.getElem_cons_succ, Act.put, List.setIfInBounds_toArray, List.set_cons_zero, List.set_cons_succ]
  refine g_store 6 4 _ (.cells kx.toArray 25) g9 (.cells #[.int .u64 0, .int .u64 0, .int .u64 0, .int .u64 0] 25) (fun k => decide (6 ≤ k ∧ k ≤ 7) && k != 6) rfl rfl rfl rfl ?_ (by kernel_rfl) (by kernel_rfl) (by kernel_rfl) (by kernel_rfl) (by simp [upd]) ?_ ?_
  · intro j hj
    simp only [Bool.and_eq_true, decide_eq_true_eq, bne_iff_ne] at hj
    rcases (show j = 6 ∨ j = 7 by omega) with rfl | rfl <;> first | exact ⟨_, _, rfl, by decide⟩ | omega
  · exact stores_whole 25 _ _ rfl g9 kx [.int .u64 0, .int .u64 0, .int .u64 0, .int .u64 0] rfl rfl kx_h.len kx_h.is kx_h.one
  try simp only [List.getElem_toArray, List.getElem_cons_zero, List.getElem_cons_succ, Act.put, List.setIfInBounds_toArray, List.set_cons_zero, List.set_cons_succ]
  refine g_store 7 5 _ (.cells ky.toArray 25) g10 (.cells #[.int .u64 0, .int .u64 0, .int .u64 0, .int .u64 0] 25) (fun k => decide (6 ≤ k ∧ k ≤ 7) && k != 7) rfl rfl rfl rfl ?_ (by kernel_rfl) (by kernel_rfl) (by kernel_rfl) (by kernel_rfl) (by simp [upd]) ?_ ?_
  · intro j hj
    simp only [Bool.and_eq_true, decide_eq_true_eq, bne_iff_ne] at hj
    rcases (show j = 6 ∨ j = 7 by omega) with rfl | rfl <;> first | exact ⟨_, _, rfl, by decide⟩ | omega
  · exact stores_whole 25 _ _ rfl g10 ky [.int .u64 0, .int .u64 0, .int .u64 0, .int .u64 0] rfl rfl ky_h.len ky_h.is ky_h.one
  try simp only [List.getElem_toArray, List.getElem_cons_zero, List.getElem_cons_succ, Act.put, List.setIfInBounds_toArray, List.set_cons_zero, List.set_cons_succ]
  refine ⟨by kernel_rfl, fun w7 hV => ?_⟩
  have own9 := hV.own 4 _ (by simp [upd]; rfl)
  have B9_7 : Hid (At 25 w7 g9 kx) := own9.2.2
  have szB9 : w.heap.size ≤ g9 := by have h1 := own9.1; have h2 := G_6.out.size; dsimp only at h1; omega
  have nlB4B9 : w.heap.size < g9 := by have h1 := own9.1; have h2 := B4_6.out.lt; dsimp only at h1; omega
  have nlB5B9 : (w.heap.size + 1) < g9 := by have h1 := own9.1; have h2 := B5_6.out.lt; dsimp only at h1; omega
  have nlB7B9 : w3.heap.size < g9 := by have h1 := own9.1; have h2 := B7_6.out.lt; dsimp only at h1; omega
  have own10 := hV.own 5 _ (by simp [upd]; rfl)
  have B10_7 : Hid (At 25 w7 g10 ky) := own10.2.2
  have szB10 : w.heap.size ≤ g10 := by have h1 := own10.1; have h2 := G_6.out.size; dsimp only at h1; omega
  have nlB4B10 : w.heap.size < g10 := by have h1 := own10.1; have h2 := B4_6.out.lt; dsimp only at h1; omega
  have nlB5B10 : (w.heap.size + 1) < g10 := by have h1 := own10.1; have h2 := B5_6.out.lt; dsimp only at h1; omega
  have nlB7B10 : w3.heap.size < g10 := by have h1 := own10.1; have h2 := B7_6.out.lt; dsimp only at h1; omega
  have g := hV.bel
  have B4_7 := hid (B4_6.out.below g)
  have B5_7 := hid (B5_6.out.below g)
  have B7_7 := hid (B7_6.out.below g)
  have E_7 := hid (E_6.out.grown g)
  have G_7 := hid (G_6.out.trans (g.mono G_6.out.size))
  clear hV g own9 own10 B4_6 B5_6 B7_6 E_6 G_6
  go_wp2_with (first | (refine wpList_load_mid rfl 25 _ rfl g9 0 rfl kx _ (at_mid B9_7.out 0 _ (by simp)) Tryd.underlying25 rfl kx_h.il ?_) | (refine wpList_load_mid rfl 25 _ rfl g10 0 rfl ky _ (at_mid B10_7.out 0 _ (by simp)) Tryd.underlying25 rfl ky_h.il ?_) | fail)
  refine (Q6.out _).mono ?_
  rintro e w8 ⟨rfl, g0⟩
  have g := g0
  clear g0
  have B4_8 := hid (B4_7.out.below g)
  have B5_8 := hid (B5_7.out.below g)
  have B7_8 := hid (B7_7.out.below g)
  have B9_8 := hid (B9_7.out.below g)
  have B10_8 := hid (B10_7.out.below g)
  have E_8 := hid (E_7.out.grown g)
  have G_8 := hid (G_7.out.trans (g.mono G_7.out.size))
  clear g B4_7 B5_7 B7_7 B9_7 B10_7 E_7 G_7
  have szB11 : w.heap.size ≤ w8.heap.size := G_8.out.size
  have nlB4B11 : w.heap.size < w8.heap.size := B4_8.out.lt
  have nlB5B11 : (w.heap.size + 1) < w8.heap.size := B5_8.out.lt
  have nlB7B11 : w3.heap.size < w8.heap.size := B7_8.out.lt
  have nlB9B11 : g9 < w8.heap.size := B9_8.out.lt
  have nlB10B11 : g10 < w8.heap.size := B10_8.out.lt
  go_wp2_with (first | (refine list_store_new rfl 25 _ _ rfl w8 ks [.int .u64 0, .int .u64 0, .int .u64 0, .int .u64 0] rfl rfl ks_h.len ks_h.is ks_h.one (fun w9 hC g => ?_)) | fail)
  have B11_9 := hid hC
  have B4_9 := hid (B4_8.out.below g)
  have B5_9 := hid (B5_8.out.below g)
  have B7_9 := hid (B7_8.out.below g)
  have B9_9 := hid (B9_8.out.below g)
  have B10_9 := hid (B10_8.out.below g)
  have E_9 := hid (E_8.out.grown g)
  have G_9 := hid (G_8.out.trans (g.mono G_8.out.size))
  clear hC g B4_8 B5_8 B7_8 B9_8 B10_8 E_8 G_8
  go_wp2_with fail
  refine wp_region_grow (ob := (fun k => if k = 7 then some (.cells #[.int .u64 0, .int .u64 0, .int .u64 0, .int .u64 0, .int .u64 0, .int .u64 0, .int .u64 0, .int .u64 0, .int .u64 0, .int .u64 0, .int .u64 0, .int .u64 0, .int .u64 0, .int .u64 0, .int .u64 0, .int .u64 0, .int .u64 0, .int .u64 0, .int .u64 0, .int .u64 0] 32) else none)) (st := (fun k => if k = 8 then some (7, .cells bb.toArray 32) else none)) (by kernel_rfl) ?_
  simp only [List.size_toArray, List.length_cons, List.length_nil, Nat.reduceAdd, Array.replicate_succ, Array.replicate_zero, List.push_toArray, List.nil_append, List.cons_append]
  refine g_first 0 _ (.agg kx.toArray) rfl rfl rfl (by kernel_rfl) (by kernel_rfl) (by kernel_rfl) ?_ ?_
  · refine Or.inl ⟨by rfl, fun w' hw' => ?_⟩
    exact quiet_load 25 _ rfl _ 0 rfl kx _ (at_mid (B9_9.out.below hw') 0 _ (by simp)) Tryd.underlying25 rfl kx_h.il
  try simp only [List.getElem_toArray, List.getElem_cons_zero, List.getElem_cons_succ, Act.put, List.setIfInBounds_toArray, List.set_cons_zero, List.set_cons_succ]
  refine g_first 1 _ (.agg bs.toArray) rfl rfl rfl (by kernel_rfl) (by kernel_rfl) (by kernel_rfl) ?_ ?_
  · refine Or.inl ⟨by rfl, fun w' hw' => ?_⟩
    exact quiet_load 32 _ rfl _ 0 rfl bs _ (at_mid (B7_9.out.below hw') 0 _ (by simp)) Tryd.underlying32 rfl bs_h.il
  try simp only [List.getElem_toArray, List.getElem_cons_zero, List.getElem_cons_succ, Act.put, List.setIfInBounds_toArray, List.set_cons_zero, List.set_cons_succ]
  refine g_first 2 _ (.agg mx.toArray) rfl rfl rfl (by kernel_rfl) (by kernel_rfl) (by kernel_rfl) ?_ ?_
  · refine Or.inl ⟨by rfl, fun w' hw' => ?_⟩
    refine quiet_call (by go_simp) (Q7.out _ (E_9.out.grown hw'))
  try simp only [List.getElem_toArray, List.getElem_cons_zero, List.getElem_cons_succ, Act.put, List.setIfInBounds_toArray, List.set_cons_zero, List.set_cons_succ]
  refine g_first 3 _ (.agg ky.toArray) rfl rfl rfl (by kernel_rfl) (by kernel_rfl) (by kernel_rfl) ?_ ?_
  · refine Or.inl ⟨by rfl, fun w' hw' => ?_⟩
    exact quiet_load 25 _ rfl _ 0 rfl ky _ (at_mid (B10_9.out.below hw') 0 _ (by simp)) Tryd.underlying25 rfl ky_h.il
  try simp only [List.getElem_toArray, List.getElem_cons_zero, List.getElem_cons_succ, Act.put, List.setIfInBounds_toArray, List.set_cons_zero, List.set_cons_succ]
  refine g_first 4 _ (.agg bs.toArray) rfl rfl rfl (by kernel_rfl) (by kernel_rfl) (by kernel_rfl) ?_ ?_
  · refine Or.inl ⟨by rfl, fun w' hw' => ?_⟩
    exact quiet_load 32 _ rfl _ 0 rfl bs _ (at_mid (B7_9.out.below hw') 0 _ (by simp)) Tryd.underlying32 rfl bs_h.il
  try simp only [List.getElem_toArray, List.getElem_cons_zero, List.getElem_cons_succ, Act.put, List.setIfInBounds_toArray, List.set_cons_zero, List.set_cons_succ]
  refine g_first 5 _ (.agg my.toArray) rfl rfl rfl (by kernel_rfl) (by kernel_rfl) (by kernel_rfl) ?_ ?_
  · refine Or.inl ⟨by rfl, fun w' hw' => ?_⟩
    refine quiet_call (by go_simp) (Q8.out _ (E_9.out.grown hw'))
  try simp only [List.getElem_toArray, List.getElem_cons_zero, List.getElem_cons_succ, Act.put, List.setIfInBounds_toArray, List.set_cons_zero, List.set_cons_succ]
  refine g_first 6 _ (.agg bb.toArray) rfl rfl rfl (by kernel_rfl) (by kernel_rfl) (by kernel_rfl) ?_ ?_
  · refine Or.inl ⟨by rfl, fun w' hw' => ?_⟩
    refine quiet_call (by go_simp) (Q9.out _ (E_9.out.grown hw'))
  try simp only [List.getElem_toArray, List.getElem_cons_zero, List.getElem_cons_succ, Act.put, List.setIfInBounds_toArray, List.set_cons_zero, List.set_cons_succ]
  refine g_make 7 _ (.cells #[.int .u64 0, .int .u64 0, .int .u64 0, .int .u64 0, .int .u64 0, .int .u64 0, .int .u64 0, .int .u64 0, .int .u64 0, .int .u64 0, .int .u64 0, .int .u64 0, .int .u64 0, .int .u64 0, .int .u64 0, .int .u64 0, .int .u64 0, .int .u64 0, .int .u64 0, .int .u64 0] 32) (fun k => (decide (7 ≤ k ∧ k ≤ 7)) || (decide (8 ≤ k ∧ k ≤ 8) && k != 8)) rfl rfl rfl rfl ?_ ?_ (by kernel_rfl) (by kernel_rfl) (by kernel_rfl) (by kernel_rfl) (fun g13 => ?_)
  · intro a w
    go_simp
  · intro j hj
    simp only [Bool.or_eq_true, Bool.and_eq_true, decide_eq_true_eq, bne_iff_ne] at hj
    rcases hj with hj | ⟨hj, hne⟩
    · left
      rcases (show j = 7 by omega) with rfl <;> simp
    · right
      rcases (show j = 8 by omega) with rfl <;> first | exact ⟨_, _, rfl, by decide⟩ | omega
  try simp only [List.getElem_toArray, List.getElem_cons_zero, List.getElem_cons_succ, Act.put, List.setIfInBounds_toArray, List.set_cons_zero, List.set_cons_succ]
  refine g_store 8 7 _ (.cells bb.toArray 32) g13 (.cells #[.int .u64 0, .int .u64 0, .int .u64 0, .int .u64 0, .int .u64 0, .int .u64 0, .int .u64 0, .int .u64 0, .int .u64 0, .int .u64 0, .int .u64 0, .int .u64 0, .int .u64 0, .int .u64 0, .int .u64 0, .int .u64 0, .int .u64 0, .int .u64 0, .int .u64 0, .int .u64 0] 32) (fun k => decide (8 ≤ k ∧ k ≤ 8) && k != 8) rfl rfl rfl rfl ?_ (by kernel_rfl) (by kernel_rfl) (by kernel_rfl) (by kernel_rfl) (by simp [upd]) ?_ ?_
  · intro j hj
    simp only [Bool.and_eq_true, decide_eq_true_eq, bne_iff_ne] at hj
    rcases (show j = 8 by omega) with rfl <;> first | exact ⟨_, _, rfl, by decide⟩ | omega
  · exact stores_whole 32 _ _ rfl g13 bb [.int .u64 0, .int .u64 0, .int .u64 0, .int .u64 0, .int .u64 0, .int .u64 0, .int .u64 0, .int .u64 0, .int .u64 0, .int .u64 0, .int .u64 0, .int .u64 0, .int .u64 0, .int .u64 0, .int .u64 0, .int .u64 0, .int .u64 0, .int .u64 0, .int .u64 0, .int .u64 0] rfl rfl bb_h.len bb_h.is bb_h.one
  try simp only [List.getElem_toArray, List.getElem_cons_zero, List.getElem_cons_succ, Act.put, List.setIfInBounds_toArray, List.set_cons_zero, List.set_cons_succ]
  refine ⟨by kernel_rfl, fun w10 hV => ?_⟩
  have own13 := hV.own 7 _ (by simp [upd]; rfl)
  have B13_10 : Hid (At 32 w10 g13 bb) := own13.2.2
  have szB13 : w.heap.size ≤ g13 := by have h1 := own13.1; have h2 := G_9.out.size; dsimp only at h1; omega
  have nlB4B13 : w.heap.size < g13 := by have h1 := own13.1; have h2 := B4_9.out.lt; dsimp only at h1; omega
  have nlB5B13 : (w.heap.size + 1) < g13 := by have h1 := own13.1; have h2 := B5_9.out.lt; dsimp only at h1; omega
  have nlB7B13 : w3.heap.size < g13 := by have h1 := own13.1; have h2 := B7_9.out.lt; dsimp only at h1; omega
  have nlB9B13 : g9 < g13 := by have h1 := own13.1; have h2 := B9_9.out.lt; dsimp only at h1; omega
  have nlB10B13 : g10 < g13 := by have h1 := own13.1; have h2 := B10_9.out.lt; dsimp only at h1; omega
  have nlB11B13 : w8.heap.size < g13 := by have h1 := own13.1; have h2 := B11_9.out.lt; dsimp only at h1; omega
  have g := hV.bel
  have B4_10 := hid (B4_9.out.below g)
  have B5_10 := hid (B5_9.out.below g)
  have B7_10 := hid (B7_9.out.below g)
  have B9_10 := hid (B9_9.out.below g)
  have B10_10 := hid (B10_9.out.below g)
  have B11_10 := hid (B11_9.out.below g)
  have E_10 := hid (E_9.out.grown g)
  have G_10 := hid (G_9.out.trans (g.mono G_9.out.size))
  clear hV g own13 B4_9 B5_9 B7_9 B9_9 B10_9 B11_9 E_9 G_9
  go_wp2_with fail
  have E_10' := hid (E_10.out.grown (Below.refl _ w10).drew)
  have K10 : At 25 w10.drew w8.heap.size ks ∧ At 32 w10.drew w3.heap.size bs ∧ At 32 w10.drew g13 bb ∧ At 25 w10.drew g9 kx ∧ At 25 w10.drew g10 ky := And.intro B11_10.out.drew (And.intro B7_10.out.drew (And.intro B13_10.out.drew (And.intro B9_10.out.drew (B10_10.out.drew))))
  refine wp_region_held_drew (S := fun w' => At 25 w' w8.heap.size ks ∧ At 32 w' w3.heap.size bs ∧ At 32 w' g13 bb ∧ At 25 w' g9 kx ∧ At 25 w' g10 ky) (by kernel_rfl) K10 (fun hHeld => ?_)
  clear K10
  refine h_take 0 (v := .agg ks.toArray) rfl (by kernel_rfl) (by kernel_rfl) (by kernel_rfl) (fun _ _ _ h => h) (by rfl) ?hyr9_0 (by assumption) ?_
  case hyr9_0 =>
    intro w' hSw
    exact load_run 25 _ rfl _ 0 rfl ks _ (at_mid hSw.1 0 _ (by simp)) Tryd.underlying25 rfl ks_h.il
  try simp only [Act.put, List.setIfInBounds_toArray, List.set_cons_zero, List.set_cons_succ]
  refine h_take 1 (v := .agg bs.toArray) rfl (by kernel_rfl) (by kernel_rfl) (by kernel_rfl) (fun _ _ _ h => h) (by rfl) ?hyr9_1 (by assumption) ?_
  case hyr9_1 =>
    intro w' hSw
    exact load_run 32 _ rfl _ 0 rfl bs _ (at_mid hSw.2.1 0 _ (by simp)) Tryd.underlying32 rfl bs_h.il
  try simp only [Act.put, List.setIfInBounds_toArray, List.set_cons_zero, List.set_cons_succ]
  refine h_take 3 (v := .agg bb.toArray) rfl (by kernel_rfl) (by kernel_rfl) (by kernel_rfl) (fun _ _ _ h => h) (by rfl) ?hyr9_3 (by assumption) ?_
  case hyr9_3 =>
    intro w' hSw
    exact load_run 32 _ rfl _ 0 rfl bb _ (at_mid hSw.2.2.1 0 _ (by simp)) Tryd.underlying32 rfl bb_h.il
  try simp only [Act.put, List.setIfInBounds_toArray, List.set_cons_zero, List.set_cons_succ]
  refine h_call 2 rfl (by kernel_rfl) (by rfl) (fun Kk hK => ?_)
  go_simp
  (refine (Q10.out _ E_10'.out).mono ?_)
  rintro e w11 ⟨rfl, g0⟩
  have g : Below w10.heap.size w10 w11 := (Below.refl _ w10).drew.trans g0
  clear g0
  have B4_11 := hid (B4_10.out.below g)
  have B5_11 := hid (B5_10.out.below g)
  have B7_11 := hid (B7_10.out.below g)
  have B9_11 := hid (B9_10.out.below g)
  have B10_11 := hid (B10_10.out.below g)
  have B11_11 := hid (B11_10.out.below g)
  have B13_11 := hid (B13_10.out.below g)
  have E_11 := hid (E_10.out.grown g)
  have G_11 := hid (G_10.out.trans (g.mono G_10.out.size))
  clear g B4_10 B5_10 B7_10 B9_10 B10_10 B11_10 B13_10 E_10 G_10
  clear E_10'
  have K11 := And.intro B11_11.out (And.intro B7_11.out (And.intro B13_11.out (And.intro B9_11.out (B10_11.out))))
  go_wp2_with fail
  clear hHeld
  refine hK.out _ _ K11 (fun hHeld => ?_)
  clear hK Kk K11
  try simp only [Act.put, List.setIfInBounds_toArray, List.set_cons_zero, List.set_cons_succ]
  refine h_call 4 rfl (by kernel_rfl) (by rfl) (fun Kk hK => ?_)
  go_simp
  (refine (Q11.out _).mono ?_)
  rintro e w12 ⟨rfl, g0⟩
  have g := g0
  clear g0
  have B4_12 := hid (B4_11.out.below g)
  have B5_12 := hid (B5_11.out.below g)
  have B7_12 := hid (B7_11.out.below g)
  have B9_12 := hid (B9_11.out.below g)
  have B10_12 := hid (B10_11.out.below g)
  have B11_12 := hid (B11_11.out.below g)
  have B13_12 := hid (B13_11.out.below g)
  have E_12 := hid (E_11.out.grown g)
  have G_12 := hid (G_11.out.trans (g.mono G_11.out.size))
  clear g B4_11 B5_11 B7_11 B9_11 B10_11 B11_11 B13_11 E_11 G_11
  have K12 := And.intro B11_12.out (And.intro B7_12.out (And.intro B13_12.out (And.intro B9_12.out (B10_12.out))))
  go_wp2_with fail
  clear hHeld
  refine hK.out _ _ K12 (fun hHeld => ?_)
  clear hK Kk K12
  try simp only [Act.put, List.setIfInBounds_toArray, List.set_cons_zero, List.set_cons_succ]
  refine h_take 5 (v := .bool false) rfl (by kernel_rfl) (by kernel_rfl) (by kernel_rfl) (fun _ _ _ h => h) (by rfl) ?hyr9_5 (by assumption) ?_
  case hyr9_5 =>
    intro w' hSw
    clear hSw
    go_simp
  try simp only [Act.put, List.setIfInBounds_toArray, List.set_cons_zero, List.set_cons_succ]
  refine h_take 6 (v := .bool false) rfl (by kernel_rfl) (by kernel_rfl) (by kernel_rfl) (fun _ _ _ h => h) (by rfl) ?hyr9_6 (by assumption) ?_
  case hyr9_6 =>
    intro w' hSw
    clear hSw
    go_simp
  try simp only [Act.put, List.setIfInBounds_toArray, List.set_cons_zero, List.set_cons_succ]
  refine h_take 7 (v := .agg kx.toArray) rfl (by kernel_rfl) (by kernel_rfl) (by kernel_rfl) (fun _ _ _ h => h) (by rfl) ?hyr9_7 (by assumption) ?_
  case hyr9_7 =>
    intro w' hSw
    exact load_run 25 _ rfl _ 0 rfl kx _ (at_mid hSw.2.2.2.1 0 _ (by simp)) Tryd.underlying25 rfl kx_h.il
  try simp only [Act.put, List.setIfInBounds_toArray, List.set_cons_zero, List.set_cons_succ]
  refine h_take 8 (v := .agg bs.toArray) rfl (by kernel_rfl) (by kernel_rfl) (by kernel_rfl) (fun _ _ _ h => h) (by rfl) ?hyr9_8 (by assumption) ?_
  case hyr9_8 =>
    intro w' hSw
    exact load_run 32 _ rfl _ 0 rfl bs _ (at_mid hSw.2.1 0 _ (by simp)) Tryd.underlying32 rfl bs_h.il
  try simp only [Act.put, List.setIfInBounds_toArray, List.set_cons_zero, List.set_cons_succ]
  refine h_take 9 (v := .agg ky.toArray) rfl (by kernel_rfl) (by kernel_rfl) (by kernel_rfl) (fun _ _ _ h => h) (by rfl) ?hyr9_9 (by assumption) ?_
  case hyr9_9 =>
    intro w' hSw
    exact load_run 25 _ rfl _ 0 rfl ky _ (at_mid hSw.2.2.2.2 0 _ (by simp)) Tryd.underlying25 rfl ky_h.il
  try simp only [Act.put, List.setIfInBounds_toArray, List.set_cons_zero, List.set_cons_succ]
  refine h_take 10 (v := .agg bs.toArray) rfl (by kernel_rfl) (by kernel_rfl) (by kernel_rfl) (fun _ _ _ h => h) (by rfl) ?hyr9_10 (by assumption) ?_
  case hyr9_10 =>
    intro w' hSw
    exact load_run 32 _ rfl _ 0 rfl bs _ (at_mid hSw.2.1 0 _ (by simp)) Tryd.underlying32 rfl bs_h.il
  try simp only [Act.put, List.setIfInBounds_toArray, List.set_cons_zero, List.set_cons_succ]
  refine h_take 12 (v := .agg bb.toArray) rfl (by kernel_rfl) (by kernel_rfl) (by kernel_rfl) (fun _ _ _ h => h) (by rfl) ?hyr9_12 (by assumption) ?_
  case hyr9_12 =>
    intro w' hSw
    exact load_run 32 _ rfl _ 0 rfl bb _ (at_mid hSw.2.2.1 0 _ (by simp)) Tryd.underlying32 rfl bb_h.il
  try simp only [Act.put, List.setIfInBounds_toArray, List.set_cons_zero, List.set_cons_succ]
  refine h_call 11 rfl (by kernel_rfl) (by rfl) (fun Kk hK => ?_)
  go_simp
  (refine (Q12.out _ E_12.out).mono ?_)
  rintro e w13 ⟨rfl, g0⟩
  have g := g0
  clear g0
  have B4_13 := hid (B4_12.out.below g)
  have B5_13 := hid (B5_12.out.below g)
  have B7_13 := hid (B7_12.out.below g)
  have B9_13 := hid (B9_12.out.below g)
  have B10_13 := hid (B10_12.out.below g)
  have B11_13 := hid (B11_12.out.below g)
  have B13_13 := hid (B13_12.out.below g)
  have E_13 := hid (E_12.out.grown g)
  have G_13 := hid (G_12.out.trans (g.mono G_12.out.size))
  clear g B4_12 B5_12 B7_12 B9_12 B10_12 B11_12 B13_12 E_12 G_12
  have K13 := And.intro B11_13.out (And.intro B7_13.out (And.intro B13_13.out (And.intro B9_13.out (B10_13.out))))
  go_wp2_with fail
  clear hHeld
  refine hK.out _ _ K13 (fun hHeld => ?_)
  clear hK Kk K13
  try simp only [Act.put, List.setIfInBounds_toArray, List.set_cons_zero, List.set_cons_succ]
  refine h_call 13 rfl (by kernel_rfl) (by rfl) (fun Kk hK => ?_)
  go_simp
  (refine (Q13.out _).mono ?_)
  rintro e w14 ⟨rfl, g0⟩
  have g := g0
  clear g0
  have B4_14 := hid (B4_13.out.below g)
  have B5_14 := hid (B5_13.out.below g)
  have B7_14 := hid (B7_13.out.below g)
  have B9_14 := hid (B9_13.out.below g)
  have B10_14 := hid (B10_13.out.below g)
  have B11_14 := hid (B11_13.out.below g)
  have B13_14 := hid (B13_13.out.below g)
  have E_14 := hid (E_13.out.grown g)
  have G_14 := hid (G_13.out.trans (g.mono G_13.out.size))
  clear g B4_13 B5_13 B7_13 B9_13 B10_13 B11_13 B13_13 E_13 G_13
  have K14 := And.intro B11_14.out (And.intro B7_14.out (And.intro B13_14.out (And.intro B9_14.out (B10_14.out))))
  go_wp2_with fail
  clear hHeld
  refine hK.out _ _ K14 (fun hHeld => ?_)
  clear hK Kk K14
  try simp only [Act.put, List.setIfInBounds_toArray, List.set_cons_zero, List.set_cons_succ]
  refine h_take 14 (v := .bool false) rfl (by kernel_rfl) (by kernel_rfl) (by kernel_rfl) (fun _ _ _ h => h) (by rfl) ?hyr9_14 (by assumption) ?_
  case hyr9_14 =>
    intro w' hSw
    clear hSw
    go_simp
  try simp only [Act.put, List.setIfInBounds_toArray, List.set_cons_zero, List.set_cons_succ]
  refine h_take 15 (v := .bool false) rfl (by kernel_rfl) (by kernel_rfl) (by kernel_rfl) (fun _ _ _ h => h) (by rfl) ?hyr9_15 (by assumption) ?_
  case hyr9_15 =>
    intro w' hSw
    clear hSw
    go_simp
  try simp only [Act.put, List.setIfInBounds_toArray, List.set_cons_zero, List.set_cons_succ]
  refine h_take 16 (v := .bool false) rfl (by kernel_rfl) (by kernel_rfl) (by kernel_rfl) (fun _ _ _ h => h) (by rfl) ?hyr9_16 (by assumption) ?_
  case hyr9_16 =>
    intro w' hSw
    clear hSw
    go_simp
  try simp only [Act.put, List.setIfInBounds_toArray, List.set_cons_zero, List.set_cons_succ]
  refine h_take 17 (v := .agg #[.int .u64 8, .int .u64 0, .int .u64 0, .int .u64 0]) rfl (by kernel_rfl) (by kernel_rfl) (by kernel_rfl) (fun _ _ _ h => h) (by rfl) ?hyr9_17 (by assumption) ?_
  case hyr9_17 =>
    intro w' hSw
    clear hSw
    go_simp
  try simp only [Act.put, List.setIfInBounds_toArray, List.set_cons_zero, List.set_cons_succ]
  refine h_take 18 (v := .agg bs.toArray) rfl (by kernel_rfl) (by kernel_rfl) (by kernel_rfl) (fun _ _ _ h => h) (by rfl) ?hyr9_18 (by assumption) ?_
  case hyr9_18 =>
    intro w' hSw
    exact load_run 32 _ rfl _ 0 rfl bs _ (at_mid hSw.2.1 0 _ (by simp)) Tryd.underlying32 rfl bs_h.il
  try simp only [Act.put, List.setIfInBounds_toArray, List.set_cons_zero, List.set_cons_succ]
  refine h_take 20 (v := .agg bs.toArray) rfl (by kernel_rfl) (by kernel_rfl) (by kernel_rfl) (fun _ _ _ h => h) (by rfl) ?hyr9_20 (by assumption) ?_
  case hyr9_20 =>
    intro w' hSw
    exact load_run 32 _ rfl _ 0 rfl bs _ (at_mid hSw.2.1 0 _ (by simp)) Tryd.underlying32 rfl bs_h.il
  try simp only [Act.put, List.setIfInBounds_toArray, List.set_cons_zero, List.set_cons_succ]
  refine h_call 19 rfl (by kernel_rfl) (by rfl) (fun Kk hK => ?_)
  go_simp
  (refine (Q14.out _ E_14.out).mono ?_)
  rintro e w15 ⟨rfl, g0⟩
  have g := g0
  clear g0
  have B4_15 := hid (B4_14.out.below g)
  have B5_15 := hid (B5_14.out.below g)
  have B7_15 := hid (B7_14.out.below g)
  have B9_15 := hid (B9_14.out.below g)
  have B10_15 := hid (B10_14.out.below g)
  have B11_15 := hid (B11_14.out.below g)
  have B13_15 := hid (B13_14.out.below g)
  have E_15 := hid (E_14.out.grown g)
  have G_15 := hid (G_14.out.trans (g.mono G_14.out.size))
  clear g B4_14 B5_14 B7_14 B9_14 B10_14 B11_14 B13_14 E_14 G_14
  have K15 := And.intro B11_15.out (And.intro B7_15.out (And.intro B13_15.out (And.intro B9_15.out (B10_15.out))))
  go_wp2_with fail
  clear hHeld
  refine hK.out _ _ K15 (fun hHeld => ?_)
  clear hK Kk K15
  try simp only [Act.put, List.setIfInBounds_toArray, List.set_cons_zero, List.set_cons_succ]
  refine h_call 21 rfl (by kernel_rfl) (by rfl) (fun Kk hK => ?_)
  go_simp
  (refine (Q15.out _ E_15.out).mono ?_)
  rintro e w16 ⟨rfl, g0⟩
  have g := g0
  clear g0
  have B4_16 := hid (B4_15.out.below g)
  have B5_16 := hid (B5_15.out.below g)
  have B7_16 := hid (B7_15.out.below g)
  have B9_16 := hid (B9_15.out.below g)
  have B10_16 := hid (B10_15.out.below g)
  have B11_16 := hid (B11_15.out.below g)
  have B13_16 := hid (B13_15.out.below g)
  have E_16 := hid (E_15.out.grown g)
  have G_16 := hid (G_15.out.trans (g.mono G_15.out.size))
  clear g B4_15 B5_15 B7_15 B9_15 B10_15 B11_15 B13_15 E_15 G_15
  have K16 := And.intro B11_16.out (And.intro B7_16.out (And.intro B13_16.out (And.intro B9_16.out (B10_16.out))))
  go_wp2_with fail
  clear hHeld
  refine hK.out _ _ K16 (fun hHeld => ?_)
  clear hK Kk K16
  try simp only [Act.put, List.setIfInBounds_toArray, List.set_cons_zero, List.set_cons_succ]
  refine h_call 22 rfl (by kernel_rfl) (by rfl) (fun Kk hK => ?_)
  go_simp
  (refine (Q16.out _).mono ?_)
  rintro e w17 ⟨rfl, g0⟩
  have g := g0
  clear g0
  have B4_17 := hid (B4_16.out.below g)
  have B5_17 := hid (B5_16.out.below g)
  have B7_17 := hid (B7_16.out.below g)
  have B9_17 := hid (B9_16.out.below g)
  have B10_17 := hid (B10_16.out.below g)
  have B11_17 := hid (B11_16.out.below g)
  have B13_17 := hid (B13_16.out.below g)
  have E_17 := hid (E_16.out.grown g)
  have G_17 := hid (G_16.out.trans (g.mono G_16.out.size))
  clear g B4_16 B5_16 B7_16 B9_16 B10_16 B11_16 B13_16 E_16 G_16
  have K17 := And.intro B11_17.out (And.intro B7_17.out (And.intro B13_17.out (And.intro B9_17.out (B10_17.out))))
  go_wp2_with fail
  clear hHeld
  refine hK.out _ _ K17 (fun hHeld => ?_)
  clear hK Kk K17
  try simp only [Act.put, List.setIfInBounds_toArray, List.set_cons_zero, List.set_cons_succ]
  refine h_take 23 (v := .bool false) rfl (by kernel_rfl) (by kernel_rfl) (by kernel_rfl) (fun _ _ _ h => h) (by rfl) ?hyr9_23 (by assumption) ?_
  case hyr9_23 =>
    intro w' hSw
    clear hSw
    go_simp
  try simp only [Act.put, List.setIfInBounds_toArray, List.set_cons_zero, List.set_cons_succ]
  refine h_take 24 (v := .bool false) rfl (by kernel_rfl) (by kernel_rfl) (by kernel_rfl) (fun _ _ _ h => h) (by rfl) ?hyr9_24 (by assumption) ?_
  case hyr9_24 =>
    intro w' hSw
    clear hSw
    go_simp
  try simp only [Act.put, List.setIfInBounds_toArray, List.set_cons_zero, List.set_cons_succ]
  refine wpAnyH_done (by kernel_rfl) ?_ _
  clear hHeld
  clear B9_17
  clear B10_17
  clear B11_17
  clear B13_17
  go_wp2_with (fail)
  refine (Q17.out _).mono ?_
  rintro e w18 ⟨rfl, g0⟩
  have g := g0
  clear g0
  have B4_18 := hid (B4_17.out.below g)
  have B5_18 := hid (B5_17.out.below g)
  have B7_18 := hid (B7_17.out.below g)
  have E_18 := hid (E_17.out.grown g)
  have G_18 := hid (G_17.out.trans (g.mono G_17.out.size))
  clear g B4_17 B5_17 B7_17 E_17 G_17
  go_wp2_with (fail)
  refine (Q18.out _).mono ?_
  rintro e w19 ⟨br, rfl, hr, g0⟩
  have g := g0
  clear g0
  have B4_19 := hid (B4_18.out.below g)
  have B5_19 := hid (B5_18.out.below g)
  have B7_19 := hid (B7_18.out.below g)
  have E_19 := hid (E_18.out.grown g)
  have G_19 := hid (G_18.out.trans (g.mono G_18.out.size))
  clear g B4_18 B5_18 B7_18 E_18 G_18
  have Rr_19 : Hid (Rg w19 br L25) := hr
  clear hr
  go_wp2_with (first | (refine wpList_load_mid rfl 25 _ rfl w.heap.size 0 rfl ka _ (at_mid B4_19.out 0 _ (by simp)) Tryd.underlying25 rfl ka_h.il ?_) | fail)
  refine (Q19.out _ E_19.out).mono ?_
  rintro e w20 ⟨rfl, g0⟩
  have g := g0
  clear g0
  have B4_20 := hid (B4_19.out.below g)
  have B5_20 := hid (B5_19.out.below g)
  have B7_20 := hid (B7_19.out.below g)
  have Rr_20 := hid (Rr_19.out.below g)
  have E_20 := hid (E_19.out.grown g)
  have G_20 := hid (G_19.out.trans (g.mono G_19.out.size))
  clear g B4_19 B5_19 B7_19 Rr_19 E_19 G_19
  have szB16 : w.heap.size ≤ w20.heap.size := G_20.out.size
  have nlB4B16 : w.heap.size < w20.heap.size := B4_20.out.lt
  have nlB5B16 : (w.heap.size + 1) < w20.heap.size := B5_20.out.lt
  have nlB7B16 : w3.heap.size < w20.heap.size := B7_20.out.lt
  go_wp2_with (first | (refine list_store_new rfl 32 _ _ rfl w20 bk [.int .u64 0, .int .u64 0, .int .u64 0, .int .u64 0, .int .u64 0, .int .u64 0, .int .u64 0, .int .u64 0, .int .u64 0, .int .u64 0, .int .u64 0, .int .u64 0, .int .u64 0, .int .u64 0, .int .u64 0, .int .u64 0, .int .u64 0, .int .u64 0, .int .u64 0, .int .u64 0] rfl rfl bk_h.len bk_h.is bk_h.one (fun w21 hC g => ?_)) | fail)
  have B16_21 := hid hC
  have B4_21 := hid (B4_20.out.below g)
  have B5_21 := hid (B5_20.out.below g)
  have B7_21 := hid (B7_20.out.below g)
  have Rr_21 := hid (Rr_20.out.below g)
  have E_21 := hid (E_20.out.grown g)
  have G_21 := hid (G_20.out.trans (g.mono G_20.out.size))
  clear hC g B4_20 B5_20 B7_20 Rr_20 E_20 G_20
  go_wp2_with fail
  have E_21' := hid (E_21.out.grown (Below.refl _ w21).drew)
  have Rr_21' := hid (Rr_21.out.below (Below.refl _ w21).drew)
  have K21 : At 25 w21.drew w.heap.size ka ∧ At 32 w21.drew w20.heap.size bk ∧ At 25 w21.drew (w.heap.size + 1) kb ∧ At 32 w21.drew w3.heap.size bs := And.intro B4_21.out.drew (And.intro B16_21.out.drew (And.intro B5_21.out.drew (B7_21.out.drew)))
  refine wp_region_held_drew (S := fun w' => At 25 w' w.heap.size ka ∧ At 32 w' w20.heap.size bk ∧ At 25 w' (w.heap.size + 1) kb ∧ At 32 w' w3.heap.size bs) (by kernel_rfl) K21 (fun hHeld => ?_)
  clear K21
  refine h_take 0 (v := .int .i64 0) rfl (by kernel_rfl) (by kernel_rfl) (by kernel_rfl) (fun _ _ _ h => h) (by rfl) ?hyr13_0 (by assumption) ?_
  case hyr13_0 =>
    intro w' hSw
    clear hSw
    go_simp
  try simp only [Act.put, List.setIfInBounds_toArray, List.set_cons_zero, List.set_cons_succ]
  refine h_take 1 (v := .bool true) rfl (by kernel_rfl) (by kernel_rfl) (by kernel_rfl) (fun _ _ _ h => h) (by rfl) ?hyr13_1 (by assumption) ?_
  case hyr13_1 =>
    intro w' hSw
    clear hSw
    go_simp
  try simp only [Act.put, List.setIfInBounds_toArray, List.set_cons_zero, List.set_cons_succ]
  refine h_take 2 (v := .bool true) rfl (by kernel_rfl) (by kernel_rfl) (by kernel_rfl) (fun _ _ _ h => h) (by rfl) ?hyr13_2 (by assumption) ?_
  case hyr13_2 =>
    intro w' hSw
    clear hSw
    go_simp
  try simp only [Act.put, List.setIfInBounds_toArray, List.set_cons_zero, List.set_cons_succ]
  refine h_take 3 (v := .pointer (some ⟨br, 0, none⟩)) rfl (by kernel_rfl) (by kernel_rfl) (by kernel_rfl) (fun _ _ _ h => h) (by rfl) ?hyr13_3 (by assumption) ?_
  case hyr13_3 =>
    intro w' hSw
    clear hSw
    go_simp
  try simp only [Act.put, List.setIfInBounds_toArray, List.set_cons_zero, List.set_cons_succ]
  refine h_take 4 (v := .agg ka.toArray) rfl (by kernel_rfl) (by kernel_rfl) (by kernel_rfl) (fun _ _ _ h => h) (by rfl) ?hyr13_4 (by assumption) ?_
  case hyr13_4 =>
    intro w' hSw
    exact load_run 25 _ rfl _ 0 rfl ka _ (at_mid hSw.1 0 _ (by simp)) Tryd.underlying25 rfl ka_h.il
  try simp only [Act.put, List.setIfInBounds_toArray, List.set_cons_zero, List.set_cons_succ]
  refine h_take 7 (v := .agg bk.toArray) rfl (by kernel_rfl) (by kernel_rfl) (by kernel_rfl) (fun _ _ _ h => h) (by rfl) ?hyr13_7 (by assumption) ?_
  case hyr13_7 =>
    intro w' hSw
    exact load_run 32 _ rfl _ 0 rfl bk _ (at_mid hSw.2.1 0 _ (by simp)) Tryd.underlying32 rfl bk_h.il
  try simp only [Act.put, List.setIfInBounds_toArray, List.set_cons_zero, List.set_cons_succ]
  refine h_call 5 rfl (by kernel_rfl) (by rfl) (fun Kk hK => ?_)
  go_simp
  (refine (Q20.out _ _ Rr_21'.out).mono ?_)
  rintro e w22 ⟨rfl, g0⟩
  have g : Below w21.heap.size w21 w22 := (Below.refl _ w21).drew.trans g0
  clear g0
  have B4_22 := hid (B4_21.out.below g)
  have B5_22 := hid (B5_21.out.below g)
  have B7_22 := hid (B7_21.out.below g)
  have B16_22 := hid (B16_21.out.below g)
  have Rr_22 := hid (Rr_21.out.below g)
  have E_22 := hid (E_21.out.grown g)
  have G_22 := hid (G_21.out.trans (g.mono G_21.out.size))
  clear g B4_21 B5_21 B7_21 B16_21 Rr_21 E_21 G_21
  clear Rr_21' E_21'
  have K22 := And.intro B4_22.out (And.intro B16_22.out (And.intro B5_22.out (B7_22.out)))
  go_wp2_with fail
  clear hHeld
  refine hK.out _ _ K22 (fun hHeld => ?_)
  clear hK Kk K22
  try simp only [Act.put, List.setIfInBounds_toArray, List.set_cons_zero, List.set_cons_succ]
  refine h_call 6 rfl (by kernel_rfl) (by rfl) (fun Kk hK => ?_)
  go_simp
  (refine (Q21.out _ E_22.out).mono ?_)
  rintro e w23 ⟨rfl, g0⟩
  have g := g0
  clear g0
  have B4_23 := hid (B4_22.out.below g)
  have B5_23 := hid (B5_22.out.below g)
  have B7_23 := hid (B7_22.out.below g)
  have B16_23 := hid (B16_22.out.below g)
  have Rr_23 := hid (Rr_22.out.below g)
  have E_23 := hid (E_22.out.grown g)
  have G_23 := hid (G_22.out.trans (g.mono G_22.out.size))
  clear g B4_22 B5_22 B7_22 B16_22 Rr_22 E_22 G_22
  have K23 := And.intro B4_23.out (And.intro B16_23.out (And.intro B5_23.out (B7_23.out)))
  go_wp2_with fail
  clear hHeld
  refine hK.out _ _ K23 (fun hHeld => ?_)
  clear hK Kk K23
  try simp only [Act.put, List.setIfInBounds_toArray, List.set_cons_zero, List.set_cons_succ]
  refine h_call 8 rfl (by kernel_rfl) (by rfl) (fun Kk hK => ?_)
  go_simp
  (refine (Q22.out _).mono ?_)
  rintro e w24 ⟨rfl, g0⟩
  have g := g0
  clear g0
  have B4_24 := hid (B4_23.out.below g)
  have B5_24 := hid (B5_23.out.below g)
  have B7_24 := hid (B7_23.out.below g)
  have B16_24 := hid (B16_23.out.below g)
  have Rr_24 := hid (Rr_23.out.below g)
  have E_24 := hid (E_23.out.grown g)
  have G_24 := hid (G_23.out.trans (g.mono G_23.out.size))
  clear g B4_23 B5_23 B7_23 B16_23 Rr_23 E_23 G_23
  have K24 := And.intro B4_24.out (And.intro B16_24.out (And.intro B5_24.out (B7_24.out)))
  go_wp2_with fail
  clear hHeld
  refine hK.out _ _ K24 (fun hHeld => ?_)
  clear hK Kk K24
  try simp only [Act.put, List.setIfInBounds_toArray, List.set_cons_zero, List.set_cons_succ]
  refine h_take 9 (v := .bool true) rfl (by kernel_rfl) (by kernel_rfl) (by kernel_rfl) (fun _ _ _ h => h) (by rfl) ?hyr13_9 (by assumption) ?_
  case hyr13_9 =>
    intro w' hSw
    clear hSw
    go_simp
  try simp only [Act.put, List.setIfInBounds_toArray, List.set_cons_zero, List.set_cons_succ]
  refine h_take 10 (v := .bool true) rfl (by kernel_rfl) (by kernel_rfl) (by kernel_rfl) (fun _ _ _ h => h) (by rfl) ?hyr13_10 (by assumption) ?_
  case hyr13_10 =>
    intro w' hSw
    clear hSw
    go_simp
  try simp only [Act.put, List.setIfInBounds_toArray, List.set_cons_zero, List.set_cons_succ]
  refine h_take 11 (v := .agg bk.toArray) rfl (by kernel_rfl) (by kernel_rfl) (by kernel_rfl) (fun _ _ _ h => h) (by rfl) ?hyr13_11 (by assumption) ?_
  case hyr13_11 =>
    intro w' hSw
    exact load_run 32 _ rfl _ 0 rfl bk _ (at_mid hSw.2.1 0 _ (by simp)) Tryd.underlying32 rfl bk_h.il
  try simp only [Act.put, List.setIfInBounds_toArray, List.set_cons_zero, List.set_cons_succ]
  refine h_call 12 rfl (by kernel_rfl) (by rfl) (fun Kk hK => ?_)
  go_simp
  (refine (Q23.out _ E_24.out).mono ?_)
  rintro e w25 ⟨rfl, g0⟩
  have g := g0
  clear g0
  have B4_25 := hid (B4_24.out.below g)
  have B5_25 := hid (B5_24.out.below g)
  have B7_25 := hid (B7_24.out.below g)
  have B16_25 := hid (B16_24.out.below g)
  have Rr_25 := hid (Rr_24.out.below g)
  have E_25 := hid (E_24.out.grown g)
  have G_25 := hid (G_24.out.trans (g.mono G_24.out.size))
  clear g B4_24 B5_24 B7_24 B16_24 Rr_24 E_24 G_24
  have K25 := And.intro B4_25.out (And.intro B16_25.out (And.intro B5_25.out (B7_25.out)))
  go_wp2_with fail
  clear hHeld
  refine hK.out _ _ K25 (fun hHeld => ?_)
  clear hK Kk K25
  try simp only [Act.put, List.setIfInBounds_toArray, List.set_cons_zero, List.set_cons_succ]
  refine h_take 13 (v := .bool true) rfl (by kernel_rfl) (by kernel_rfl) (by kernel_rfl) (fun _ _ _ h => h) (by rfl) ?hyr13_13 (by assumption) ?_
  case hyr13_13 =>
    intro w' hSw
    clear hSw
    go_simp
  try simp only [Act.put, List.setIfInBounds_toArray, List.set_cons_zero, List.set_cons_succ]
  refine h_take 14 (v := .bool true) rfl (by kernel_rfl) (by kernel_rfl) (by kernel_rfl) (fun _ _ _ h => h) (by rfl) ?hyr13_14 (by assumption) ?_
  case hyr13_14 =>
    intro w' hSw
    clear hSw
    go_simp
  try simp only [Act.put, List.setIfInBounds_toArray, List.set_cons_zero, List.set_cons_succ]
  refine h_take 15 (v := .agg ka.toArray) rfl (by kernel_rfl) (by kernel_rfl) (by kernel_rfl) (fun _ _ _ h => h) (by rfl) ?hyr13_15 (by assumption) ?_
  case hyr13_15 =>
    intro w' hSw
    exact load_run 25 _ rfl _ 0 rfl ka _ (at_mid hSw.1 0 _ (by simp)) Tryd.underlying25 rfl ka_h.il
  try simp only [Act.put, List.setIfInBounds_toArray, List.set_cons_zero, List.set_cons_succ]
  refine h_take 17 (v := .agg kb.toArray) rfl (by kernel_rfl) (by kernel_rfl) (by kernel_rfl) (fun _ _ _ h => h) (by rfl) ?hyr13_17 (by assumption) ?_
  case hyr13_17 =>
    intro w' hSw
    exact load_run 25 _ rfl _ 0 rfl kb _ (at_mid hSw.2.2.1 0 _ (by simp)) Tryd.underlying25 rfl kb_h.il
  try simp only [Act.put, List.setIfInBounds_toArray, List.set_cons_zero, List.set_cons_succ]
  refine h_take 18 (v := .agg bs.toArray) rfl (by kernel_rfl) (by kernel_rfl) (by kernel_rfl) (fun _ _ _ h => h) (by rfl) ?hyr13_18 (by assumption) ?_
  case hyr13_18 =>
    intro w' hSw
    exact load_run 32 _ rfl _ 0 rfl bs _ (at_mid hSw.2.2.2 0 _ (by simp)) Tryd.underlying32 rfl bs_h.il
  try simp only [Act.put, List.setIfInBounds_toArray, List.set_cons_zero, List.set_cons_succ]
  refine h_take 20 (v := .agg bk.toArray) rfl (by kernel_rfl) (by kernel_rfl) (by kernel_rfl) (fun _ _ _ h => h) (by rfl) ?hyr13_20 (by assumption) ?_
  case hyr13_20 =>
    intro w' hSw
    exact load_run 32 _ rfl _ 0 rfl bk _ (at_mid hSw.2.1 0 _ (by simp)) Tryd.underlying32 rfl bk_h.il
  try simp only [Act.put, List.setIfInBounds_toArray, List.set_cons_zero, List.set_cons_succ]
  refine h_take 21 (v := .agg kb.toArray) rfl (by kernel_rfl) (by kernel_rfl) (by kernel_rfl) (fun _ _ _ h => h) (by rfl) ?hyr13_21 (by assumption) ?_
  case hyr13_21 =>
    intro w' hSw
    exact load_run 25 _ rfl _ 0 rfl kb _ (at_mid hSw.2.2.1 0 _ (by simp)) Tryd.underlying25 rfl kb_h.il
  try simp only [Act.put, List.setIfInBounds_toArray, List.set_cons_zero, List.set_cons_succ]
  refine h_take 22 (v := .agg bs.toArray) rfl (by kernel_rfl) (by kernel_rfl) (by kernel_rfl) (fun _ _ _ h => h) (by rfl) ?hyr13_22 (by assumption) ?_
  case hyr13_22 =>
    intro w' hSw
    exact load_run 32 _ rfl _ 0 rfl bs _ (at_mid hSw.2.2.2 0 _ (by simp)) Tryd.underlying32 rfl bs_h.il
  try simp only [Act.put, List.setIfInBounds_toArray, List.set_cons_zero, List.set_cons_succ]
  refine h_call 16 rfl (by kernel_rfl) (by rfl) (fun Kk hK => ?_)
  go_simp
  (refine (Q24.out _ E_25.out).mono ?_)
  rintro e w26 ⟨rfl, g0⟩
  have g := g0
  clear g0
  have B4_26 := hid (B4_25.out.below g)
  have B5_26 := hid (B5_25.out.below g)
  have B7_26 := hid (B7_25.out.below g)
  have B16_26 := hid (B16_25.out.below g)
  have Rr_26 := hid (Rr_25.out.below g)
  have E_26 := hid (E_25.out.grown g)
  have G_26 := hid (G_25.out.trans (g.mono G_25.out.size))
  clear g B4_25 B5_25 B7_25 B16_25 Rr_25 E_25 G_25
  have K26 := And.intro B4_26.out (And.intro B16_26.out (And.intro B5_26.out (B7_26.out)))
  go_wp2_with fail
  clear hHeld
  refine hK.out _ _ K26 (fun hHeld => ?_)
  clear hK Kk K26
  try simp only [Act.put, List.setIfInBounds_toArray, List.set_cons_zero, List.set_cons_succ]
  refine h_call 19 rfl (by kernel_rfl) (by rfl) (fun Kk hK => ?_)
  go_simp
  (refine (Q25.out _ E_26.out).mono ?_)
  rintro e w27 ⟨rfl, g0⟩
  have g := g0
  clear g0
  have B4_27 := hid (B4_26.out.below g)
  have B5_27 := hid (B5_26.out.below g)
  have B7_27 := hid (B7_26.out.below g)
  have B16_27 := hid (B16_26.out.below g)
  have Rr_27 := hid (Rr_26.out.below g)
  have E_27 := hid (E_26.out.grown g)
  have G_27 := hid (G_26.out.trans (g.mono G_26.out.size))
  clear g B4_26 B5_26 B7_26 B16_26 Rr_26 E_26 G_26
  have K27 := And.intro B4_27.out (And.intro B16_27.out (And.intro B5_27.out (B7_27.out)))
  go_wp2_with fail
  clear hHeld
  refine hK.out _ _ K27 (fun hHeld => ?_)
  clear hK Kk K27
  try simp only [Act.put, List.setIfInBounds_toArray, List.set_cons_zero, List.set_cons_succ]
  refine h_call 23 rfl (by kernel_rfl) (by rfl) (fun Kk hK => ?_)
  go_simp
  (refine (Q26.out _ E_27.out).mono ?_)
  rintro e w28 ⟨rfl, g0⟩
  have g := g0
  clear g0
  have B4_28 := hid (B4_27.out.below g)
  have B5_28 := hid (B5_27.out.below g)
  have B7_28 := hid (B7_27.out.below g)
  have B16_28 := hid (B16_27.out.below g)
  have Rr_28 := hid (Rr_27.out.below g)
  have E_28 := hid (E_27.out.grown g)
  have G_28 := hid (G_27.out.trans (g.mono G_27.out.size))
  clear g B4_27 B5_27 B7_27 B16_27 Rr_27 E_27 G_27
  have K28 := And.intro B4_28.out (And.intro B16_28.out (And.intro B5_28.out (B7_28.out)))
  go_wp2_with fail
  clear hHeld
  refine hK.out _ _ K28 (fun hHeld => ?_)
  clear hK Kk K28
  try simp only [Act.put, List.setIfInBounds_toArray, List.set_cons_zero, List.set_cons_succ]
  refine h_call 24 rfl (by kernel_rfl) (by rfl) (fun Kk hK => ?_)
  go_simp
  (refine (Q27.out _ E_28.out).mono ?_)
  rintro e w29 ⟨rfl, g0⟩
  have g := g0
  clear g0
  have B4_29 := hid (B4_28.out.below g)
  have B5_29 := hid (B5_28.out.below g)
  have B7_29 := hid (B7_28.out.below g)
  have B16_29 := hid (B16_28.out.below g)
  have Rr_29 := hid (Rr_28.out.below g)
  have E_29 := hid (E_28.out.grown g)
  have G_29 := hid (G_28.out.trans (g.mono G_28.out.size))
  clear g B4_28 B5_28 B7_28 B16_28 Rr_28 E_28 G_28
  have K29 := And.intro B4_29.out (And.intro B16_29.out (And.intro B5_29.out (B7_29.out)))
  go_wp2_with fail
  clear hHeld
  refine hK.out _ _ K29 (fun hHeld => ?_)
  clear hK Kk K29
  try simp only [Act.put, List.setIfInBounds_toArray, List.set_cons_zero, List.set_cons_succ]
  refine h_call 25 rfl (by kernel_rfl) (by rfl) (fun Kk hK => ?_)
  go_simp
  (refine (Q28.out _).mono ?_)
  rintro e w30 ⟨rfl, g0⟩
  have g := g0
  clear g0
  have B4_30 := hid (B4_29.out.below g)
  have B5_30 := hid (B5_29.out.below g)
  have B7_30 := hid (B7_29.out.below g)
  have B16_30 := hid (B16_29.out.below g)
  have Rr_30 := hid (Rr_29.out.below g)
  have E_30 := hid (E_29.out.grown g)
  have G_30 := hid (G_29.out.trans (g.mono G_29.out.size))
  clear g B4_29 B5_29 B7_29 B16_29 Rr_29 E_29 G_29
  have K30 := And.intro B4_30.out (And.intro B16_30.out (And.intro B5_30.out (B7_30.out)))
  go_wp2_with fail
  clear hHeld
  refine hK.out _ _ K30 (fun hHeld => ?_)
  clear hK Kk K30
  try simp only [Act.put, List.setIfInBounds_toArray, List.set_cons_zero, List.set_cons_succ]
  refine h_take 26 (v := .bool true) rfl (by kernel_rfl) (by kernel_rfl) (by kernel_rfl) (fun _ _ _ h => h) (by rfl) ?hyr13_26 (by assumption) ?_
  case hyr13_26 =>
    intro w' hSw
    clear hSw
    go_simp
  try simp only [Act.put, List.setIfInBounds_toArray, List.set_cons_zero, List.set_cons_succ]
  refine h_take 27 (v := .bool true) rfl (by kernel_rfl) (by kernel_rfl) (by kernel_rfl) (fun _ _ _ h => h) (by rfl) ?hyr13_27 (by assumption) ?_
  case hyr13_27 =>
    intro w' hSw
    clear hSw
    go_simp
  try simp only [Act.put, List.setIfInBounds_toArray, List.set_cons_zero, List.set_cons_succ]
  refine h_take 29 (v := .agg bs.toArray) rfl (by kernel_rfl) (by kernel_rfl) (by kernel_rfl) (fun _ _ _ h => h) (by rfl) ?hyr13_29 (by assumption) ?_
  case hyr13_29 =>
    intro w' hSw
    exact load_run 32 _ rfl _ 0 rfl bs _ (at_mid hSw.2.2.2 0 _ (by simp)) Tryd.underlying32 rfl bs_h.il
  try simp only [Act.put, List.setIfInBounds_toArray, List.set_cons_zero, List.set_cons_succ]
  refine h_call 28 rfl (by kernel_rfl) (by rfl) (fun Kk hK => ?_)
  go_simp
  (refine (Q29.out _).mono ?_)
  rintro e w31 ⟨rfl, g0⟩
  have g := g0
  clear g0
  have B4_31 := hid (B4_30.out.below g)
  have B5_31 := hid (B5_30.out.below g)
  have B7_31 := hid (B7_30.out.below g)
  have B16_31 := hid (B16_30.out.below g)
  have Rr_31 := hid (Rr_30.out.below g)
  have E_31 := hid (E_30.out.grown g)
  have G_31 := hid (G_30.out.trans (g.mono G_30.out.size))
  clear g B4_30 B5_30 B7_30 B16_30 Rr_30 E_30 G_30
  have K31 := And.intro B4_31.out (And.intro B16_31.out (And.intro B5_31.out (B7_31.out)))
  go_wp2_with fail
  clear hHeld
  refine hK.out _ _ K31 (fun hHeld => ?_)
  clear hK Kk K31
  try simp only [Act.put, List.setIfInBounds_toArray, List.set_cons_zero, List.set_cons_succ]
  refine h_call 30 rfl (by kernel_rfl) (by rfl) (fun Kk hK => ?_)
  go_simp
  (refine (Q30.out _ E_31.out).mono ?_)
  rintro e w32 ⟨rfl, g0⟩
  have g := g0
  clear g0
  have B4_32 := hid (B4_31.out.below g)
  have B5_32 := hid (B5_31.out.below g)
  have B7_32 := hid (B7_31.out.below g)
  have B16_32 := hid (B16_31.out.below g)
  have Rr_32 := hid (Rr_31.out.below g)
  have E_32 := hid (E_31.out.grown g)
  have G_32 := hid (G_31.out.trans (g.mono G_31.out.size))
  clear g B4_31 B5_31 B7_31 B16_31 Rr_31 E_31 G_31
  have K32 := And.intro B4_32.out (And.intro B16_32.out (And.intro B5_32.out (B7_32.out)))
  go_wp2_with fail
  clear hHeld
  refine hK.out _ _ K32 (fun hHeld => ?_)
  clear hK Kk K32
  try simp only [Act.put, List.setIfInBounds_toArray, List.set_cons_zero, List.set_cons_succ]
  refine h_call 31 rfl (by kernel_rfl) (by rfl) (fun Kk hK => ?_)
  go_simp
  (refine (Q31.out _ E_32.out).mono ?_)
  rintro e w33 ⟨rfl, g0⟩
  have g := g0
  clear g0
  have B4_33 := hid (B4_32.out.below g)
  have B5_33 := hid (B5_32.out.below g)
  have B7_33 := hid (B7_32.out.below g)
  have B16_33 := hid (B16_32.out.below g)
  have Rr_33 := hid (Rr_32.out.below g)
  have E_33 := hid (E_32.out.grown g)
  have G_33 := hid (G_32.out.trans (g.mono G_32.out.size))
  clear g B4_32 B5_32 B7_32 B16_32 Rr_32 E_32 G_32
  have K33 := And.intro B4_33.out (And.intro B16_33.out (And.intro B5_33.out (B7_33.out)))
  go_wp2_with fail
  clear hHeld
  refine hK.out _ _ K33 (fun hHeld => ?_)
  clear hK Kk K33
  try simp only [Act.put, List.setIfInBounds_toArray, List.set_cons_zero, List.set_cons_succ]
  refine h_call 32 rfl (by kernel_rfl) (by rfl) (fun Kk hK => ?_)
  go_simp
  (refine (Q32.out _).mono ?_)
  rintro e w34 ⟨rfl, g0⟩
  have g := g0
  clear g0
  have B4_34 := hid (B4_33.out.below g)
  have B5_34 := hid (B5_33.out.below g)
  have B7_34 := hid (B7_33.out.below g)
  have B16_34 := hid (B16_33.out.below g)
  have Rr_34 := hid (Rr_33.out.below g)
  have E_34 := hid (E_33.out.grown g)
  have G_34 := hid (G_33.out.trans (g.mono G_33.out.size))
  clear g B4_33 B5_33 B7_33 B16_33 Rr_33 E_33 G_33
  have K34 := And.intro B4_34.out (And.intro B16_34.out (And.intro B5_34.out (B7_34.out)))
  go_wp2_with fail
  clear hHeld
  refine hK.out _ _ K34 (fun hHeld => ?_)
  clear hK Kk K34
  try simp only [Act.put, List.setIfInBounds_toArray, List.set_cons_zero, List.set_cons_succ]
  refine h_call 33 rfl (by kernel_rfl) (by rfl) (fun Kk hK => ?_)
  go_simp
  (refine (Q33.out _).mono ?_)
  rintro e w35 ⟨rfl, g0⟩
  have g := g0
  clear g0
  have B4_35 := hid (B4_34.out.below g)
  have B5_35 := hid (B5_34.out.below g)
  have B7_35 := hid (B7_34.out.below g)
  have B16_35 := hid (B16_34.out.below g)
  have Rr_35 := hid (Rr_34.out.below g)
  have E_35 := hid (E_34.out.grown g)
  have G_35 := hid (G_34.out.trans (g.mono G_34.out.size))
  clear g B4_34 B5_34 B7_34 B16_34 Rr_34 E_34 G_34
  have K35 := And.intro B4_35.out (And.intro B16_35.out (And.intro B5_35.out (B7_35.out)))
  go_wp2_with fail
  clear hHeld
  refine hK.out _ _ K35 (fun hHeld => ?_)
  clear hK Kk K35
  try simp only [Act.put, List.setIfInBounds_toArray, List.set_cons_zero, List.set_cons_succ]
  refine h_take 34 (v := .bool true) rfl (by kernel_rfl) (by kernel_rfl) (by kernel_rfl) (fun _ _ _ h => h) (by rfl) ?hyr13_34 (by assumption) ?_
  case hyr13_34 =>
    intro w' hSw
    clear hSw
    go_simp
  try simp only [Act.put, List.setIfInBounds_toArray, List.set_cons_zero, List.set_cons_succ]
  refine h_take 35 (v := .bool true) rfl (by kernel_rfl) (by kernel_rfl) (by kernel_rfl) (fun _ _ _ h => h) (by rfl) ?hyr13_35 (by assumption) ?_
  case hyr13_35 =>
    intro w' hSw
    clear hSw
    go_simp
  try simp only [Act.put, List.setIfInBounds_toArray, List.set_cons_zero, List.set_cons_succ]
  refine wpAnyH_done (by kernel_rfl) ?_ _
  clear hHeld
  go_wp2_with fail
  go_ret
  exact ⟨rfl, G_35.out⟩
end Go.Proofs.YtedhfimjcpbcpaaDoor.Ed

/-
  The contracts of limb's Left and Right: for a number below 2^256 and any int they return the document's answer and change no memory that was there. Conditions: as each theorem says.
-/
namespace Go.Proofs.YtedhfimjcpbcpaaDoor
open Go.RowKit
set_option linter.unusedVariables false

set_option maxHeartbeats 2000000 in
theorem left_any (x n : Nat) (hx : x < M4) (h1 : n ≤ 9223372036854775807) (w : World) :
    Calls Tryd.prog 101 #[four x, .int .i64 (n : Int)] w fun e w' => e = .returned (four (x * 2 ^ n % M4)) ∧ Below w.heap.size w w' := by
  obtain ⟨a0, a1, a2, a3, ha0, ha1, ha2, ha3, ea, hxa⟩ := four_open x hx
  have word := fun i w => word_any x i hx w
  rw [ea] at word ⊢
  have Hw := (show Hid _ from word)
  clear word
  clear hxa ea
  have hX : x < 2 ^ 256 := hx
  obtain ⟨q, hq⟩ : ∃ q, (n : Int) / 64 = q := ⟨_, rfl⟩
  obtain ⟨r, hr⟩ : ∃ r, (n : Int) % 64 = r := ⟨_, rfl⟩
  have h0 : 0 ≤ (n : Int) := by omega
  have hn : (n : Int) ≤ 9223372036854775807 := by omega
  have q0 : 0 ≤ q := by omega
  have q1 : q ≤ 144115188075855872 := by omega
  have r0 : 0 ≤ r := by omega
  have r1 : r ≤ 63 := by omega
  have wr : IntKind.i64.wrap (64 - r) = 64 - r := wrapI _ (by omega) (by omega)
  have pr : 0 ≤ 64 - r := by omega
  have w0 : IntKind.i64.wrap (-q) = -q := wrapI _ (by omega) (by omega)
  have w01 : IntKind.i64.wrap (-q - 1) = -q - 1 := wrapI _ (by omega) (by omega)
  have w1 : IntKind.i64.wrap (1 - q) = 1 - q := wrapI _ (by omega) (by omega)
  have w11 : IntKind.i64.wrap (1 - q - 1) = 1 - q - 1 := wrapI _ (by omega) (by omega)
  have w2 : IntKind.i64.wrap (2 - q) = 2 - q := wrapI _ (by omega) (by omega)
  have w21 : IntKind.i64.wrap (2 - q - 1) = 2 - q - 1 := wrapI _ (by omega) (by omega)
  have w3 : IntKind.i64.wrap (3 - q) = 3 - q := wrapI _ (by omega) (by omega)
  have w31 : IntKind.i64.wrap (3 - q - 1) = 3 - q - 1 := wrapI _ (by omega) (by omega)
  have V : Hid (four (x * 2 ^ n % M4) = .agg #[.int .u64 (bits .or .u64 (IntKind.u64.wrap (wordAt x (-q) * 2 ^ r.toNat)) (wordAt x (-q - 1) / 2 ^ (64 - r).toNat)), .int .u64 (bits .or .u64 (IntKind.u64.wrap (wordAt x (1 - q) * 2 ^ r.toNat)) (wordAt x (1 - q - 1) / 2 ^ (64 - r).toNat)), .int .u64 (bits .or .u64 (IntKind.u64.wrap (wordAt x (2 - q) * 2 ^ r.toNat)) (wordAt x (2 - q - 1) / 2 ^ (64 - r).toNat)), .int .u64 (bits .or .u64 (IntKind.u64.wrap (wordAt x (3 - q) * 2 ^ r.toNat)) (wordAt x (3 - q - 1) / 2 ^ (64 - r).toNat))]) := four_words _ _ _ _ _ (left_word x n hX q r hq hr 0 _ _ (by omega) (by omega)) (left_word x n hX q r hq hr 1 _ _ (by omega) (by omega)) (left_word x n hX q r hq hr 2 _ _ (by omega) (by omega)) (left_word x n hX q r hq hr 3 _ _ (by omega) (by omega))
  clear hX
  go_enter Tryd.func101, Tryd.ntmps101
  go_wp2
  refine wp_unr 5 ?_
  refine unr_succ ?_
  go_wp2
  go_region_held3 (fun w' => w'.cell? ⟨w.heap.size, 0, none⟩ = some (.int .u64 a0) ∧ w'.cell? ⟨w.heap.size, 1, none⟩ = some (.int .u64 a1) ∧ w'.cell? ⟨w.heap.size, 2, none⟩ = some (.int .u64 a2) ∧ w'.cell? ⟨w.heap.size, 3, none⟩ = some (.int .u64 a3)) (simp [go_sem, World.cell?_alloc_past])
    (first
      | (go_at_call 68; refine (Hw.out _ _).mono ?_; rintro e w' ⟨rfl, o1, rfl⟩))
  go_wp2
  refine unr_succ ?_
  go_wp2
  go_region_held3 (fun w' => w'.cell? ⟨w.heap.size, 0, none⟩ = some (.int .u64 a0) ∧ w'.cell? ⟨w.heap.size, 1, none⟩ = some (.int .u64 a1) ∧ w'.cell? ⟨w.heap.size, 2, none⟩ = some (.int .u64 a2) ∧ w'.cell? ⟨w.heap.size, 3, none⟩ = some (.int .u64 a3)) (simp [go_sem, World.cell?_alloc_past])
    (first
      | (go_at_call 68; refine (Hw.out _ _).mono ?_; rintro e w' ⟨rfl, o1, rfl⟩))
  go_wp2
  refine unr_succ ?_
  go_wp2
  go_region_held3 (fun w' => w'.cell? ⟨w.heap.size, 0, none⟩ = some (.int .u64 a0) ∧ w'.cell? ⟨w.heap.size, 1, none⟩ = some (.int .u64 a1) ∧ w'.cell? ⟨w.heap.size, 2, none⟩ = some (.int .u64 a2) ∧ w'.cell? ⟨w.heap.size, 3, none⟩ = some (.int .u64 a3)) (simp [go_sem, World.cell?_alloc_past])
    (first
      | (go_at_call 68; refine (Hw.out _ _).mono ?_; rintro e w' ⟨rfl, o1, rfl⟩))
  go_wp2
  refine unr_succ ?_
  go_wp2
  go_region_held3 (fun w' => w'.cell? ⟨w.heap.size, 0, none⟩ = some (.int .u64 a0) ∧ w'.cell? ⟨w.heap.size, 1, none⟩ = some (.int .u64 a1) ∧ w'.cell? ⟨w.heap.size, 2, none⟩ = some (.int .u64 a2) ∧ w'.cell? ⟨w.heap.size, 3, none⟩ = some (.int .u64 a3)) (simp [go_sem, World.cell?_alloc_past])
    (first
      | (go_at_call 68; refine (Hw.out _ _).mono ?_; rintro e w' ⟨rfl, o1, rfl⟩))
  go_wp2
  refine unr_succ ?_
  go_wp2
  refine bodyPost_ret (v := .agg #[.int .u64 (bits .or .u64 (IntKind.u64.wrap (wordAt x (-q) * 2 ^ r.toNat)) (wordAt x (-q - 1) / 2 ^ (64 - r).toNat)), .int .u64 (bits .or .u64 (IntKind.u64.wrap (wordAt x (1 - q) * 2 ^ r.toNat)) (wordAt x (1 - q - 1) / 2 ^ (64 - r).toNat)), .int .u64 (bits .or .u64 (IntKind.u64.wrap (wordAt x (2 - q) * 2 ^ r.toNat)) (wordAt x (2 - q - 1) / 2 ^ (64 - r).toNat)), .int .u64 (bits .or .u64 (IntKind.u64.wrap (wordAt x (3 - q) * 2 ^ r.toNat)) (wordAt x (3 - q - 1) / 2 ^ (64 - r).toNat))]) (by simp [results, Tryd.results101, go_sem]) rfl ⟨?_, ?_⟩
  · rw [V.out]
  · repeat (first | exact Below.refl _ _ | refine Below.drew ?_ | refine Below.alloc ?_ (by simp <;> omega) _)

set_option maxHeartbeats 2000000 in
theorem right_any (x n : Nat) (hx : x < M4) (h1 : n ≤ 9223372036854775807) (w : World) :
    Calls Tryd.prog 26 #[four x, .int .i64 (n : Int)] w fun e w' => e = .returned (four (x / 2 ^ n % M4)) ∧ Below w.heap.size w w' := by
  obtain ⟨a0, a1, a2, a3, ha0, ha1, ha2, ha3, ea, hxa⟩ := four_open x hx
  have word := fun i w => word_any x i hx w
  rw [ea] at word ⊢
  have Hw := (show Hid _ from word)
  clear word
  clear hxa ea
  have hX : x < 2 ^ 256 := hx
  obtain ⟨q, hq⟩ : ∃ q, (n : Int) / 64 = q := ⟨_, rfl⟩
  obtain ⟨r, hr⟩ : ∃ r, (n : Int) % 64 = r := ⟨_, rfl⟩
  have h0 : 0 ≤ (n : Int) := by omega
  have hn : (n : Int) ≤ 9223372036854775807 := by omega
  have q0 : 0 ≤ q := by omega
  have q1 : q ≤ 144115188075855872 := by omega
  have r0 : 0 ≤ r := by omega
  have r1 : r ≤ 63 := by omega
  have wr : IntKind.i64.wrap (64 - r) = 64 - r := wrapI _ (by omega) (by omega)
  have pr : 0 ≤ 64 - r := by omega
  have w01 : IntKind.i64.wrap (q + 1) = q + 1 := wrapI _ (by omega) (by omega)
  have w1 : IntKind.i64.wrap (1 + q) = 1 + q := wrapI _ (by omega) (by omega)
  have w11 : IntKind.i64.wrap (1 + q + 1) = 1 + q + 1 := wrapI _ (by omega) (by omega)
  have w2 : IntKind.i64.wrap (2 + q) = 2 + q := wrapI _ (by omega) (by omega)
  have w21 : IntKind.i64.wrap (2 + q + 1) = 2 + q + 1 := wrapI _ (by omega) (by omega)
  have w3 : IntKind.i64.wrap (3 + q) = 3 + q := wrapI _ (by omega) (by omega)
  have w31 : IntKind.i64.wrap (3 + q + 1) = 3 + q + 1 := wrapI _ (by omega) (by omega)
  have V : Hid (four (x / 2 ^ n % M4) = .agg #[.int .u64 (bits .or .u64 (wordAt x (q) / 2 ^ r.toNat) (IntKind.u64.wrap (wordAt x (q + 1) * 2 ^ (64 - r).toNat))), .int .u64 (bits .or .u64 (wordAt x (1 + q) / 2 ^ r.toNat) (IntKind.u64.wrap (wordAt x (1 + q + 1) * 2 ^ (64 - r).toNat))), .int .u64 (bits .or .u64 (wordAt x (2 + q) / 2 ^ r.toNat) (IntKind.u64.wrap (wordAt x (2 + q + 1) * 2 ^ (64 - r).toNat))), .int .u64 (bits .or .u64 (wordAt x (3 + q) / 2 ^ r.toNat) (IntKind.u64.wrap (wordAt x (3 + q + 1) * 2 ^ (64 - r).toNat)))]) := four_words _ _ _ _ _ (right_word x n hX q r hq hr 0 _ _ (by omega) (by omega)) (right_word x n hX q r hq hr 1 _ _ (by omega) (by omega)) (right_word x n hX q r hq hr 2 _ _ (by omega) (by omega)) (right_word x n hX q r hq hr 3 _ _ (by omega) (by omega))
  clear hX
  go_enter Tryd.func26, Tryd.ntmps26
  go_wp2
  refine wp_unr 5 ?_
  refine unr_succ ?_
  go_wp2
  go_region_held3 (fun w' => w'.cell? ⟨w.heap.size, 0, none⟩ = some (.int .u64 a0) ∧ w'.cell? ⟨w.heap.size, 1, none⟩ = some (.int .u64 a1) ∧ w'.cell? ⟨w.heap.size, 2, none⟩ = some (.int .u64 a2) ∧ w'.cell? ⟨w.heap.size, 3, none⟩ = some (.int .u64 a3)) (simp [go_sem, World.cell?_alloc_past])
    (first
      | (go_at_call 68; refine (Hw.out _ _).mono ?_; rintro e w' ⟨rfl, o1, rfl⟩))
  go_wp2
  refine unr_succ ?_
  go_wp2
  go_region_held3 (fun w' => w'.cell? ⟨w.heap.size, 0, none⟩ = some (.int .u64 a0) ∧ w'.cell? ⟨w.heap.size, 1, none⟩ = some (.int .u64 a1) ∧ w'.cell? ⟨w.heap.size, 2, none⟩ = some (.int .u64 a2) ∧ w'.cell? ⟨w.heap.size, 3, none⟩ = some (.int .u64 a3)) (simp [go_sem, World.cell?_alloc_past])
    (first
      | (go_at_call 68; refine (Hw.out _ _).mono ?_; rintro e w' ⟨rfl, o1, rfl⟩))
  go_wp2
  refine unr_succ ?_
  go_wp2
  go_region_held3 (fun w' => w'.cell? ⟨w.heap.size, 0, none⟩ = some (.int .u64 a0) ∧ w'.cell? ⟨w.heap.size, 1, none⟩ = some (.int .u64 a1) ∧ w'.cell? ⟨w.heap.size, 2, none⟩ = some (.int .u64 a2) ∧ w'.cell? ⟨w.heap.size, 3, none⟩ = some (.int .u64 a3)) (simp [go_sem, World.cell?_alloc_past])
    (first
      | (go_at_call 68; refine (Hw.out _ _).mono ?_; rintro e w' ⟨rfl, o1, rfl⟩))
  go_wp2
  refine unr_succ ?_
  go_wp2
  go_region_held3 (fun w' => w'.cell? ⟨w.heap.size, 0, none⟩ = some (.int .u64 a0) ∧ w'.cell? ⟨w.heap.size, 1, none⟩ = some (.int .u64 a1) ∧ w'.cell? ⟨w.heap.size, 2, none⟩ = some (.int .u64 a2) ∧ w'.cell? ⟨w.heap.size, 3, none⟩ = some (.int .u64 a3)) (simp [go_sem, World.cell?_alloc_past])
    (first
      | (go_at_call 68; refine (Hw.out _ _).mono ?_; rintro e w' ⟨rfl, o1, rfl⟩))
  go_wp2
  refine unr_succ ?_
  go_wp2
  refine bodyPost_ret (v := .agg #[.int .u64 (bits .or .u64 (wordAt x (q) / 2 ^ r.toNat) (IntKind.u64.wrap (wordAt x (q + 1) * 2 ^ (64 - r).toNat))), .int .u64 (bits .or .u64 (wordAt x (1 + q) / 2 ^ r.toNat) (IntKind.u64.wrap (wordAt x (1 + q + 1) * 2 ^ (64 - r).toNat))), .int .u64 (bits .or .u64 (wordAt x (2 + q) / 2 ^ r.toNat) (IntKind.u64.wrap (wordAt x (2 + q + 1) * 2 ^ (64 - r).toNat))), .int .u64 (bits .or .u64 (wordAt x (3 + q) / 2 ^ r.toNat) (IntKind.u64.wrap (wordAt x (3 + q + 1) * 2 ^ (64 - r).toNat)))]) (by simp [results, Tryd.results26, go_sem]) rfl ⟨?_, ?_⟩
  · rw [V.out]
  · repeat (first | exact Below.refl _ _ | refine Below.drew ?_ | refine Below.alloc ?_ (by simp <;> omega) _)

end Go.Proofs.YtedhfimjcpbcpaaDoor
