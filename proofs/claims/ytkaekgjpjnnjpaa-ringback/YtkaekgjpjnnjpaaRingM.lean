/-
  The contract of ring's mul (Montgomery's product): for a modulus in memory and two numbers below 2^256, one of them below the modulus, it returns their product by 2^256, modulo m, and changes no memory that was there. Conditions: as the theorem says.
-/
import Derived.Test.YtkaekgjpjnnjpaaRingB
import Derived.Deep.QuietTactic
import Derived.BigQuiet
namespace Go.Proofs.Ytkaekgjpjnnjpaa
open Go.RowKit
set_option linter.unusedVariables false

theorem row_sum (B a0 a1 a2 a3 w : Int) (x : Int) (h : x = a0 + B * a1 + (B * B) * a2 + (B * B * B) * a3) : x * w = a0 * w + B * (a1 * w) + (B * B) * (a2 * w) + (B * B * B) * (a3 * w) := by
  rw [h, Int.add_mul, Int.add_mul, Int.add_mul, Int.mul_assoc, Int.mul_assoc (B * B), Int.mul_assoc (B * B * B)]

theorem round_sum (t0 t1 t2 t3 o x0 x1 x2 x3 y0 y1 y2 y3 u0 c0 u1 c1 u2 c2 u3 c3 v top d0 n0 d1 n1 d2 n2 d3 n3 cc : Int)
    (e0 : t0 + x0 + 0 = u0 + 18446744073709551616 * c0) (e1 : t1 + x1 + c0 = u1 + 18446744073709551616 * c1) (e2 : t2 + x2 + c1 = u2 + 18446744073709551616 * c2) (e3 : t3 + x3 + c2 = u3 + 18446744073709551616 * c3)
    (e4 : o + c3 + 0 = v + 18446744073709551616 * top) (f0 : u0 + y0 + 0 = 0 + 18446744073709551616 * d0) (f1 : u1 + y1 + d0 = n0 + 18446744073709551616 * d1) (f2 : u2 + y2 + d1 = n1 + 18446744073709551616 * d2) (f3 : u3 + y3 + d2 = n2 + 18446744073709551616 * d3)
    (f4 : v + d3 + 0 = n3 + 18446744073709551616 * cc) (T T' X Y : Int)
    (hT : T = t0 + 18446744073709551616 * t1 + 340282366920938463463374607431768211456 * t2 + 6277101735386680763835789423207666416102355444464034512896 * t3 + 115792089237316195423570985008687907853269984665640564039457584007913129639936 * o)
    (hT' : T' = n0 + 18446744073709551616 * n1 + 340282366920938463463374607431768211456 * n2 + 6277101735386680763835789423207666416102355444464034512896 * n3 + 115792089237316195423570985008687907853269984665640564039457584007913129639936 * (top + cc))
    (hX : X = x0 + 18446744073709551616 * x1 + 340282366920938463463374607431768211456 * x2 + 6277101735386680763835789423207666416102355444464034512896 * x3)
    (hY : Y = y0 + 18446744073709551616 * y1 + 340282366920938463463374607431768211456 * y2 + 6277101735386680763835789423207666416102355444464034512896 * y3) : T' * 18446744073709551616 = T + X + Y := by
  omega

/-- One round of the product: what its calls answer, and what is gathered behind it. -/
theorem mont_round (a m f T : Nat) (a0 a1 a2 a3 m0 m1 m2 m3 u t0 t1 t2 t3 o : Int) (ha0 : Wd a0) (ha1 : Wd a1) (ha2 : Wd a2) (ha3 : Wd a3) (hm0 : Wd m0) (hm1 : Wd m1) (hm2 : Wd m2) (hm3 : Wd m3)
    (hu : Wd u) (ht0 : Wd t0) (ht1 : Wd t1) (ht2 : Wd t2) (ht3 : Wd t3) (ho : 0 ≤ o ∧ o ≤ 2)
    (ea : (a : Int) = a0 + 18446744073709551616 * a1 + 340282366920938463463374607431768211456 * a2 + 6277101735386680763835789423207666416102355444464034512896 * a3)
    (em : (m : Int) = m0 + 18446744073709551616 * m1 + 340282366920938463463374607431768211456 * m2 + 6277101735386680763835789423207666416102355444464034512896 * m3)
    (hf : m0.toNat * f % 18446744073709551616 = 18446744073709551615) (hT : T < a + m)
    (eT : (T : Int) = t0 + 18446744073709551616 * t1 + 340282366920938463463374607431768211456 * t2 + 6277101735386680763835789423207666416102355444464034512896 * t3 + 115792089237316195423570985008687907853269984665640564039457584007913129639936 * o) :
    ∃ (u0 c0 u1 c1 u2 c2 u3 c3 v top ti d0 n0 d1 n1 d2 n2 d3 n3 cc o' : Int) (T' : Nat),
      (Hid (∀ w : World, Calls Try.prog 54 #[.int .u64 t0, .int .u64 a0, .int .u64 u, .int .u64 0] w fun e w' => e = .returned (.tuple #[.int .u64 u0, .int .u64 c0]) ∧ w' = w) ∧
       Hid (∀ w : World, Calls Try.prog 54 #[.int .u64 t1, .int .u64 a1, .int .u64 u, .int .u64 c0] w fun e w' => e = .returned (.tuple #[.int .u64 u1, .int .u64 c1]) ∧ w' = w) ∧
       Hid (∀ w : World, Calls Try.prog 54 #[.int .u64 t2, .int .u64 a2, .int .u64 u, .int .u64 c1] w fun e w' => e = .returned (.tuple #[.int .u64 u2, .int .u64 c2]) ∧ w' = w) ∧
       Hid (∀ w : World, Calls Try.prog 54 #[.int .u64 t3, .int .u64 a3, .int .u64 u, .int .u64 c2] w fun e w' => e = .returned (.tuple #[.int .u64 u3, .int .u64 c3]) ∧ w' = w)) ∧
      (∀ w : World, (callFunc 55 #[.int .u64 o, .int .u64 c3, .int .u64 0]).run Try.prog w = .ok (.value (.tuple #[.int .u64 v, .int .u64 top])) w) ∧
      IntKind.u64.wrap (u0 * (f : Int)) = ti ∧
      (Hid (∀ w : World, Calls Try.prog 54 #[.int .u64 u0, .int .u64 m0, .int .u64 ti, .int .u64 0] w fun e w' => e = .returned (.tuple #[.int .u64 0, .int .u64 d0]) ∧ w' = w) ∧
       Hid (∀ w : World, Calls Try.prog 54 #[.int .u64 u1, .int .u64 m1, .int .u64 ti, .int .u64 d0] w fun e w' => e = .returned (.tuple #[.int .u64 n0, .int .u64 d1]) ∧ w' = w) ∧
       Hid (∀ w : World, Calls Try.prog 54 #[.int .u64 u2, .int .u64 m2, .int .u64 ti, .int .u64 d1] w fun e w' => e = .returned (.tuple #[.int .u64 n1, .int .u64 d2]) ∧ w' = w) ∧
       Hid (∀ w : World, Calls Try.prog 54 #[.int .u64 u3, .int .u64 m3, .int .u64 ti, .int .u64 d2] w fun e w' => e = .returned (.tuple #[.int .u64 n2, .int .u64 d3]) ∧ w' = w)) ∧
      (∀ w : World, (callFunc 55 #[.int .u64 v, .int .u64 d3, .int .u64 0]).run Try.prog w = .ok (.value (.tuple #[.int .u64 n3, .int .u64 cc])) w) ∧
      IntKind.u64.wrap (top + cc) = o' ∧
      (Wd n0 ∧ Wd n1 ∧ Wd n2 ∧ Wd n3 ∧ 0 ≤ o' ∧ o' ≤ 2) ∧ T' < a + m ∧ Hid (∃ s : Nat, s < 18446744073709551616 ∧ T' * 18446744073709551616 = T + a * u.toNat + m * s) ∧
      (T' : Int) = n0 + 18446744073709551616 * n1 + 340282366920938463463374607431768211456 * n2 + 6277101735386680763835789423207666416102355444464034512896 * n3 + 115792089237316195423570985008687907853269984665640564039457584007913129639936 * o' := by
  have wz : Wd 0 := ⟨by omega, by omega⟩
  have wo : Wd o := ⟨by omega, by omega⟩
  obtain ⟨u0, c0, hu0, hc0, E0, P0⟩ := prod_step t0 a0 u 0 ht0 ha0 hu wz
  obtain ⟨u1, c1, hu1, hc1, E1, P1⟩ := prod_step t1 a1 u c0 ht1 ha1 hu hc0
  obtain ⟨u2, c2, hu2, hc2, E2, P2⟩ := prod_step t2 a2 u c1 ht2 ha2 hu hc1
  obtain ⟨u3, c3, hu3, hc3, E3, P3⟩ := prod_step t3 a3 u c2 ht3 ha3 hu hc2
  obtain ⟨v, top, hv, htop, E4, P4⟩ := add_step o c3 0 wo hc3 ⟨by omega, by omega⟩
  obtain ⟨ti, hti, lti⟩ := wrap_nat (u0 * (f : Int))
  have wti : Wd (ti : Int) := ⟨by omega, by omega⟩
  obtain ⟨x, d0, hx, hd0, F0, Q0⟩ := prod_step u0 m0 ti 0 hu0 hm0 wti wz
  obtain ⟨n0, d1, hn0, hd1, F1, Q1⟩ := prod_step u1 m1 ti d0 hu1 hm1 wti hd0
  obtain ⟨n1, d2, hn1, hd2, F2, Q2⟩ := prod_step u2 m2 ti d1 hu2 hm2 wti hd1
  obtain ⟨n2, d3, hn2, hd3, F3, Q3⟩ := prod_step u3 m3 ti d2 hu3 hm3 wti hd2
  obtain ⟨n3, cc, hn3, hcc, F4, Q4⟩ := add_step v d3 0 hv hd3 ⟨by omega, by omega⟩
  have hx0 : x = 0 := by
    have g0 := F0.out
    obtain ⟨u0', rfl⟩ := Int.eq_ofNat_of_zero_le hu0.1
    obtain ⟨m0', rfl⟩ := Int.eq_ofNat_of_zero_le hm0.1
    have hf' : m0' * f % 18446744073709551616 = 18446744073709551615 := by simpa using hf
    have k := low_goes m0' f u0' hf'
    have ht : ti = u0' * f % 18446744073709551616 := by
      rw [IntKind.wrap_u64, ← Int.natCast_mul] at hti
      omega
    rw [← ht] at k
    rw [← Int.natCast_mul] at g0
    obtain ⟨y, hy⟩ : ∃ y, m0' * ti = y := ⟨_, rfl⟩
    rw [hy] at k g0
    unfold Wd at hx
    clear hf hf' ht hti
    omega
  subst hx0
  have hu' : (u.toNat : Int) = u := Int.toNat_of_nonneg hu.1
  have RX := row_sum 18446744073709551616 a0 a1 a2 a3 u a ea
  have RY := row_sum 18446744073709551616 m0 m1 m2 m3 ti m em
  rw [show (18446744073709551616 : Int) * 18446744073709551616 = 340282366920938463463374607431768211456 by decide, show (340282366920938463463374607431768211456 : Int) * 18446744073709551616 = 6277101735386680763835789423207666416102355444464034512896 by decide] at RX RY
  obtain ⟨T', hT'⟩ : ∃ T' : Nat, (T' : Int) = n0 + 18446744073709551616 * n1 + 340282366920938463463374607431768211456 * n2 + 6277101735386680763835789423207666416102355444464034512896 * n3 + 115792089237316195423570985008687907853269984665640564039457584007913129639936 * (top + cc) :=
    ⟨(n0 + 18446744073709551616 * n1 + 340282366920938463463374607431768211456 * n2 + 6277101735386680763835789423207666416102355444464034512896 * n3 + 115792089237316195423570985008687907853269984665640564039457584007913129639936 * (top + cc)).toNat, Int.toNat_of_nonneg (by unfold Wd at hn0 hn1 hn2 hn3; omega)⟩
  have S := round_sum t0 t1 t2 t3 o _ _ _ _ _ _ _ _ u0 c0 u1 c1 u2 c2 u3 c3 v top d0 n0 d1 n1 d2 n2 d3 n3 cc E0.out E1.out E2.out E3.out E4.out F0.out F1.out F2.out F3.out F4.out T T' _ _ eT hT' RX RY
  have S' : T' * 18446744073709551616 = T + a * u.toNat + m * ti := by
    rw [← hu', ← Int.natCast_mul, ← Int.natCast_mul] at S
    obtain ⟨y, hy⟩ : ∃ y, a * u.toNat = y := ⟨_, rfl⟩
    obtain ⟨z, hz⟩ : ∃ z, m * ti = z := ⟨_, rfl⟩
    rw [hy, hz] at S ⊢
    clear hT' RX RY eT ea em hti hy hz
    omega
  have hlt : u.toNat < 18446744073709551616 := by unfold Wd at hu; omega
  refine ⟨u0, c0, u1, c1, u2, c2, u3, c3, v, top, ti, d0, n0, d1, n1, d2, n2, d3, n3, cc, top + cc, T', ⟨P0, P1, P2, P3⟩, P4, hti, ⟨Q0, Q1, Q2, Q3⟩, Q4, ?_, ⟨hn0, hn1, hn2, hn3, by omega, by omega⟩, mont_next m a u.toNat ti T T' hlt lti hT S', ⟨ti, lti, S'⟩, hT'⟩
  rw [IntKind.wrap_u64]
  omega

end Go.Proofs.Ytkaekgjpjnnjpaa
