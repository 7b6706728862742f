/-
  The contract of ring's mul (Montgomery's product): for a modulus in memory and two numbers below 2^256, one of them below the modulus, it returns their product by 2^256, modulo m, and changes no memory that was there. Conditions: as the theorem says.
-/
import Derived.Test.YtkaekgjpjnnjpaaRingM
namespace Go.Proofs.Ytkaekgjpjnnjpaa
open Go.RowKit
set_option linter.unusedVariables false
attribute [local go_sem] idx4_0 idx4_1 idx4_2 idx4_3

theorem four_val (x : Nat) (a0 a1 a2 a3 : Int) (hx : x < M4) (h : four x = .agg #[.int .u64 a0, .int .u64 a1, .int .u64 a2, .int .u64 a3]) : (x : Int) = a0 + 18446744073709551616 * a1 + 340282366920938463463374607431768211456 * a2 + 6277101735386680763835789423207666416102355444464034512896 * a3 := by
  obtain ⟨b0, b1, b2, b3, -, -, -, -, e, hv⟩ := four_open x hx
  rw [h] at e
  simp only [Value.agg.injEq, Array.mk.injEq, List.cons.injEq, Value.int.injEq, true_and, and_true] at e
  obtain ⟨rfl, rfl, rfl, rfl⟩ := e
  exact hv

set_option maxHeartbeats 4000000 in
set_option maxRecDepth 100000 in
theorem mulR_raw (W : World) (b m x y : Nat) (hM : Md W b m) (hx : x < M4) (hy : y < M4) (h : x < m ∨ y < m) :
    Calls Try.prog 34 #[.pointer (some ⟨b, 0, none⟩), four x, four y] W fun e w' => e = .returned (four (red m (x * y))) ∧ Below W.heap.size W w' := by
  have HM : Hid (Md W b m) := hM
  obtain ⟨h1, h2, h3, m0, m1, m2, m3, f, k0, k1, k2, k3, k4, k5, k6, k7, k8⟩ := hM
  obtain ⟨a0, a1, a2, a3, ha0, ha1, ha2, ha3, ea, hxa⟩ := four_open x hx
  obtain ⟨b0, b1, b2, b3, hb0, hb1, hb2, hb3, eb, hyb⟩ := four_open y hy
  have wz : Wd 0 := ⟨by omega, by omega⟩
  obtain ⟨u0_0, c0_0, u1_0, c1_0, u2_0, c2_0, u3_0, c3_0, v_0, top_0, ti_0, d0_0, n0_0, d1_0, n1_0, d2_0, n2_0, d3_0, n3_0, cc_0, o_0, T_0, ⟨P0_0, P1_0, P2_0, P3_0⟩, A0_0, I_0, ⟨Q0_0, Q1_0, Q2_0, Q3_0⟩, A1_0, O_0, ⟨w0_0, w1_0, w2_0, w3_0, wo_0, wp_0⟩, hT_0, S_0, eT_0⟩ := mont_round x m f 0 a0 a1 a2 a3 m0 m1 m2 m3 b0 0 0 0 0 0 ha0 ha1 ha2 ha3 k0 k1 k2 k3 hb0 wz wz wz wz ⟨by omega, by omega⟩ hxa k6 k7 (by omega) (by simp)
  obtain ⟨u0_1, c0_1, u1_1, c1_1, u2_1, c2_1, u3_1, c3_1, v_1, top_1, ti_1, d0_1, n0_1, d1_1, n1_1, d2_1, n2_1, d3_1, n3_1, cc_1, o_1, T_1, ⟨P0_1, P1_1, P2_1, P3_1⟩, A0_1, I_1, ⟨Q0_1, Q1_1, Q2_1, Q3_1⟩, A1_1, O_1, ⟨w0_1, w1_1, w2_1, w3_1, wo_1, wp_1⟩, hT_1, S_1, eT_1⟩ := mont_round x m f T_0 a0 a1 a2 a3 m0 m1 m2 m3 b1 n0_0 n1_0 n2_0 n3_0 o_0 ha0 ha1 ha2 ha3 k0 k1 k2 k3 hb1 w0_0 w1_0 w2_0 w3_0 ⟨wo_0, wp_0⟩ hxa k6 k7 hT_0 eT_0
  obtain ⟨u0_2, c0_2, u1_2, c1_2, u2_2, c2_2, u3_2, c3_2, v_2, top_2, ti_2, d0_2, n0_2, d1_2, n1_2, d2_2, n2_2, d3_2, n3_2, cc_2, o_2, T_2, ⟨P0_2, P1_2, P2_2, P3_2⟩, A0_2, I_2, ⟨Q0_2, Q1_2, Q2_2, Q3_2⟩, A1_2, O_2, ⟨w0_2, w1_2, w2_2, w3_2, wo_2, wp_2⟩, hT_2, S_2, eT_2⟩ := mont_round x m f T_1 a0 a1 a2 a3 m0 m1 m2 m3 b2 n0_1 n1_1 n2_1 n3_1 o_1 ha0 ha1 ha2 ha3 k0 k1 k2 k3 hb2 w0_1 w1_1 w2_1 w3_1 ⟨wo_1, wp_1⟩ hxa k6 k7 hT_1 eT_1
  obtain ⟨u0_3, c0_3, u1_3, c1_3, u2_3, c2_3, u3_3, c3_3, v_3, top_3, ti_3, d0_3, n0_3, d1_3, n1_3, d2_3, n2_3, d3_3, n3_3, cc_3, o_3, T_3, ⟨P0_3, P1_3, P2_3, P3_3⟩, A0_3, I_3, ⟨Q0_3, Q1_3, Q2_3, Q3_3⟩, A1_3, O_3, ⟨w0_3, w1_3, w2_3, w3_3, wo_3, wp_3⟩, hT_3, S_3, eT_3⟩ := mont_round x m f T_2 a0 a1 a2 a3 m0 m1 m2 m3 b3 n0_2 n1_2 n2_2 n3_2 o_2 ha0 ha1 ha2 ha3 k0 k1 k2 k3 hb3 w0_2 w1_2 w2_2 w3_2 ⟨wo_2, wp_2⟩ hxa k6 k7 hT_2 eT_2
  have END : Hid (∃ lo c : Nat, lo < M4 ∧ c ≤ 1 ∧ lo + c * M4 < 2 * m ∧ four lo = .agg #[.int .u64 n0_3, .int .u64 n1_3, .int .u64 n2_3, .int .u64 n3_3] ∧ o_3 = (c : Int) ∧ (lo + c * M4) % m = red m (x * y)) := by
    obtain ⟨s0, l0, e0⟩ := S_0.out
    obtain ⟨s1, l1, e1⟩ := S_1.out
    obtain ⟨s2, l2, e2⟩ := S_2.out
    obtain ⟨s3, l3, e3⟩ := S_3.out
    have hyn : y = b0.toNat + 18446744073709551616 * b1.toNat + 340282366920938463463374607431768211456 * b2.toNat + 6277101735386680763835789423207666416102355444464034512896 * b3.toNat := by
      unfold Wd at hb0 hb1 hb2 hb3
      clear eT_0 eT_1 eT_2 eT_3 e0 e1 e2 e3 hxa k6 k7
      omega
    have E := mont_four m x y b0.toNat b1.toNat b2.toNat b3.toNat s0 s1 s2 s3 T_0 T_1 T_2 T_3 hyn e0 e1 e2 e3
    obtain ⟨g1, g2⟩ := mont_end m x y T_3 _ h1 h2 (by clear eT_0 eT_1 eT_2 eT_3 e0 e1 e2 e3 hxa k6 k7 hyn hyb E; unfold M4; omega) hy hx h hT_3 E
    obtain ⟨c, rfl⟩ := Int.eq_ofNat_of_zero_le wo_3
    obtain ⟨lo, hl, el⟩ := four_of n0_3 n1_3 n2_3 n3_3 w0_3 w1_3 w2_3 w3_3
    have hlo := four_val lo n0_3 n1_3 n2_3 n3_3 hl el
    have hTl : T_3 = lo + c * M4 := by
      clear eT_0 eT_1 eT_2 e0 e1 e2 e3 hxa k6 k7 hyn hyb E
      unfold M4
      omega
    rw [hTl] at g1 g2
    have hc : c ≤ 1 := by
      rcases Nat.lt_or_ge 1 c with hc | hc
      · have : 2 * M4 ≤ c * M4 := Nat.mul_le_mul_right _ hc
        omega
      · exact hc
    exact ⟨lo, c, hl, hc, g1, el, rfl, g2⟩
  clear S_0 S_1 S_2 S_3 eT_0 eT_1 eT_2 eT_3 hT_0 hT_1 hT_2 hT_3 k7 hxa hyb k6
  obtain ⟨lo, c, hlo, hc, hlc, el, eo, er⟩ := END.out
  have hrM : red m (x * y) < M4 := Nat.lt_trans (red_lt m _ h2) h3
  obtain ⟨z0, z1, z2, z3, -, -, -, -, ez, -⟩ := four_open _ hrM
  rw [eo] at O_3
  rw [ea, eb, ez]
  have cW : Hid (∀ w, Below W.heap.size W w → Calls Try.prog 52 #[.pointer (some ⟨b, 0, none⟩), .agg #[.int .u64 n0_3, .int .u64 n1_3, .int .u64 n2_3, .int .u64 n3_3], .int .u64 (c : Int)] w fun e w' => e = .returned (.agg #[.int .u64 z0, .int .u64 z1, .int .u64 z2, .int .u64 z3]) ∧ Below w.heap.size w w') := by
    intro w hw; have := within_any w b m lo c (HM.out.below hw) hlo hc hlc; rwa [er, el, ez] at this
  clear END el eo er ez ea eb hlc hc hlo hx hy h h1 h2 h3 hrM k5 wz ha0 ha1 ha2 ha3 hb0 hb1 hb2 hb3 HM
  clear w0_0 w1_0 w2_0 w3_0
  clear w0_1 w1_1 w2_1 w3_1
  clear w0_2 w1_2 w2_2 w3_2
  clear w0_3 w1_3 w2_3 w3_3
  obtain ⟨l, q0, q1, q2, q3, q4⟩ := k8
  go_enter Try.func34, Try.ntmps34
  go_wp2_with fail
  have bA : Hid (Blk (((W.alloc (.cells #[.int .u64 a0, .int .u64 a1, .int .u64 a2, .int .u64 a3] 24)).alloc (.cells #[.int .u64 b0, .int .u64 b1, .int .u64 b2, .int .u64 b3] 24)).alloc (.cells #[.int .u64 0, .int .u64 0, .int .u64 0, .int .u64 0] 24)) W.heap.size a0 a1 a2 a3) := ((Blk.new W a0 a1 a2 a3 24).alloc _).alloc _
  have bR : Hid (Blk (((W.alloc (.cells #[.int .u64 a0, .int .u64 a1, .int .u64 a2, .int .u64 a3] 24)).alloc (.cells #[.int .u64 b0, .int .u64 b1, .int .u64 b2, .int .u64 b3] 24)).alloc (.cells #[.int .u64 0, .int .u64 0, .int .u64 0, .int .u64 0] 24)) (W.heap.size + 1 + 1) 0 0 0 0) := by have := Blk.new ((W.alloc (.cells #[.int .u64 a0, .int .u64 a1, .int .u64 a2, .int .u64 a3] 24)).alloc (.cells #[.int .u64 b0, .int .u64 b1, .int .u64 b2, .int .u64 b3] 24)) 0 0 0 0 24; simp at this; exact this
  have bB : Hid (Below W.heap.size W (((W.alloc (.cells #[.int .u64 a0, .int .u64 a1, .int .u64 a2, .int .u64 a3] 24)).alloc (.cells #[.int .u64 b0, .int .u64 b1, .int .u64 b2, .int .u64 b3] 24)).alloc (.cells #[.int .u64 0, .int .u64 0, .int .u64 0, .int .u64 0] 24))) := by
    repeat (first | exact Below.refl _ _ | refine Below.alloc ?_ (by first | omega | (simp <;> omega)) _)
  have k9 := Five.below ⟨l, q0, q1, q2, q3, q4⟩ bB.out
  clear l q0 q1 q2 q3 q4
  refine wp_cut (fun V => Blk V W.heap.size a0 a1 a2 a3 ∧ Blk V (W.heap.size + 1 + 1) 0 0 0 0 ∧ Below W.heap.size W V ∧ Five V b m0 m1 m2 m3 f) ⟨bA.out, bR.out, bB.out, k9⟩ ?_
  clear bA bR bB k9
  rintro V ⟨bA, bR, bB, k9⟩
  have BR : Hid (Blk V (W.heap.size + 1 + 1) 0 0 0 0) := bR
  have BB : Hid (Below W.heap.size W V) := bB
  obtain ⟨l1, ca0, ca1, ca2, ca3, -⟩ := bA
  obtain ⟨l, q0, q1, q2, q3, q4⟩ := k9
  clear bR bB
  refine wp_unr 5 ?_
  refine unr_succ ?_
  go_wp2_with fail
  refine (P0_0.out _).mono ?_
  rintro e w' ⟨rfl, hw⟩
  rw [hw]
  clear hw w'
  go_wp2_with fail
  refine (P1_0.out _).mono ?_
  rintro e w' ⟨rfl, hw⟩
  rw [hw]
  clear hw w'
  go_wp2_with fail
  refine (P2_0.out _).mono ?_
  rintro e w' ⟨rfl, hw⟩
  rw [hw]
  clear hw w'
  go_wp2_with fail
  refine (P3_0.out _).mono ?_
  rintro e w' ⟨rfl, hw⟩
  rw [hw]
  clear hw w'
  go_wp2_with fail
  refine (Q0_0.out _).mono ?_
  rintro e w' ⟨rfl, hw⟩
  rw [hw]
  clear hw w'
  go_wp2_with fail
  refine (Q1_0.out _).mono ?_
  rintro e w' ⟨rfl, hw⟩
  rw [hw]
  clear hw w'
  go_wp2_with fail
  refine (Q2_0.out _).mono ?_
  rintro e w' ⟨rfl, hw⟩
  rw [hw]
  clear hw w'
  go_wp2_with fail
  refine (Q3_0.out _).mono ?_
  rintro e w' ⟨rfl, hw⟩
  rw [hw]
  clear hw w'
  go_wp2_with fail
  refine unr_succ ?_
  go_wp2_with fail
  refine (P0_1.out _).mono ?_
  rintro e w' ⟨rfl, hw⟩
  rw [hw]
  clear hw w'
  go_wp2_with fail
  refine (P1_1.out _).mono ?_
  rintro e w' ⟨rfl, hw⟩
  rw [hw]
  clear hw w'
  go_wp2_with fail
  refine (P2_1.out _).mono ?_
  rintro e w' ⟨rfl, hw⟩
  rw [hw]
  clear hw w'
  go_wp2_with fail
  refine (P3_1.out _).mono ?_
  rintro e w' ⟨rfl, hw⟩
  rw [hw]
  clear hw w'
  go_wp2_with fail
  refine (Q0_1.out _).mono ?_
  rintro e w' ⟨rfl, hw⟩
  rw [hw]
  clear hw w'
  go_wp2_with fail
  refine (Q1_1.out _).mono ?_
  rintro e w' ⟨rfl, hw⟩
  rw [hw]
  clear hw w'
  go_wp2_with fail
  refine (Q2_1.out _).mono ?_
  rintro e w' ⟨rfl, hw⟩
  rw [hw]
  clear hw w'
  go_wp2_with fail
  refine (Q3_1.out _).mono ?_
  rintro e w' ⟨rfl, hw⟩
  rw [hw]
  clear hw w'
  go_wp2_with fail
  refine unr_succ ?_
  go_wp2_with fail
  refine (P0_2.out _).mono ?_
  rintro e w' ⟨rfl, hw⟩
  rw [hw]
  clear hw w'
  go_wp2_with fail
  refine (P1_2.out _).mono ?_
  rintro e w' ⟨rfl, hw⟩
  rw [hw]
  clear hw w'
  go_wp2_with fail
  refine (P2_2.out _).mono ?_
  rintro e w' ⟨rfl, hw⟩
  rw [hw]
  clear hw w'
  go_wp2_with fail
  refine (P3_2.out _).mono ?_
  rintro e w' ⟨rfl, hw⟩
  rw [hw]
  clear hw w'
  go_wp2_with fail
  refine (Q0_2.out _).mono ?_
  rintro e w' ⟨rfl, hw⟩
  rw [hw]
  clear hw w'
  go_wp2_with fail
  refine (Q1_2.out _).mono ?_
  rintro e w' ⟨rfl, hw⟩
  rw [hw]
  clear hw w'
  go_wp2_with fail
  refine (Q2_2.out _).mono ?_
  rintro e w' ⟨rfl, hw⟩
  rw [hw]
  clear hw w'
  go_wp2_with fail
  refine (Q3_2.out _).mono ?_
  rintro e w' ⟨rfl, hw⟩
  rw [hw]
  clear hw w'
  go_wp2_with fail
  refine unr_succ ?_
  go_wp2_with fail
  refine (P0_3.out _).mono ?_
  rintro e w' ⟨rfl, hw⟩
  rw [hw]
  clear hw w'
  go_wp2_with fail
  refine (P1_3.out _).mono ?_
  rintro e w' ⟨rfl, hw⟩
  rw [hw]
  clear hw w'
  go_wp2_with fail
  refine (P2_3.out _).mono ?_
  rintro e w' ⟨rfl, hw⟩
  rw [hw]
  clear hw w'
  go_wp2_with fail
  refine (P3_3.out _).mono ?_
  rintro e w' ⟨rfl, hw⟩
  rw [hw]
  clear hw w'
  go_wp2_with fail
  refine (Q0_3.out _).mono ?_
  rintro e w' ⟨rfl, hw⟩
  rw [hw]
  clear hw w'
  go_wp2_with fail
  refine (Q1_3.out _).mono ?_
  rintro e w' ⟨rfl, hw⟩
  rw [hw]
  clear hw w'
  go_wp2_with fail
  refine (Q2_3.out _).mono ?_
  rintro e w' ⟨rfl, hw⟩
  rw [hw]
  clear hw w'
  go_wp2_with fail
  refine (Q3_3.out _).mono ?_
  rintro e w' ⟨rfl, hw⟩
  rw [hw]
  clear hw w'
  go_wp2_with fail
  refine unr_succ ?_
  go_wp2_with fail
  refine (cW.out _ BB.out).mono ?_
  rintro e w2 ⟨rfl, g2⟩
  obtain ⟨l3, cc0, cc1, cc2, cc3, cf⟩ := BR.out.below g2
  go_wp2_with fail
  refine bodyPost_ret (v := .agg #[.int .u64 z0, .int .u64 z1, .int .u64 z2, .int .u64 z3]) (by simp [results, Try.results34, go_sem, cc0, cc1, cc2, cc3]) rfl ⟨rfl, ?_⟩
  have gs := BB.out.size
  have gs2 := g2.size
  repeat (first | exact BB.out | refine Below.setCell ?_ (by first | omega | (simp <;> omega)) _ | refine Below.trans ?_ (g2.mono gs))

end Go.Proofs.Ytkaekgjpjnnjpaa
