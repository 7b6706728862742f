/-
  The walk of the law NatBack: for any words, any word and any two bytes it returns true and changes no memory that was there. Conditions: none beyond that words are words and bytes are bytes.
-/
import Derived.Test.YtdlocljnmaeikaaNatW
import Derived.Test.YtdlocljnmaeikaaNatS
namespace Go.Proofs.Ytdlocljnmaeikaa
open Go.RowKit
set_option linter.unusedVariables false

theorem nback_long (la : List Nat) (va : Value) (x n0 n1 : Nat) (w : World) (ha : SK .u64 w va la) (h : 60 < la.length) :
    Calls Try.prog 7 #[va, .int .u64 (x : Int), .agg #[.int .u8 (n0 : Int), .int .u8 (n1 : Int)]] w fun e w' => e = .returned (.bool true) ∧ Below w.heap.size w w' := by
  obtain ⟨a, ca, rfl⟩ := ha.shape
  clear ha
  have h1' : (60 : Int) < la.length := by omega
  go_enter Try.func7, Try.ntmps7
  go_wp2_with fail
  refine (awakeN_any _).mono ?_
  rintro e w1 ⟨rfl, g1⟩
  go_wp2_with fail
  go_ret
  exact ⟨rfl, ((Below.refl _ _).alloc (Nat.le_refl _) _).trans (g1.mono (by simp))⟩

theorem lt_powK {N m K : Nat} (h : N < 18446744073709551616 ^ m) (hK : m ≤ K) : N < 18446744073709551616 ^ K := Nat.lt_of_lt_of_le h (Nat.pow_le_pow_right (by omega) hK)
theorem pow_powK (x n K : Nat) (hx : x < 18446744073709551616) (hK : n + 1 ≤ K) : x ^ n < 18446744073709551616 ^ K := by
  have hb : nbits x ≤ 64 := nbits_le x 64 (by omega)
  exact lt_powK (pow_ltW x n n (Nat.mul_le_mul_right _ hb)) hK
theorem mul_powK {N M m k K : Nat} (h : N < 18446744073709551616 ^ m) (h2 : M < 18446744073709551616 ^ k) (hK : m + k ≤ K) : N * M < 18446744073709551616 ^ K := by
  refine lt_powK (m := m + k) ?_ hK
  rw [Nat.pow_add]
  exact Nat.mul_lt_mul'' h h2
theorem add_powK {N M m K : Nat} (h : N < 18446744073709551616 ^ m) (h2 : M < 18446744073709551616 ^ m) (hK : m + 1 ≤ K) : N + M < 18446744073709551616 ^ K := by
  refine lt_powK (m := m + 1) ?_ hK
  rw [Nat.pow_succ]
  generalize 18446744073709551616 ^ m = P at *
  omega

set_option maxRecDepth 100000 in
set_option maxHeartbeats 4000000 in
theorem nback_pos (la : List Nat) (va : Value) (x n0 n1 : Nat) (w : World) (ha : SK .u64 w va la) (hwa : Ww la) (hla : la.length ≤ 60) (hx : x < 18446744073709551616) (hn0 : n0 ≤ 255) (hn1 : n1 ≤ 255) (hx0 : 0 < x) :
    Calls Try.prog 7 #[va, .int .u64 (x : Int), .agg #[.int .u8 (n0 : Int), .int .u8 (n1 : Int)]] w fun e w' => e = .returned (.bool true) ∧ Below w.heap.size w w' := by
  obtain ⟨a, ca, rfl⟩ := ha.shape
  obtain ⟨A, hA⟩ : ∃ A, valW la = A := ⟨_, rfl⟩
  have BA : A < 18446744073709551616 ^ 60 := by rw [← hA]; exact lt_powK (valW_lt la hwa) hla
  obtain ⟨K, hK⟩ : ∃ K : Nat, K = 600 := ⟨_, rfl⟩
  have HNa : Hid (Na w (.slice a la.length ca) A) := ⟨la, ha, hwa, by omega, hA⟩
  have h1' : ¬ (60 : Int) < la.length := by omega
  have HBA : Hid (A < 18446744073709551616 ^ 60) := BA
  have bA : Hid (A < 18446744073709551616 ^ K) := lt_powK BA (by omega)
  have bAx : Hid (A * x < 18446744073709551616 ^ K) := mul_powK BA (k := 1) (by simpa using hx) (by omega)
  have bAd : Hid (A / x < 18446744073709551616 ^ K) := Nat.lt_of_le_of_lt (Nat.div_le_self _ _) bA.out
  have bAm : Hid (A / x * x < 18446744073709551616 ^ K) := Nat.lt_of_le_of_lt (Nat.div_mul_le_self _ _) bA.out
  have hxp : (0 : Int) < (x : Int) := by omega
  obtain ⟨R, hR⟩ : ∃ R : Nat, Hid (A % x = R) := ⟨_, rfl⟩
  have hRx : R < x := by rw [← hR.out]; exact Nat.mod_lt _ hx0
  have hRx' : ¬ (x : Int) ≤ (R : Int) := by omega
  have hAR : Hid (A / x * x + R = A) := by unfold Hid; rw [← hR.out, Nat.mul_comm]; exact Nat.div_add_mod A x
  have bX : Hid (x ^ n0 < 18446744073709551616 ^ K) := pow_powK x n0 K hx (by omega)
  have bY : Hid (x ^ n1 < 18446744073709551616 ^ K) := pow_powK x n1 K hx (by omega)
  have bZ : Hid (x ^ (n0 + n1) < 18446744073709551616 ^ K) := pow_powK x (n0 + n1) K hx (by omega)
  have bP : Hid (2 ^ n0 < 18446744073709551616 ^ K) := pow_powK 2 n0 K (by omega) (by omega)
  have bL : Hid (A * 2 ^ n0 < 18446744073709551616 ^ K) := mul_powK BA (pow_powK 2 n0 256 (by omega) (by omega)) (by omega)
  have bS : Hid (A + x ^ n0 < 18446744073709551616 ^ K) := add_powK (m := K - 1) (lt_powK BA (by omega)) (pow_powK x n0 (K - 1) hx (by omega)) (by omega)
  have hK2 : K ≤ 100000 := by omega
  have hnb : nbits A ≤ 3840 := by rw [← hA]; have := nbits_leW la hwa; omega
  obtain ⟨w0, hw0⟩ : ∃ w0, Hid (w.alloc (.cells #[.int .u8 (n0 : Int), .int .u8 (n1 : Int)] 58) = w0) := ⟨_, rfl⟩
  have G0 : Hid (Below w0.heap.size w0 w0) := Below.refl _ _
  have hbox : Hid (w0.cell? ⟨w.heap.size, 0, none⟩ = some (.int .u8 (n0 : Int)) ∧ w0.cell? ⟨w.heap.size, 1, none⟩ = some (.int .u8 (n1 : Int)) ∧ w.heap.size < w0.heap.size) := by unfold Hid; rw [← hw0.out]; simp
  have hbel : Hid (Below w.heap.size w w0) := by unfold Hid; rw [← hw0.out]; exact (Below.refl _ _).alloc (Nat.le_refl _) _
  have HA0 : Hid (Na w0 (.slice a la.length ca) A) := HNa.out.below hbel.out
  have wn0 : IntKind.i64.wrap (n0 : Int) = (n0 : Int) := wrapI _ (by omega) (by omega)
  have wn1 : IntKind.i64.wrap (n1 : Int) = (n1 : Int) := wrapI _ (by omega) (by omega)
  have i0 : (n0 : Int) ≤ 255 := by omega
  have i1 : (n1 : Int) ≤ 255 := by omega
  have hsl : ∃ b k c, Value.slice a la.length ca = .slice b k c ∧ k ≤ 60 := ⟨a, la.length, ca, rfl, hla⟩
  clear ha hwa hA BA HNa hK
  go_enter Try.func7, Try.ntmps7
  go_wp2_with fail
  rw [hw0.out]
  refine (awakeN_any _).mono ?_
  rintro e w1 ⟨rfl, g1⟩
  have HA1 : Hid (Na w1 (.slice a la.length ca) A) := HA0.out.below g1
  have G1 : Hid (Below w0.heap.size w0 w1) := G0.out.trans (g1.mono G0.out.size)
  clear g1 G0 HA0
  go_wp2_with fail
  refine (trimNa A _ _ HA1.out).mono ?_
  rintro e w2 ⟨v2, rfl, h2, g2⟩
  obtain ⟨ta, tn, tc, rfl⟩ := h2.shape
  have T2 : Hid (Can w2 (.slice ta tn tc) A) := h2
  have HA2 : Hid (Na w2 (.slice a la.length ca) A) := HA1.out.below g2
  have G2 : Hid (Below w0.heap.size w0 w2) := G1.out.trans (g2.mono G1.out.size)
  clear g2 G1 HA1 h2
  go_wp2_with fail
  refine (mulWordNa A x _ _ HA2.out hx).mono ?_
  rintro e w3 ⟨v3, rfl, h3, g3⟩
  obtain ⟨ma, mn, mc, rfl⟩ := h3.shape
  have M3 : Hid (Can w3 (.slice ma mn mc) (A * x)) := h3
  have HA3 : Hid (Na w3 (.slice a la.length ca) A) := HA2.out.below g3
  have T3 : Hid (Can w3 (.slice ta tn tc) A) := T2.out.below g3
  have G3 : Hid (Below w0.heap.size w0 w3) := G2.out.trans (g3.mono G2.out.size)
  clear g3 G2 HA2 T2 h3
  go_wp2_with fail
  refine (divWordNa (A * x) x _ _ (M3.out.na K bAx.out hK2) hx0 hx).mono ?_
  rw [Nat.mul_mod_left, Nat.mul_div_cancel _ hx0]
  rintro e w4 ⟨v4, rfl, h4, g4⟩
  obtain ⟨qa, qn, qc, rfl⟩ := h4.shape
  have Q4 : Hid (Can w4 (.slice qa qn qc) A) := h4
  have HA4 : Hid (Na w4 (.slice a la.length ca) A) := HA3.out.below g4
  have T4 : Hid (Can w4 (.slice ta tn tc) A) := T3.out.below g4
  have M4 : Hid (Can w4 (.slice ma mn mc) (A * x)) := M3.out.below g4
  have G4 : Hid (Below w0.heap.size w0 w4) := G3.out.trans (g4.mono G3.out.size)
  clear g4 G3 HA3 T3 M3 h4
  clear M4
  go_wp2_with fail
  refine (divWordNa A x _ _ HA4.out hx0 hx).mono ?_
  rw [hR.out]
  rintro e w5 ⟨v5, rfl, h5, g5⟩
  obtain ⟨ua, un, uc, rfl⟩ := h5.shape
  have U5 : Hid (Can w5 (.slice ua un uc) (A / x)) := h5
  have HA5 : Hid (Na w5 (.slice a la.length ca) A) := HA4.out.below g5
  have T5 : Hid (Can w5 (.slice ta tn tc) A) := T4.out.below g5
  have Q5 : Hid (Can w5 (.slice qa qn qc) A) := Q4.out.below g5
  have G5 : Hid (Below w0.heap.size w0 w5) := G4.out.trans (g5.mono G4.out.size)
  clear g5 G4 HA4 T4 Q4 h5
  go_wp2_with fail
  refine (same_can A _ _ _ Q5.out T5.out K bA.out (by omega)).mono ?_
  rintro e w6 ⟨rfl, g6⟩
  have HA6 : Hid (Na w6 (.slice a la.length ca) A) := HA5.out.below g6
  have T6 : Hid (Can w6 (.slice ta tn tc) A) := T5.out.below g6
  have Q6 : Hid (Can w6 (.slice qa qn qc) A) := Q5.out.below g6
  have U6 : Hid (Can w6 (.slice ua un uc) (A / x)) := U5.out.below g6
  have G6 : Hid (Below w0.heap.size w0 w6) := G5.out.trans (g6.mono G5.out.size)
  clear g6 G5 HA5 T5 Q5 U5
  clear Q6
  go_wp2_with fail
  refine (mulWordNa (A / x) x _ _ (U6.out.na K bAd.out hK2) hx).mono ?_
  rintro e w7 ⟨v7, rfl, h7, g7⟩
  obtain ⟨pa, pn, pc, rfl⟩ := h7.shape
  have P7 : Hid (Can w7 (.slice pa pn pc) (A / x * x)) := h7
  have HA7 : Hid (Na w7 (.slice a la.length ca) A) := HA6.out.below g7
  have T7 : Hid (Can w7 (.slice ta tn tc) A) := T6.out.below g7
  have U7 : Hid (Can w7 (.slice ua un uc) (A / x)) := U6.out.below g7
  have G7 : Hid (Below w0.heap.size w0 w7) := G6.out.trans (g7.mono G6.out.size)
  clear g7 G6 HA6 T6 U6 h7
  clear U7
  go_wp2_with fail
  refine (addNa (A / x * x) R _ _ _ ((P7.out.below ((Below.refl _ _).alloc (Nat.le_refl _) _)).na K bAm.out hK2) (Na.lit1 w7 R (by omega))).mono ?_
  rw [hAR.out]
  rintro e w8 ⟨v8, rfl, h8, g8⟩
  obtain ⟨sa, sn, sc, rfl⟩ := h8.shape
  have S8 : Hid (Can w8 (.slice sa sn sc) A) := h8
  have HA8 : Hid (Na w8 (.slice a la.length ca) A) := (HA7.out.below ((Below.refl _ _).alloc (Nat.le_refl _) _)).below g8
  have T8 : Hid (Can w8 (.slice ta tn tc) A) := (T7.out.below ((Below.refl _ _).alloc (Nat.le_refl _) _)).below g8
  have P8 : Hid (Can w8 (.slice pa pn pc) (A / x * x)) := (P7.out.below ((Below.refl _ _).alloc (Nat.le_refl _) _)).below g8
  have G8 : Hid (Below w0.heap.size w0 w8) := (G7.out.alloc G7.out.size _).trans (g8.mono (by have := G7.out.size; simp; omega))
  clear g8 G7 HA7 T7 P7 h8
  clear P8
  go_wp2_with fail
  refine (same_can A _ _ _ S8.out T8.out K bA.out (by omega)).mono ?_
  rintro e w9 ⟨rfl, g9⟩
  have HA9 : Hid (Na w9 (.slice a la.length ca) A) := HA8.out.below g9
  have T9 : Hid (Can w9 (.slice ta tn tc) A) := T8.out.below g9
  have S9 : Hid (Can w9 (.slice sa sn sc) A) := S8.out.below g9
  have G9 : Hid (Below w0.heap.size w0 w9) := G8.out.trans (g9.mono G8.out.size)
  clear g9 G8 HA8 T8 S8
  clear S9
  have c0 : w9.cell? ⟨w.heap.size, 0, none⟩ = some (.int .u8 (n0 : Int)) := (G9.out.cell (p := ⟨w.heap.size, 0, none⟩) hbox.out.2.2).trans hbox.out.1
  have c1 : w9.cell? ⟨w.heap.size, 1, none⟩ = some (.int .u8 (n1 : Int)) := (G9.out.cell (p := ⟨w.heap.size, 1, none⟩) hbox.out.2.2).trans hbox.out.2.1
  go_wp2_with fail
  refine (powerNa x n0 _ hx (by omega)).mono ?_
  rintro e w10 ⟨v10, rfl, h10, g10⟩
  obtain ⟨ba, bn, bc, rfl⟩ := h10.shape
  have X10 : Hid (Can w10 (.slice ba bn bc) (x ^ n0)) := h10
  have HA10 : Hid (Na w10 (.slice a la.length ca) A) := HA9.out.below g10
  have T10 : Hid (Can w10 (.slice ta tn tc) A) := T9.out.below g10
  have G10 : Hid (Below w0.heap.size w0 w10) := G9.out.trans (g10.mono G9.out.size)
  clear g10 G9 HA9 T9 h10
  clear c0 c1
  have c0 : w10.cell? ⟨w.heap.size, 0, none⟩ = some (.int .u8 (n0 : Int)) := (G10.out.cell (p := ⟨w.heap.size, 0, none⟩) hbox.out.2.2).trans hbox.out.1
  have c1 : w10.cell? ⟨w.heap.size, 1, none⟩ = some (.int .u8 (n1 : Int)) := (G10.out.cell (p := ⟨w.heap.size, 1, none⟩) hbox.out.2.2).trans hbox.out.2.1
  go_wp2_with fail
  refine (powerNa x n1 _ hx (by omega)).mono ?_
  rintro e w11 ⟨v11, rfl, h11, g11⟩
  obtain ⟨da, dn, dc, rfl⟩ := h11.shape
  have Y11 : Hid (Can w11 (.slice da dn dc) (x ^ n1)) := h11
  have HA11 : Hid (Na w11 (.slice a la.length ca) A) := HA10.out.below g11
  have T11 : Hid (Can w11 (.slice ta tn tc) A) := T10.out.below g11
  have X11 : Hid (Can w11 (.slice ba bn bc) (x ^ n0)) := X10.out.below g11
  have G11 : Hid (Below w0.heap.size w0 w11) := G10.out.trans (g11.mono G10.out.size)
  clear g11 G10 HA10 T10 X10 h11
  clear c0 c1
  have c0 : w11.cell? ⟨w.heap.size, 0, none⟩ = some (.int .u8 (n0 : Int)) := (G11.out.cell (p := ⟨w.heap.size, 0, none⟩) hbox.out.2.2).trans hbox.out.1
  have c1 : w11.cell? ⟨w.heap.size, 1, none⟩ = some (.int .u8 (n1 : Int)) := (G11.out.cell (p := ⟨w.heap.size, 1, none⟩) hbox.out.2.2).trans hbox.out.2.1
  go_wp2_with fail
  have hsum : (n0 : Int) + (n1 : Int) = ((n0 + n1 : Nat) : Int) := by omega
  rw [hsum]
  clear hsum
  refine (powerNa x (n0 + n1) _ hx (by omega)).mono ?_
  rintro e w12 ⟨v12, rfl, h12, g12⟩
  obtain ⟨ea, en, ec, rfl⟩ := h12.shape
  have Z12 : Hid (Can w12 (.slice ea en ec) (x ^ (n0 + n1))) := h12
  have HA12 : Hid (Na w12 (.slice a la.length ca) A) := HA11.out.below g12
  have T12 : Hid (Can w12 (.slice ta tn tc) A) := T11.out.below g12
  have X12 : Hid (Can w12 (.slice ba bn bc) (x ^ n0)) := X11.out.below g12
  have Y12 : Hid (Can w12 (.slice da dn dc) (x ^ n1)) := Y11.out.below g12
  have G12 : Hid (Below w0.heap.size w0 w12) := G11.out.trans (g12.mono G11.out.size)
  clear g12 G11 HA11 T11 X11 Y11 h12
  clear c0 c1
  have c0 : w12.cell? ⟨w.heap.size, 0, none⟩ = some (.int .u8 (n0 : Int)) := (G12.out.cell (p := ⟨w.heap.size, 0, none⟩) hbox.out.2.2).trans hbox.out.1
  have c1 : w12.cell? ⟨w.heap.size, 1, none⟩ = some (.int .u8 (n1 : Int)) := (G12.out.cell (p := ⟨w.heap.size, 1, none⟩) hbox.out.2.2).trans hbox.out.2.1
  go_wp2_with fail
  refine (leftNa A n0 _ _ HA12.out HBA.out hsl (by omega)).mono ?_
  rintro e w13 ⟨v13, rfl, h13, g13⟩
  obtain ⟨fa, fn, fc, rfl⟩ := h13.shape
  have L13 : Hid (Can w13 (.slice fa fn fc) (A * 2 ^ n0)) := h13
  have HA13 : Hid (Na w13 (.slice a la.length ca) A) := HA12.out.below g13
  have T13 : Hid (Can w13 (.slice ta tn tc) A) := T12.out.below g13
  have X13 : Hid (Can w13 (.slice ba bn bc) (x ^ n0)) := X12.out.below g13
  have Y13 : Hid (Can w13 (.slice da dn dc) (x ^ n1)) := Y12.out.below g13
  have Z13 : Hid (Can w13 (.slice ea en ec) (x ^ (n0 + n1))) := Z12.out.below g13
  have G13 : Hid (Below w0.heap.size w0 w13) := G12.out.trans (g13.mono G12.out.size)
  clear g13 G12 HA12 T12 X12 Y12 Z12 h13
  clear c0 c1
  have c0 : w13.cell? ⟨w.heap.size, 0, none⟩ = some (.int .u8 (n0 : Int)) := (G13.out.cell (p := ⟨w.heap.size, 0, none⟩) hbox.out.2.2).trans hbox.out.1
  have c1 : w13.cell? ⟨w.heap.size, 1, none⟩ = some (.int .u8 (n1 : Int)) := (G13.out.cell (p := ⟨w.heap.size, 1, none⟩) hbox.out.2.2).trans hbox.out.2.1
  go_wp2_with fail
  refine (powerNa 2 n0 _ (by omega) (by omega)).mono ?_
  rintro e w14 ⟨v14, rfl, h14, g14⟩
  obtain ⟨ga, gn, gc, rfl⟩ := h14.shape
  have P214 : Hid (Can w14 (.slice ga gn gc) (2 ^ n0)) := h14
  have HA14 : Hid (Na w14 (.slice a la.length ca) A) := HA13.out.below g14
  have T14 : Hid (Can w14 (.slice ta tn tc) A) := T13.out.below g14
  have X14 : Hid (Can w14 (.slice ba bn bc) (x ^ n0)) := X13.out.below g14
  have Y14 : Hid (Can w14 (.slice da dn dc) (x ^ n1)) := Y13.out.below g14
  have Z14 : Hid (Can w14 (.slice ea en ec) (x ^ (n0 + n1))) := Z13.out.below g14
  have L14 : Hid (Can w14 (.slice fa fn fc) (A * 2 ^ n0)) := L13.out.below g14
  have G14 : Hid (Below w0.heap.size w0 w14) := G13.out.trans (g14.mono G13.out.size)
  clear g14 G13 HA13 T13 X13 Y13 Z13 L13 h14
  clear c0 c1
  go_wp2_with fail
  refine (addNa A (x ^ n0) _ _ _ HA14.out (X14.out.na K bX.out hK2)).mono ?_
  rintro e w15 ⟨v15, rfl, h15, g15⟩
  obtain ⟨ha1, hn, hc, rfl⟩ := h15.shape
  have S15 : Hid (Can w15 (.slice ha1 hn hc) (A + x ^ n0)) := h15
  have HA15 : Hid (Na w15 (.slice a la.length ca) A) := HA14.out.below g15
  have T15 : Hid (Can w15 (.slice ta tn tc) A) := T14.out.below g15
  have X15 : Hid (Can w15 (.slice ba bn bc) (x ^ n0)) := X14.out.below g15
  have Y15 : Hid (Can w15 (.slice da dn dc) (x ^ n1)) := Y14.out.below g15
  have Z15 : Hid (Can w15 (.slice ea en ec) (x ^ (n0 + n1))) := Z14.out.below g15
  have L15 : Hid (Can w15 (.slice fa fn fc) (A * 2 ^ n0)) := L14.out.below g15
  have P215 : Hid (Can w15 (.slice ga gn gc) (2 ^ n0)) := P214.out.below g15
  have G15 : Hid (Below w0.heap.size w0 w15) := G14.out.trans (g15.mono G14.out.size)
  clear g15 G14 HA14 T14 X14 Y14 Z14 L14 P214 h15
  go_wp2_with fail
  refine (subNa (A + x ^ n0) (x ^ n0) _ _ _ (S15.out.na K bS.out hK2) (X15.out.na K bX.out hK2) (Nat.le_add_left _ _)).mono ?_
  rw [Nat.add_sub_cancel]
  rintro e w16 ⟨v16, rfl, h16, g16⟩
  obtain ⟨ia, iin, ic, rfl⟩ := h16.shape
  have D16 : Hid (Can w16 (.slice ia iin ic) A) := h16
  have HA16 : Hid (Na w16 (.slice a la.length ca) A) := HA15.out.below g16
  have T16 : Hid (Can w16 (.slice ta tn tc) A) := T15.out.below g16
  have X16 : Hid (Can w16 (.slice ba bn bc) (x ^ n0)) := X15.out.below g16
  have Y16 : Hid (Can w16 (.slice da dn dc) (x ^ n1)) := Y15.out.below g16
  have Z16 : Hid (Can w16 (.slice ea en ec) (x ^ (n0 + n1))) := Z15.out.below g16
  have L16 : Hid (Can w16 (.slice fa fn fc) (A * 2 ^ n0)) := L15.out.below g16
  have P216 : Hid (Can w16 (.slice ga gn gc) (2 ^ n0)) := P215.out.below g16
  have S16 : Hid (Can w16 (.slice ha1 hn hc) (A + x ^ n0)) := S15.out.below g16
  have G16 : Hid (Below w0.heap.size w0 w16) := G15.out.trans (g16.mono G15.out.size)
  clear g16 G15 HA15 T15 X15 Y15 Z15 L15 P215 S15 h16
  clear S16
  go_wp2_with fail
  refine (mulNa (x ^ n0) (x ^ n1) _ _ _ (X16.out.na K bX.out hK2) (Y16.out.na K bY.out hK2)).mono ?_
  rw [← Nat.pow_add]
  rintro e w17 ⟨v17, rfl, h17, g17⟩
  obtain ⟨ja, jn, jc, rfl⟩ := h17.shape
  have M17 : Hid (Can w17 (.slice ja jn jc) (x ^ (n0 + n1))) := h17
  have HA17 : Hid (Na w17 (.slice a la.length ca) A) := HA16.out.below g17
  have T17 : Hid (Can w17 (.slice ta tn tc) A) := T16.out.below g17
  have X17 : Hid (Can w17 (.slice ba bn bc) (x ^ n0)) := X16.out.below g17
  have Y17 : Hid (Can w17 (.slice da dn dc) (x ^ n1)) := Y16.out.below g17
  have Z17 : Hid (Can w17 (.slice ea en ec) (x ^ (n0 + n1))) := Z16.out.below g17
  have L17 : Hid (Can w17 (.slice fa fn fc) (A * 2 ^ n0)) := L16.out.below g17
  have P217 : Hid (Can w17 (.slice ga gn gc) (2 ^ n0)) := P216.out.below g17
  have D17 : Hid (Can w17 (.slice ia iin ic) A) := D16.out.below g17
  have G17 : Hid (Below w0.heap.size w0 w17) := G16.out.trans (g17.mono G16.out.size)
  clear g17 G16 HA16 T16 X16 Y16 Z16 L16 P216 D16 h17
  clear X17
  clear Y17
  go_wp2_with fail
  refine (same_can (x ^ (n0 + n1)) _ _ _ M17.out Z17.out K bZ.out (by omega)).mono ?_
  rintro e w18 ⟨rfl, g18⟩
  have HA18 : Hid (Na w18 (.slice a la.length ca) A) := HA17.out.below g18
  have T18 : Hid (Can w18 (.slice ta tn tc) A) := T17.out.below g18
  have Z18 : Hid (Can w18 (.slice ea en ec) (x ^ (n0 + n1))) := Z17.out.below g18
  have L18 : Hid (Can w18 (.slice fa fn fc) (A * 2 ^ n0)) := L17.out.below g18
  have P218 : Hid (Can w18 (.slice ga gn gc) (2 ^ n0)) := P217.out.below g18
  have D18 : Hid (Can w18 (.slice ia iin ic) A) := D17.out.below g18
  have M18 : Hid (Can w18 (.slice ja jn jc) (x ^ (n0 + n1))) := M17.out.below g18
  have G18 : Hid (Below w0.heap.size w0 w18) := G17.out.trans (g18.mono G17.out.size)
  clear g18 G17 HA17 T17 Z17 L17 P217 D17 M17
  clear M18
  clear Z18
  go_wp2_with fail
  refine (mulNa A (2 ^ n0) _ _ _ HA18.out (P218.out.na K bP.out hK2)).mono ?_
  rintro e w19 ⟨v19, rfl, h19, g19⟩
  obtain ⟨ka, kn, kc, rfl⟩ := h19.shape
  have M19 : Hid (Can w19 (.slice ka kn kc) (A * 2 ^ n0)) := h19
  have HA19 : Hid (Na w19 (.slice a la.length ca) A) := HA18.out.below g19
  have T19 : Hid (Can w19 (.slice ta tn tc) A) := T18.out.below g19
  have L19 : Hid (Can w19 (.slice fa fn fc) (A * 2 ^ n0)) := L18.out.below g19
  have P219 : Hid (Can w19 (.slice ga gn gc) (2 ^ n0)) := P218.out.below g19
  have D19 : Hid (Can w19 (.slice ia iin ic) A) := D18.out.below g19
  have G19 : Hid (Below w0.heap.size w0 w19) := G18.out.trans (g19.mono G18.out.size)
  clear g19 G18 HA18 T18 L18 P218 D18 h19
  clear P219
  go_wp2_with fail
  refine (same_can (A * 2 ^ n0) _ _ _ L19.out M19.out K bL.out (by omega)).mono ?_
  rintro e w20 ⟨rfl, g20⟩
  have HA20 : Hid (Na w20 (.slice a la.length ca) A) := HA19.out.below g20
  have T20 : Hid (Can w20 (.slice ta tn tc) A) := T19.out.below g20
  have L20 : Hid (Can w20 (.slice fa fn fc) (A * 2 ^ n0)) := L19.out.below g20
  have D20 : Hid (Can w20 (.slice ia iin ic) A) := D19.out.below g20
  have M20 : Hid (Can w20 (.slice ka kn kc) (A * 2 ^ n0)) := M19.out.below g20
  have G20 : Hid (Below w0.heap.size w0 w20) := G19.out.trans (g20.mono G19.out.size)
  clear g20 G19 HA19 T19 L19 D19 M19
  clear L20
  clear M20
  go_wp2_with fail
  refine (same_can A _ _ _ D20.out T20.out K bA.out (by omega)).mono ?_
  rintro e w21 ⟨rfl, g21⟩
  have HA21 : Hid (Na w21 (.slice a la.length ca) A) := HA20.out.below g21
  have T21 : Hid (Can w21 (.slice ta tn tc) A) := T20.out.below g21
  have D21 : Hid (Can w21 (.slice ia iin ic) A) := D20.out.below g21
  have G21 : Hid (Below w0.heap.size w0 w21) := G20.out.trans (g21.mono G20.out.size)
  clear g21 G20 HA20 T20 D20
  clear D21
  go_wp2_with fail
  obtain ⟨nn, hnn⟩ : ∃ nn, Hid (nn = (nbits A + 7) / 8) := ⟨_, rfl⟩
  refine (bytesNa A _ _ HA21.out).mono ?_
  rw [← hnn.out]
  rintro e w22 ⟨v22, rfl, h22, g22⟩
  obtain ⟨la1, lc, hsh⟩ := h22.shape; rw [beB_length] at hsh; subst hsh
  have O22 : Hid (SK .u8 w22 (.slice la1 nn lc) (beB A nn)) := h22
  have HA22 : Hid (Na w22 (.slice a la.length ca) A) := HA21.out.below g22
  have T22 : Hid (Can w22 (.slice ta tn tc) A) := T21.out.below g22
  have G22 : Hid (Below w0.heap.size w0 w22) := G21.out.trans (g22.mono G21.out.size)
  clear g22 G21 HA21 T21 h22
  go_wp2_with fail
  refine (ofNa A nn hnn.out _ _ O22.out (by have := hnn.out; omega)).mono ?_
  rintro e w23 ⟨v23, rfl, h23, g23⟩
  obtain ⟨oa, on, oc, rfl⟩ := h23.shape
  have E23 : Hid (Can w23 (.slice oa on oc) A) := h23
  have HA23 : Hid (Na w23 (.slice a la.length ca) A) := HA22.out.below g23
  have T23 : Hid (Can w23 (.slice ta tn tc) A) := T22.out.below g23
  have O23 : Hid (SK .u8 w23 (.slice la1 nn lc) (beB A nn)) := O22.out.below g23
  have G23 : Hid (Below w0.heap.size w0 w23) := G22.out.trans (g23.mono G22.out.size)
  clear g23 G22 HA22 T22 O22 h23
  clear O23
  go_wp2_with fail
  refine (same_can A _ _ _ E23.out T23.out K bA.out (by omega)).mono ?_
  rintro e w24 ⟨rfl, g24⟩
  have HA24 : Hid (Na w24 (.slice a la.length ca) A) := HA23.out.below g24
  have T24 : Hid (Can w24 (.slice ta tn tc) A) := T23.out.below g24
  have E24 : Hid (Can w24 (.slice oa on oc) A) := E23.out.below g24
  have G24 : Hid (Below w0.heap.size w0 w24) := G23.out.trans (g24.mono G23.out.size)
  clear g24 G23 HA23 T23 E23
  clear E24
  go_wp2_with fail
  go_ret
  exact ⟨rfl, hbel.out.trans (G24.out.mono hbel.out.size)⟩

set_option maxRecDepth 100000 in
set_option maxHeartbeats 4000000 in
theorem nback_zero (la : List Nat) (va : Value) (x n0 n1 : Nat) (w : World) (ha : SK .u64 w va la) (hwa : Ww la) (hla : la.length ≤ 60) (hx : x < 18446744073709551616) (hn0 : n0 ≤ 255) (hn1 : n1 ≤ 255) (hx0 : x = 0) :
    Calls Try.prog 7 #[va, .int .u64 (x : Int), .agg #[.int .u8 (n0 : Int), .int .u8 (n1 : Int)]] w fun e w' => e = .returned (.bool true) ∧ Below w.heap.size w w' := by
  obtain ⟨a, ca, rfl⟩ := ha.shape
  obtain ⟨A, hA⟩ : ∃ A, valW la = A := ⟨_, rfl⟩
  have BA : A < 18446744073709551616 ^ 60 := by rw [← hA]; exact lt_powK (valW_lt la hwa) hla
  obtain ⟨K, hK⟩ : ∃ K : Nat, K = 600 := ⟨_, rfl⟩
  have HNa : Hid (Na w (.slice a la.length ca) A) := ⟨la, ha, hwa, by omega, hA⟩
  have h1' : ¬ (60 : Int) < la.length := by omega
  have HBA : Hid (A < 18446744073709551616 ^ 60) := BA
  have bA : Hid (A < 18446744073709551616 ^ K) := lt_powK BA (by omega)
  have hxp : ¬ (0 : Int) < (x : Int) := by omega
  clear hx0
  have bX : Hid (x ^ n0 < 18446744073709551616 ^ K) := pow_powK x n0 K hx (by omega)
  have bY : Hid (x ^ n1 < 18446744073709551616 ^ K) := pow_powK x n1 K hx (by omega)
  have bZ : Hid (x ^ (n0 + n1) < 18446744073709551616 ^ K) := pow_powK x (n0 + n1) K hx (by omega)
  have bP : Hid (2 ^ n0 < 18446744073709551616 ^ K) := pow_powK 2 n0 K (by omega) (by omega)
  have bL : Hid (A * 2 ^ n0 < 18446744073709551616 ^ K) := mul_powK BA (pow_powK 2 n0 256 (by omega) (by omega)) (by omega)
  have bS : Hid (A + x ^ n0 < 18446744073709551616 ^ K) := add_powK (m := K - 1) (lt_powK BA (by omega)) (pow_powK x n0 (K - 1) hx (by omega)) (by omega)
  have hK2 : K ≤ 100000 := by omega
  have hnb : nbits A ≤ 3840 := by rw [← hA]; have := nbits_leW la hwa; omega
  obtain ⟨w0, hw0⟩ : ∃ w0, Hid (w.alloc (.cells #[.int .u8 (n0 : Int), .int .u8 (n1 : Int)] 58) = w0) := ⟨_, rfl⟩
  have G0 : Hid (Below w0.heap.size w0 w0) := Below.refl _ _
  have hbox : Hid (w0.cell? ⟨w.heap.size, 0, none⟩ = some (.int .u8 (n0 : Int)) ∧ w0.cell? ⟨w.heap.size, 1, none⟩ = some (.int .u8 (n1 : Int)) ∧ w.heap.size < w0.heap.size) := by unfold Hid; rw [← hw0.out]; simp
  have hbel : Hid (Below w.heap.size w w0) := by unfold Hid; rw [← hw0.out]; exact (Below.refl _ _).alloc (Nat.le_refl _) _
  have HA0 : Hid (Na w0 (.slice a la.length ca) A) := HNa.out.below hbel.out
  have wn0 : IntKind.i64.wrap (n0 : Int) = (n0 : Int) := wrapI _ (by omega) (by omega)
  have wn1 : IntKind.i64.wrap (n1 : Int) = (n1 : Int) := wrapI _ (by omega) (by omega)
  have i0 : (n0 : Int) ≤ 255 := by omega
  have i1 : (n1 : Int) ≤ 255 := by omega
  have hsl : ∃ b k c, Value.slice a la.length ca = .slice b k c ∧ k ≤ 60 := ⟨a, la.length, ca, rfl, hla⟩
  clear ha hwa hA BA HNa hK
  go_enter Try.func7, Try.ntmps7
  go_wp2_with fail
  rw [hw0.out]
  refine (awakeN_any _).mono ?_
  rintro e w1 ⟨rfl, g1⟩
  have HA1 : Hid (Na w1 (.slice a la.length ca) A) := HA0.out.below g1
  have G1 : Hid (Below w0.heap.size w0 w1) := G0.out.trans (g1.mono G0.out.size)
  clear g1 G0 HA0
  go_wp2_with fail
  refine (trimNa A _ _ HA1.out).mono ?_
  rintro e w2 ⟨v2, rfl, h2, g2⟩
  obtain ⟨ta, tn, tc, rfl⟩ := h2.shape
  have T2 : Hid (Can w2 (.slice ta tn tc) A) := h2
  have HA2 : Hid (Na w2 (.slice a la.length ca) A) := HA1.out.below g2
  have G2 : Hid (Below w0.heap.size w0 w2) := G1.out.trans (g2.mono G1.out.size)
  clear g2 G1 HA1 h2
  have c0 : w2.cell? ⟨w.heap.size, 0, none⟩ = some (.int .u8 (n0 : Int)) := (G2.out.cell (p := ⟨w.heap.size, 0, none⟩) hbox.out.2.2).trans hbox.out.1
  have c1 : w2.cell? ⟨w.heap.size, 1, none⟩ = some (.int .u8 (n1 : Int)) := (G2.out.cell (p := ⟨w.heap.size, 1, none⟩) hbox.out.2.2).trans hbox.out.2.1
  go_wp2_with fail
  refine (powerNa x n0 _ hx (by omega)).mono ?_
  rintro e w3 ⟨v3, rfl, h3, g3⟩
  obtain ⟨ba, bn, bc, rfl⟩ := h3.shape
  have X3 : Hid (Can w3 (.slice ba bn bc) (x ^ n0)) := h3
  have HA3 : Hid (Na w3 (.slice a la.length ca) A) := HA2.out.below g3
  have T3 : Hid (Can w3 (.slice ta tn tc) A) := T2.out.below g3
  have G3 : Hid (Below w0.heap.size w0 w3) := G2.out.trans (g3.mono G2.out.size)
  clear g3 G2 HA2 T2 h3
  clear c0 c1
  have c0 : w3.cell? ⟨w.heap.size, 0, none⟩ = some (.int .u8 (n0 : Int)) := (G3.out.cell (p := ⟨w.heap.size, 0, none⟩) hbox.out.2.2).trans hbox.out.1
  have c1 : w3.cell? ⟨w.heap.size, 1, none⟩ = some (.int .u8 (n1 : Int)) := (G3.out.cell (p := ⟨w.heap.size, 1, none⟩) hbox.out.2.2).trans hbox.out.2.1
  go_wp2_with fail
  refine (powerNa x n1 _ hx (by omega)).mono ?_
  rintro e w4 ⟨v4, rfl, h4, g4⟩
  obtain ⟨da, dn, dc, rfl⟩ := h4.shape
  have Y4 : Hid (Can w4 (.slice da dn dc) (x ^ n1)) := h4
  have HA4 : Hid (Na w4 (.slice a la.length ca) A) := HA3.out.below g4
  have T4 : Hid (Can w4 (.slice ta tn tc) A) := T3.out.below g4
  have X4 : Hid (Can w4 (.slice ba bn bc) (x ^ n0)) := X3.out.below g4
  have G4 : Hid (Below w0.heap.size w0 w4) := G3.out.trans (g4.mono G3.out.size)
  clear g4 G3 HA3 T3 X3 h4
  clear c0 c1
  have c0 : w4.cell? ⟨w.heap.size, 0, none⟩ = some (.int .u8 (n0 : Int)) := (G4.out.cell (p := ⟨w.heap.size, 0, none⟩) hbox.out.2.2).trans hbox.out.1
  have c1 : w4.cell? ⟨w.heap.size, 1, none⟩ = some (.int .u8 (n1 : Int)) := (G4.out.cell (p := ⟨w.heap.size, 1, none⟩) hbox.out.2.2).trans hbox.out.2.1
  go_wp2_with fail
  have hsum : (n0 : Int) + (n1 : Int) = ((n0 + n1 : Nat) : Int) := by omega
  rw [hsum]
  clear hsum
  refine (powerNa x (n0 + n1) _ hx (by omega)).mono ?_
  rintro e w5 ⟨v5, rfl, h5, g5⟩
  obtain ⟨ea, en, ec, rfl⟩ := h5.shape
  have Z5 : Hid (Can w5 (.slice ea en ec) (x ^ (n0 + n1))) := h5
  have HA5 : Hid (Na w5 (.slice a la.length ca) A) := HA4.out.below g5
  have T5 : Hid (Can w5 (.slice ta tn tc) A) := T4.out.below g5
  have X5 : Hid (Can w5 (.slice ba bn bc) (x ^ n0)) := X4.out.below g5
  have Y5 : Hid (Can w5 (.slice da dn dc) (x ^ n1)) := Y4.out.below g5
  have G5 : Hid (Below w0.heap.size w0 w5) := G4.out.trans (g5.mono G4.out.size)
  clear g5 G4 HA4 T4 X4 Y4 h5
  clear c0 c1
  have c0 : w5.cell? ⟨w.heap.size, 0, none⟩ = some (.int .u8 (n0 : Int)) := (G5.out.cell (p := ⟨w.heap.size, 0, none⟩) hbox.out.2.2).trans hbox.out.1
  have c1 : w5.cell? ⟨w.heap.size, 1, none⟩ = some (.int .u8 (n1 : Int)) := (G5.out.cell (p := ⟨w.heap.size, 1, none⟩) hbox.out.2.2).trans hbox.out.2.1
  go_wp2_with fail
  refine (leftNa A n0 _ _ HA5.out HBA.out hsl (by omega)).mono ?_
  rintro e w6 ⟨v6, rfl, h6, g6⟩
  obtain ⟨fa, fn, fc, rfl⟩ := h6.shape
  have L6 : Hid (Can w6 (.slice fa fn fc) (A * 2 ^ n0)) := h6
  have HA6 : Hid (Na w6 (.slice a la.length ca) A) := HA5.out.below g6
  have T6 : Hid (Can w6 (.slice ta tn tc) A) := T5.out.below g6
  have X6 : Hid (Can w6 (.slice ba bn bc) (x ^ n0)) := X5.out.below g6
  have Y6 : Hid (Can w6 (.slice da dn dc) (x ^ n1)) := Y5.out.below g6
  have Z6 : Hid (Can w6 (.slice ea en ec) (x ^ (n0 + n1))) := Z5.out.below g6
  have G6 : Hid (Below w0.heap.size w0 w6) := G5.out.trans (g6.mono G5.out.size)
  clear g6 G5 HA5 T5 X5 Y5 Z5 h6
  clear c0 c1
  have c0 : w6.cell? ⟨w.heap.size, 0, none⟩ = some (.int .u8 (n0 : Int)) := (G6.out.cell (p := ⟨w.heap.size, 0, none⟩) hbox.out.2.2).trans hbox.out.1
  have c1 : w6.cell? ⟨w.heap.size, 1, none⟩ = some (.int .u8 (n1 : Int)) := (G6.out.cell (p := ⟨w.heap.size, 1, none⟩) hbox.out.2.2).trans hbox.out.2.1
  go_wp2_with fail
  refine (powerNa 2 n0 _ (by omega) (by omega)).mono ?_
  rintro e w7 ⟨v7, rfl, h7, g7⟩
  obtain ⟨ga, gn, gc, rfl⟩ := h7.shape
  have P27 : Hid (Can w7 (.slice ga gn gc) (2 ^ n0)) := h7
  have HA7 : Hid (Na w7 (.slice a la.length ca) A) := HA6.out.below g7
  have T7 : Hid (Can w7 (.slice ta tn tc) A) := T6.out.below g7
  have X7 : Hid (Can w7 (.slice ba bn bc) (x ^ n0)) := X6.out.below g7
  have Y7 : Hid (Can w7 (.slice da dn dc) (x ^ n1)) := Y6.out.below g7
  have Z7 : Hid (Can w7 (.slice ea en ec) (x ^ (n0 + n1))) := Z6.out.below g7
  have L7 : Hid (Can w7 (.slice fa fn fc) (A * 2 ^ n0)) := L6.out.below g7
  have G7 : Hid (Below w0.heap.size w0 w7) := G6.out.trans (g7.mono G6.out.size)
  clear g7 G6 HA6 T6 X6 Y6 Z6 L6 h7
  clear c0 c1
  go_wp2_with fail
  refine (addNa A (x ^ n0) _ _ _ HA7.out (X7.out.na K bX.out hK2)).mono ?_
  rintro e w8 ⟨v8, rfl, h8, g8⟩
  obtain ⟨ha1, hn, hc, rfl⟩ := h8.shape
  have S8 : Hid (Can w8 (.slice ha1 hn hc) (A + x ^ n0)) := h8
  have HA8 : Hid (Na w8 (.slice a la.length ca) A) := HA7.out.below g8
  have T8 : Hid (Can w8 (.slice ta tn tc) A) := T7.out.below g8
  have X8 : Hid (Can w8 (.slice ba bn bc) (x ^ n0)) := X7.out.below g8
  have Y8 : Hid (Can w8 (.slice da dn dc) (x ^ n1)) := Y7.out.below g8
  have Z8 : Hid (Can w8 (.slice ea en ec) (x ^ (n0 + n1))) := Z7.out.below g8
  have L8 : Hid (Can w8 (.slice fa fn fc) (A * 2 ^ n0)) := L7.out.below g8
  have P28 : Hid (Can w8 (.slice ga gn gc) (2 ^ n0)) := P27.out.below g8
  have G8 : Hid (Below w0.heap.size w0 w8) := G7.out.trans (g8.mono G7.out.size)
  clear g8 G7 HA7 T7 X7 Y7 Z7 L7 P27 h8
  go_wp2_with fail
  refine (subNa (A + x ^ n0) (x ^ n0) _ _ _ (S8.out.na K bS.out hK2) (X8.out.na K bX.out hK2) (Nat.le_add_left _ _)).mono ?_
  rw [Nat.add_sub_cancel]
  rintro e w9 ⟨v9, rfl, h9, g9⟩
  obtain ⟨ia, iin, ic, rfl⟩ := h9.shape
  have D9 : Hid (Can w9 (.slice ia iin ic) A) := h9
  have HA9 : Hid (Na w9 (.slice a la.length ca) A) := HA8.out.below g9
  have T9 : Hid (Can w9 (.slice ta tn tc) A) := T8.out.below g9
  have X9 : Hid (Can w9 (.slice ba bn bc) (x ^ n0)) := X8.out.below g9
  have Y9 : Hid (Can w9 (.slice da dn dc) (x ^ n1)) := Y8.out.below g9
  have Z9 : Hid (Can w9 (.slice ea en ec) (x ^ (n0 + n1))) := Z8.out.below g9
  have L9 : Hid (Can w9 (.slice fa fn fc) (A * 2 ^ n0)) := L8.out.below g9
  have P29 : Hid (Can w9 (.slice ga gn gc) (2 ^ n0)) := P28.out.below g9
  have S9 : Hid (Can w9 (.slice ha1 hn hc) (A + x ^ n0)) := S8.out.below g9
  have G9 : Hid (Below w0.heap.size w0 w9) := G8.out.trans (g9.mono G8.out.size)
  clear g9 G8 HA8 T8 X8 Y8 Z8 L8 P28 S8 h9
  clear S9
  go_wp2_with fail
  refine (mulNa (x ^ n0) (x ^ n1) _ _ _ (X9.out.na K bX.out hK2) (Y9.out.na K bY.out hK2)).mono ?_
  rw [← Nat.pow_add]
  rintro e w10 ⟨v10, rfl, h10, g10⟩
  obtain ⟨ja, jn, jc, rfl⟩ := h10.shape
  have M10 : Hid (Can w10 (.slice ja jn jc) (x ^ (n0 + n1))) := h10
  have HA10 : Hid (Na w10 (.slice a la.length ca) A) := HA9.out.below g10
  have T10 : Hid (Can w10 (.slice ta tn tc) A) := T9.out.below g10
  have X10 : Hid (Can w10 (.slice ba bn bc) (x ^ n0)) := X9.out.below g10
  have Y10 : Hid (Can w10 (.slice da dn dc) (x ^ n1)) := Y9.out.below g10
  have Z10 : Hid (Can w10 (.slice ea en ec) (x ^ (n0 + n1))) := Z9.out.below g10
  have L10 : Hid (Can w10 (.slice fa fn fc) (A * 2 ^ n0)) := L9.out.below g10
  have P210 : Hid (Can w10 (.slice ga gn gc) (2 ^ n0)) := P29.out.below g10
  have D10 : Hid (Can w10 (.slice ia iin ic) A) := D9.out.below g10
  have G10 : Hid (Below w0.heap.size w0 w10) := G9.out.trans (g10.mono G9.out.size)
  clear g10 G9 HA9 T9 X9 Y9 Z9 L9 P29 D9 h10
  clear X10
  clear Y10
  go_wp2_with fail
  refine (same_can (x ^ (n0 + n1)) _ _ _ M10.out Z10.out K bZ.out (by omega)).mono ?_
  rintro e w11 ⟨rfl, g11⟩
  have HA11 : Hid (Na w11 (.slice a la.length ca) A) := HA10.out.below g11
  have T11 : Hid (Can w11 (.slice ta tn tc) A) := T10.out.below g11
  have Z11 : Hid (Can w11 (.slice ea en ec) (x ^ (n0 + n1))) := Z10.out.below g11
  have L11 : Hid (Can w11 (.slice fa fn fc) (A * 2 ^ n0)) := L10.out.below g11
  have P211 : Hid (Can w11 (.slice ga gn gc) (2 ^ n0)) := P210.out.below g11
  have D11 : Hid (Can w11 (.slice ia iin ic) A) := D10.out.below g11
  have M11 : Hid (Can w11 (.slice ja jn jc) (x ^ (n0 + n1))) := M10.out.below g11
  have G11 : Hid (Below w0.heap.size w0 w11) := G10.out.trans (g11.mono G10.out.size)
  clear g11 G10 HA10 T10 Z10 L10 P210 D10 M10
  clear M11
  clear Z11
  go_wp2_with fail
  refine (mulNa A (2 ^ n0) _ _ _ HA11.out (P211.out.na K bP.out hK2)).mono ?_
  rintro e w12 ⟨v12, rfl, h12, g12⟩
  obtain ⟨ka, kn, kc, rfl⟩ := h12.shape
  have M12 : Hid (Can w12 (.slice ka kn kc) (A * 2 ^ n0)) := h12
  have HA12 : Hid (Na w12 (.slice a la.length ca) A) := HA11.out.below g12
  have T12 : Hid (Can w12 (.slice ta tn tc) A) := T11.out.below g12
  have L12 : Hid (Can w12 (.slice fa fn fc) (A * 2 ^ n0)) := L11.out.below g12
  have P212 : Hid (Can w12 (.slice ga gn gc) (2 ^ n0)) := P211.out.below g12
  have D12 : Hid (Can w12 (.slice ia iin ic) A) := D11.out.below g12
  have G12 : Hid (Below w0.heap.size w0 w12) := G11.out.trans (g12.mono G11.out.size)
  clear g12 G11 HA11 T11 L11 P211 D11 h12
  clear P212
  go_wp2_with fail
  refine (same_can (A * 2 ^ n0) _ _ _ L12.out M12.out K bL.out (by omega)).mono ?_
  rintro e w13 ⟨rfl, g13⟩
  have HA13 : Hid (Na w13 (.slice a la.length ca) A) := HA12.out.below g13
  have T13 : Hid (Can w13 (.slice ta tn tc) A) := T12.out.below g13
  have L13 : Hid (Can w13 (.slice fa fn fc) (A * 2 ^ n0)) := L12.out.below g13
  have D13 : Hid (Can w13 (.slice ia iin ic) A) := D12.out.below g13
  have M13 : Hid (Can w13 (.slice ka kn kc) (A * 2 ^ n0)) := M12.out.below g13
  have G13 : Hid (Below w0.heap.size w0 w13) := G12.out.trans (g13.mono G12.out.size)
  clear g13 G12 HA12 T12 L12 D12 M12
  clear L13
  clear M13
  go_wp2_with fail
  refine (same_can A _ _ _ D13.out T13.out K bA.out (by omega)).mono ?_
  rintro e w14 ⟨rfl, g14⟩
  have HA14 : Hid (Na w14 (.slice a la.length ca) A) := HA13.out.below g14
  have T14 : Hid (Can w14 (.slice ta tn tc) A) := T13.out.below g14
  have D14 : Hid (Can w14 (.slice ia iin ic) A) := D13.out.below g14
  have G14 : Hid (Below w0.heap.size w0 w14) := G13.out.trans (g14.mono G13.out.size)
  clear g14 G13 HA13 T13 D13
  clear D14
  go_wp2_with fail
  obtain ⟨nn, hnn⟩ : ∃ nn, Hid (nn = (nbits A + 7) / 8) := ⟨_, rfl⟩
  refine (bytesNa A _ _ HA14.out).mono ?_
  rw [← hnn.out]
  rintro e w15 ⟨v15, rfl, h15, g15⟩
  obtain ⟨la1, lc, hsh⟩ := h15.shape; rw [beB_length] at hsh; subst hsh
  have O15 : Hid (SK .u8 w15 (.slice la1 nn lc) (beB A nn)) := h15
  have HA15 : Hid (Na w15 (.slice a la.length ca) A) := HA14.out.below g15
  have T15 : Hid (Can w15 (.slice ta tn tc) A) := T14.out.below g15
  have G15 : Hid (Below w0.heap.size w0 w15) := G14.out.trans (g15.mono G14.out.size)
  clear g15 G14 HA14 T14 h15
  go_wp2_with fail
  refine (ofNa A nn hnn.out _ _ O15.out (by have := hnn.out; omega)).mono ?_
  rintro e w16 ⟨v16, rfl, h16, g16⟩
  obtain ⟨oa, on, oc, rfl⟩ := h16.shape
  have E16 : Hid (Can w16 (.slice oa on oc) A) := h16
  have HA16 : Hid (Na w16 (.slice a la.length ca) A) := HA15.out.below g16
  have T16 : Hid (Can w16 (.slice ta tn tc) A) := T15.out.below g16
  have O16 : Hid (SK .u8 w16 (.slice la1 nn lc) (beB A nn)) := O15.out.below g16
  have G16 : Hid (Below w0.heap.size w0 w16) := G15.out.trans (g16.mono G15.out.size)
  clear g16 G15 HA15 T15 O15 h16
  clear O16
  go_wp2_with fail
  refine (same_can A _ _ _ E16.out T16.out K bA.out (by omega)).mono ?_
  rintro e w17 ⟨rfl, g17⟩
  have HA17 : Hid (Na w17 (.slice a la.length ca) A) := HA16.out.below g17
  have T17 : Hid (Can w17 (.slice ta tn tc) A) := T16.out.below g17
  have E17 : Hid (Can w17 (.slice oa on oc) A) := E16.out.below g17
  have G17 : Hid (Below w0.heap.size w0 w17) := G16.out.trans (g17.mono G16.out.size)
  clear g17 G16 HA16 T16 E16
  clear E17
  go_wp2_with fail
  go_ret
  exact ⟨rfl, hbel.out.trans (G17.out.mono hbel.out.size)⟩

theorem nback_walk (la : List Nat) (va : Value) (x n0 n1 : Nat) (w : World) (ha : SK .u64 w va la) (hwa : Ww la) (hx : x < 18446744073709551616) (hn0 : n0 ≤ 255) (hn1 : n1 ≤ 255) :
    Calls Try.prog 7 #[va, .int .u64 (x : Int), .agg #[.int .u8 (n0 : Int), .int .u8 (n1 : Int)]] w fun e w' => e = .returned (.bool true) ∧ Below w.heap.size w w' := by
  by_cases h : 60 < la.length
  · exact nback_long la va x n0 n1 w ha h
  · by_cases hx0 : 0 < x
    · exact nback_pos la va x n0 n1 w ha hwa (by omega) hx hn0 hn1 hx0
    · exact nback_zero la va x n0 n1 w ha hwa (by omega) hx hn0 hn1 (by omega)

end Go.Proofs.Ytdlocljnmaeikaa
