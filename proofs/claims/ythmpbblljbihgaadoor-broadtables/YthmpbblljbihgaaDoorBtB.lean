/-
  The document's own roots, bit by bit. Conditions: as each theorem says.
-/
import Derived.Test.YthmpbblljbihgaaDoorBtA
import Derived.Test.YthmpbblljbihgaaDoorRefF
import Derived.Test.YthmpbblljbihgaaDoorNumLv
import Derived.Test.YthmpbblljbihgaaDoorGY
namespace Go.Proofs.YthmpbblljbihgaaDoor.Br
open Go.RowKit
set_option linter.unusedVariables false
set_option linter.unusedSimpArgs false

/-- The root's bits, from above, behind k steps. -/
def rtx (n d : Nat) : Nat → Nat
  | 0 => 0
  | k + 1 => if (rtx n d k + 2 ^ (69 - k)) ^ d ≤ n * 2 ^ (d * 64) then rtx n d k + 2 ^ (69 - k) else rtx n d k
theorem rtx_lt (n d : Nat) : ∀ k, k ≤ 70 → rtx n d k + 2 ^ (70 - k) ≤ 2 ^ 70
  | 0, _ => by simp [rtx]
  | k + 1, h => by
    have h1 := rtx_lt n d k (by omega)
    have e : 2 ^ (70 - k) = 2 ^ (69 - k) + 2 ^ (69 - k) := by rw [show 70 - k = (69 - k) + 1 by omega, Nat.pow_succ]; omega
    rw [e] at h1
    have := Nat.two_pow_pos (69 - k)
    rw [rtx, show 70 - (k + 1) = 69 - k by omega]
    split <;> omega
theorem sq_lt {y : Nat} (h : y < 1180591620717411303424) : y * y < 1393796574908163946345982392040522594123776 := by
  have := Nat.mul_le_mul (show y ≤ 1180591620717411303423 by omega) (show y ≤ 1180591620717411303423 by omega)
  omega
theorem cu_lt {y : Nat} (h : y < 1180591620717411303424) : y * y * y < 1645504557321206042154969182557350504982735865633579863348609024 := by
  have := Nat.mul_le_mul (show y * y ≤ 1393796574908163946345982392040522594123775 by have := sq_lt h; omega) (show y ≤ 1180591620717411303423 by omega)
  omega
set_option maxRecDepth 100000 in
set_option maxHeartbeats 2000000 in
theorem root2_any (n : Nat) (hn : n < 1000) (w : World) : Calls Tryd.prog 13 #[.int .i64 (n : Int), .int .i64 2] w fun e w' => e = .returned (.int .u64 ((rtx n 2 70 % 18446744073709551616 : Nat) : Int)) ∧ Below w.heap.size w w' := by
  have kI : Hid (Calls Tryd.prog 23 #[.int .i64 (n : Int)] w fun e w' => ∃ v, e = .returned v ∧ Num w' v n ∧ Below w.heap.size w w') := int_any n (by omega) w
  obtain ⟨Q, hQ0⟩ : ∃ Q, n * 2 ^ (2 * 64) = Q := ⟨_, rfl⟩
  have hQ : Hid (n * 2 ^ (2 * 64) = Q) := hQ0
  clear hQ0
  have hQl : Q < 1645504557321206042154969182557350504982735865633579863348609024 := by rw [← hQ.out]; omega
  have hn' : (n : Int) < 1000 := by omega
  go_enter Tryd.func13, Tryd.ntmps13
  go_wp2_with fail
  refine kI.out.mono ?_
  rintro e w1 ⟨v1, rfl, hN1, hB1⟩
  have kS : Hid (Calls Tryd.prog 26 #[v1, .int .i64 128] w1 fun e w' => ∃ v, e = .returned v ∧ Num w' v Q ∧ Below w1.heap.size w1 w') := by
    rw [← hQ.out]; exact shift_num n v1 128 w1 hN1 1 (by omega) (by omega) (by omega)
  have B1 : Hid (Below w.heap.size w w1) := hB1
  obtain ⟨a1, c1, d1, rfl⟩ := hN1.shape
  clear hN1 hB1 kI
  go_wp2_with fail
  refine kS.out.mono ?_
  rintro e w2 ⟨v2, rfl, hN2, hB2⟩
  have B2 : Hid (Below w.heap.size w w2) := B1.out.trans (hB2.mono B1.out.size)
  have N2 : Hid (Num w2 v2 Q) := hN2
  obtain ⟨a2, c2, d2, rfl⟩ := hN2.shape
  clear hN2 hB2 kS B1
  go_wp2_with fail
  go_loopw [5, 7] (fun x y W => ∃ k : Nat, k ≤ 70 ∧ y = .int .i64 (69 - (k : Int)) ∧ Num W x (rtx n 2 k) ∧ Num W (.slice a2 c2 d2) Q ∧ Below w.heap.size w W) (fun _ y _ => (intOf y + 1).toNat)
  case atStart => exact ⟨0, by omega, rfl, ⟨[], Sl.nil _, by simp [Dg], by simp [Nz], rfl⟩, N2.out, B2.out⟩
  case round =>
    clear N2 B2
    obtain ⟨k, hk, rfl, hx, hq, hB⟩ := hrel
    have hlt0 := rtx_lt n 2 k hk
    have HX : Hid (Num wr u5 (rtx n 2 k)) := hx
    have HQ : Hid (Num wr (.slice a2 c2 d2) Q) := hq
    have BW : Hid (Below w.heap.size w wr) := hB
    obtain ⟨xa, xc, xd, rfl⟩ := hx.shape
    clear hx hq hB
    by_cases hlt : k < 70
    · obtain ⟨i, hi⟩ : ∃ i : Nat, 69 - (k : Int) = (i : Int) := ⟨69 - k, by omega⟩
      have hi' : 69 - k = i := by omega
      have hi2 : (i : Int) ≤ 69 := by omega
      rw [hi]
      have hst : Hid (rtx n 2 (k + 1) = if (rtx n 2 k + 2 ^ i) ^ 2 ≤ Q then rtx n 2 k + 2 ^ i else rtx n 2 k) := by unfold Hid; rw [rtx, hi', hQ.out]
      have hpp : 0 < 2 ^ i := Nat.two_pow_pos i
      have hyl : rtx n 2 k + 2 ^ i < 1180591620717411303424 := by
        have e : 2 ^ (70 - k) = 2 ^ i + 2 ^ i := by rw [show 70 - k = i + 1 by omega, Nat.pow_succ]; omega
        rw [e] at hlt0
        omega
      have hpl : 2 ^ i < 1180591620717411303424 := by omega
      have hxl : rtx n 2 k < 1180591620717411303424 := by omega
      clear hlt0 hpp
      have kP : Hid (∀ W, Calls Tryd.prog 28 #[.int .i64 (i : Int)] W fun e w' => ∃ v, e = .returned v ∧ Num w' v (2 ^ i) ∧ Below W.heap.size W w') := fun W => power_any i W (by omega)
      obtain ⟨p, hp⟩ : ∃ p, 2 ^ i = p := ⟨_, rfl⟩
      obtain ⟨x, hxx⟩ : ∃ x, Hid (rtx n 2 k = x) := ⟨_, rfl⟩
      rw [hp, hxx.out] at hyl hst
      rw [hp] at hpl kP
      rw [hxx.out] at HX hxl
      obtain ⟨y, hy⟩ : ∃ y, x + p = y := ⟨_, rfl⟩
      rw [hy] at hyl hst
      have e2 : y ^ 2 = y * y := by rw [Nat.pow_two]
      rw [e2] at hst
      have hsq := sq_lt hyl
      have hcu := cu_lt hyl
      clear hp e2
      go_wp2_with fail
      refine (kP.out _).mono ?_
      rintro e w3 ⟨v3, rfl, hN3, g⟩
      have B3 : Hid (Below w.heap.size w w3) := BW.out.trans (g.mono BW.out.size)
      have X3 : Hid (Num w3 (.slice xa xc xd) x) := HX.out.below g
      have Q3 : Hid (Num w3 (.slice a2 c2 d2) Q) := HQ.out.below g
      obtain ⟨pa, pc, pd, rfl⟩ := hN3.shape
      have kA : Hid (Calls Tryd.prog 27 #[.slice xa xc xd, .slice pa pc pd] w3 fun e w' => ∃ v, e = .returned v ∧ Num w' v y ∧ Below w3.heap.size w3 w') := by
        rw [← hy]; exact add_num x p _ _ w3 X3.out hN3 3 (by omega) (by omega) (by omega)
      clear hN3 g kP BW HX HQ
      go_wp2_with fail
      refine kA.out.mono ?_
      rintro e w4 ⟨v4, rfl, hN4, g⟩
      have B4 : Hid (Below w.heap.size w w4) := B3.out.trans (g.mono B3.out.size)
      have X4 : Hid (Num w4 (.slice xa xc xd) x) := X3.out.below g
      have Q4 : Hid (Num w4 (.slice a2 c2 d2) Q) := Q3.out.below g
      have Y4 : Hid (Num w4 v4 y) := hN4
      obtain ⟨ya, yc, yd, rfl⟩ := hN4.shape
      have kM : Hid (Calls Tryd.prog 29 #[.slice ya yc yd, .slice ya yc yd] w4 fun e w' => ∃ v, e = .returned v ∧ Num w' v (y * y) ∧ Below w4.heap.size w4 w') := ref_mul_num y y _ _ w4 hN4 hN4 3 (by omega) (by omega) (by omega)
      clear hN4 g kA B3 X3 Q3
      go_wp2_with fail
      refine kM.out.mono ?_
      rintro e w5 ⟨v5, rfl, hN5, g⟩
      have B5 : Hid (Below w.heap.size w w5) := B4.out.trans (g.mono B4.out.size)
      have X5 : Hid (Num w5 (.slice xa xc xd) x) := X4.out.below g
      have Q5 : Hid (Num w5 (.slice a2 c2 d2) Q) := Q4.out.below g
      have Y5 : Hid (Num w5 (.slice ya yc yd) y) := Y4.out.below g
      have Z5 : Hid (Num w5 v5 (y * y)) := hN5
      obtain ⟨za, zc, zd, rfl⟩ := hN5.shape
      clear hN5 g kM B4 X4 Q4 Y4

      have kC : Hid (Calls Tryd.prog 30 #[.slice za zc zd, .slice a2 c2 d2] w5 fun e w' => e = .returned (.int .i64 (ord ((y * y : Nat) : Int) (Q : Int))) ∧ Below w5.heap.size w5 w') := cmp_num (y * y) Q _ _ w5 Z5.out Q5.out 9 (by omega) (by omega) (by omega)
      by_cases hle : y * y ≤ Q
      · have ho : Hid (ord ((y * y : Nat) : Int) (Q : Int) ≤ 0) := by unfold Hid ord; split <;> (try split) <;> omega
        obtain ⟨oo, hoo⟩ : ∃ o, ord ((y * y : Nat) : Int) (Q : Int) = o := ⟨_, rfl⟩
        rw [hoo] at ho kC
        have ho' := ho.out
        go_wp2_with fail
        refine kC.out.mono ?_
        rintro e w7 ⟨rfl, g⟩
        have B7 : Hid (Below w.heap.size w w7) := B5.out.trans (g.mono B5.out.size)
        have Q7 : Hid (Num w7 (.slice a2 c2 d2) Q) := Q5.out.below g
        have Y7 : Hid (Num w7 (.slice ya yc yd) y) := Y5.out.below g
        clear g kC hoo ho
        go_wp2_with fail
        go_roundw
        case rel => exact ⟨k + 1, by omega, by go_num, by rw [hst.out, if_pos hle]; exact Y7.out, Q7.out, B7.out⟩
        case measure => simp [intOf] <;> omega
      · have ho : Hid (¬ ord ((y * y : Nat) : Int) (Q : Int) ≤ 0) := by unfold Hid ord; split <;> (try split) <;> omega
        obtain ⟨oo, hoo⟩ : ∃ o, ord ((y * y : Nat) : Int) (Q : Int) = o := ⟨_, rfl⟩
        rw [hoo] at ho kC
        have ho' := ho.out
        go_wp2_with fail
        refine kC.out.mono ?_
        rintro e w7 ⟨rfl, g⟩
        have B7 : Hid (Below w.heap.size w w7) := B5.out.trans (g.mono B5.out.size)
        have Q7 : Hid (Num w7 (.slice a2 c2 d2) Q) := Q5.out.below g
        have X7 : Hid (Num w7 (.slice xa xc xd) x) := X5.out.below g
        clear g kC hoo ho
        go_wp2_with fail
        go_roundw
        case rel => exact ⟨k + 1, by omega, by go_num, by rw [hst.out, if_neg hle]; exact X7.out, Q7.out, B7.out⟩
        case measure => simp [intOf] <;> omega
    · obtain rfl : k = 70 := by omega
      have hxl : rtx n 2 70 < 1180591620717411303424 := by omega
      clear hlt0
      obtain ⟨x, hxx⟩ : ∃ x, rtx n 2 70 = x := ⟨_, rfl⟩
      rw [hxx] at HX hxl
      rw [show 69 - ((70 : Nat) : Int) = -1 from rfl]
      have kW : Hid (Calls Tryd.prog 31 #[.slice xa xc xd, .int .i64 1] wr fun e w' => e = .returned (.slice (some ⟨wr.heap.size, 0, none⟩) 1 1) ∧ w'.cell? ⟨wr.heap.size, 0, none⟩ = some (.int .u64 ((x % 18446744073709551616 : Nat) : Int)) ∧ Below wr.heap.size wr w') := word_mod x _ wr HX.out (by omega)
      obtain ⟨xm, hxm⟩ : ∃ xm, x % 18446744073709551616 = xm := ⟨_, rfl⟩
      rw [hxm] at kW
      have hxm2 : (xm : Int) < 18446744073709551616 := by omega
      go_wp2_with fail
      refine kW.out.mono ?_
      rintro e w3 ⟨rfl, hc, g⟩
      have B3 : Hid (Below w.heap.size w w3) := BW.out.trans (g.mono BW.out.size)
      clear g kW
      go_wp2_with fail
      go_ret
      exact ⟨ret_int (by rw [hxx, hxm]), B3.out⟩

set_option maxRecDepth 100000 in
set_option maxHeartbeats 2000000 in
theorem root3_any (n : Nat) (hn : n < 1000) (w : World) : Calls Tryd.prog 13 #[.int .i64 (n : Int), .int .i64 3] w fun e w' => e = .returned (.int .u64 ((rtx n 3 70 % 18446744073709551616 : Nat) : Int)) ∧ Below w.heap.size w w' := by
  have kI : Hid (Calls Tryd.prog 23 #[.int .i64 (n : Int)] w fun e w' => ∃ v, e = .returned v ∧ Num w' v n ∧ Below w.heap.size w w') := int_any n (by omega) w
  obtain ⟨Q, hQ0⟩ : ∃ Q, n * 2 ^ (3 * 64) = Q := ⟨_, rfl⟩
  have hQ : Hid (n * 2 ^ (3 * 64) = Q) := hQ0
  clear hQ0
  have hQl : Q < 1645504557321206042154969182557350504982735865633579863348609024 := by rw [← hQ.out]; omega
  have hn' : (n : Int) < 1000 := by omega
  go_enter Tryd.func13, Tryd.ntmps13
  go_wp2_with fail
  refine kI.out.mono ?_
  rintro e w1 ⟨v1, rfl, hN1, hB1⟩
  have kS : Hid (Calls Tryd.prog 26 #[v1, .int .i64 192] w1 fun e w' => ∃ v, e = .returned v ∧ Num w' v Q ∧ Below w1.heap.size w1 w') := by
    rw [← hQ.out]; exact shift_num n v1 192 w1 hN1 1 (by omega) (by omega) (by omega)
  have B1 : Hid (Below w.heap.size w w1) := hB1
  obtain ⟨a1, c1, d1, rfl⟩ := hN1.shape
  clear hN1 hB1 kI
  go_wp2_with fail
  refine kS.out.mono ?_
  rintro e w2 ⟨v2, rfl, hN2, hB2⟩
  have B2 : Hid (Below w.heap.size w w2) := B1.out.trans (hB2.mono B1.out.size)
  have N2 : Hid (Num w2 v2 Q) := hN2
  obtain ⟨a2, c2, d2, rfl⟩ := hN2.shape
  clear hN2 hB2 kS B1
  go_wp2_with fail
  go_loopw [5, 7] (fun x y W => ∃ k : Nat, k ≤ 70 ∧ y = .int .i64 (69 - (k : Int)) ∧ Num W x (rtx n 3 k) ∧ Num W (.slice a2 c2 d2) Q ∧ Below w.heap.size w W) (fun _ y _ => (intOf y + 1).toNat)
  case atStart => exact ⟨0, by omega, rfl, ⟨[], Sl.nil _, by simp [Dg], by simp [Nz], rfl⟩, N2.out, B2.out⟩
  case round =>
    clear N2 B2
    obtain ⟨k, hk, rfl, hx, hq, hB⟩ := hrel
    have hlt0 := rtx_lt n 3 k hk
    have HX : Hid (Num wr u5 (rtx n 3 k)) := hx
    have HQ : Hid (Num wr (.slice a2 c2 d2) Q) := hq
    have BW : Hid (Below w.heap.size w wr) := hB
    obtain ⟨xa, xc, xd, rfl⟩ := hx.shape
    clear hx hq hB
    by_cases hlt : k < 70
    · obtain ⟨i, hi⟩ : ∃ i : Nat, 69 - (k : Int) = (i : Int) := ⟨69 - k, by omega⟩
      have hi' : 69 - k = i := by omega
      have hi2 : (i : Int) ≤ 69 := by omega
      rw [hi]
      have hst : Hid (rtx n 3 (k + 1) = if (rtx n 3 k + 2 ^ i) ^ 3 ≤ Q then rtx n 3 k + 2 ^ i else rtx n 3 k) := by unfold Hid; rw [rtx, hi', hQ.out]
      have hpp : 0 < 2 ^ i := Nat.two_pow_pos i
      have hyl : rtx n 3 k + 2 ^ i < 1180591620717411303424 := by
        have e : 2 ^ (70 - k) = 2 ^ i + 2 ^ i := by rw [show 70 - k = i + 1 by omega, Nat.pow_succ]; omega
        rw [e] at hlt0
        omega
      have hpl : 2 ^ i < 1180591620717411303424 := by omega
      have hxl : rtx n 3 k < 1180591620717411303424 := by omega
      clear hlt0 hpp
      have kP : Hid (∀ W, Calls Tryd.prog 28 #[.int .i64 (i : Int)] W fun e w' => ∃ v, e = .returned v ∧ Num w' v (2 ^ i) ∧ Below W.heap.size W w') := fun W => power_any i W (by omega)
      obtain ⟨p, hp⟩ : ∃ p, 2 ^ i = p := ⟨_, rfl⟩
      obtain ⟨x, hxx⟩ : ∃ x, Hid (rtx n 3 k = x) := ⟨_, rfl⟩
      rw [hp, hxx.out] at hyl hst
      rw [hp] at hpl kP
      rw [hxx.out] at HX hxl
      obtain ⟨y, hy⟩ : ∃ y, x + p = y := ⟨_, rfl⟩
      rw [hy] at hyl hst
      have e2 : y ^ 3 = y * y * y := by rw [Nat.pow_succ, Nat.pow_two]
      rw [e2] at hst
      have hsq := sq_lt hyl
      have hcu := cu_lt hyl
      clear hp e2
      go_wp2_with fail
      refine (kP.out _).mono ?_
      rintro e w3 ⟨v3, rfl, hN3, g⟩
      have B3 : Hid (Below w.heap.size w w3) := BW.out.trans (g.mono BW.out.size)
      have X3 : Hid (Num w3 (.slice xa xc xd) x) := HX.out.below g
      have Q3 : Hid (Num w3 (.slice a2 c2 d2) Q) := HQ.out.below g
      obtain ⟨pa, pc, pd, rfl⟩ := hN3.shape
      have kA : Hid (Calls Tryd.prog 27 #[.slice xa xc xd, .slice pa pc pd] w3 fun e w' => ∃ v, e = .returned v ∧ Num w' v y ∧ Below w3.heap.size w3 w') := by
        rw [← hy]; exact add_num x p _ _ w3 X3.out hN3 3 (by omega) (by omega) (by omega)
      clear hN3 g kP BW HX HQ
      go_wp2_with fail
      refine kA.out.mono ?_
      rintro e w4 ⟨v4, rfl, hN4, g⟩
      have B4 : Hid (Below w.heap.size w w4) := B3.out.trans (g.mono B3.out.size)
      have X4 : Hid (Num w4 (.slice xa xc xd) x) := X3.out.below g
      have Q4 : Hid (Num w4 (.slice a2 c2 d2) Q) := Q3.out.below g
      have Y4 : Hid (Num w4 v4 y) := hN4
      obtain ⟨ya, yc, yd, rfl⟩ := hN4.shape
      have kM : Hid (Calls Tryd.prog 29 #[.slice ya yc yd, .slice ya yc yd] w4 fun e w' => ∃ v, e = .returned v ∧ Num w' v (y * y) ∧ Below w4.heap.size w4 w') := ref_mul_num y y _ _ w4 hN4 hN4 3 (by omega) (by omega) (by omega)
      clear hN4 g kA B3 X3 Q3
      go_wp2_with fail
      refine kM.out.mono ?_
      rintro e w5 ⟨v5, rfl, hN5, g⟩
      have B5 : Hid (Below w.heap.size w w5) := B4.out.trans (g.mono B4.out.size)
      have X5 : Hid (Num w5 (.slice xa xc xd) x) := X4.out.below g
      have Q5 : Hid (Num w5 (.slice a2 c2 d2) Q) := Q4.out.below g
      have Y5 : Hid (Num w5 (.slice ya yc yd) y) := Y4.out.below g
      have Z5 : Hid (Num w5 v5 (y * y)) := hN5
      obtain ⟨za, zc, zd, rfl⟩ := hN5.shape
      clear hN5 g kM B4 X4 Q4 Y4
      have kM2 : Hid (Calls Tryd.prog 29 #[.slice za zc zd, .slice ya yc yd] w5 fun e w' => ∃ v, e = .returned v ∧ Num w' v (y * y * y) ∧ Below w5.heap.size w5 w') := ref_mul_num (y * y) y _ _ w5 Z5.out Y5.out 6 (by omega) (by omega) (by omega)
      go_wp2_with fail
      refine kM2.out.mono ?_
      rintro e w6 ⟨v6, rfl, hN6, g⟩
      have B6 : Hid (Below w.heap.size w w6) := B5.out.trans (g.mono B5.out.size)
      have X6 : Hid (Num w6 (.slice xa xc xd) x) := X5.out.below g
      have Q6 : Hid (Num w6 (.slice a2 c2 d2) Q) := Q5.out.below g
      have Y6 : Hid (Num w6 (.slice ya yc yd) y) := Y5.out.below g
      obtain ⟨qa, qc, qd, rfl⟩ := hN6.shape
      have Z6 : Hid (Num w6 (.slice qa qc qd) (y * y * y)) := hN6
      clear hN6 g kM2 B5 X5 Q5 Y5
      clear hsq
      have kC : Hid (Calls Tryd.prog 30 #[.slice qa qc qd, .slice a2 c2 d2] w6 fun e w' => e = .returned (.int .i64 (ord ((y * y * y : Nat) : Int) (Q : Int))) ∧ Below w6.heap.size w6 w') := cmp_num (y * y * y) Q _ _ w6 Z6.out Q6.out 9 (by omega) (by omega) (by omega)
      by_cases hle : y * y * y ≤ Q
      · have ho : Hid (ord ((y * y * y : Nat) : Int) (Q : Int) ≤ 0) := by unfold Hid ord; split <;> (try split) <;> omega
        obtain ⟨oo, hoo⟩ : ∃ o, ord ((y * y * y : Nat) : Int) (Q : Int) = o := ⟨_, rfl⟩
        rw [hoo] at ho kC
        have ho' := ho.out
        go_wp2_with fail
        refine kC.out.mono ?_
        rintro e w7 ⟨rfl, g⟩
        have B7 : Hid (Below w.heap.size w w7) := B6.out.trans (g.mono B6.out.size)
        have Q7 : Hid (Num w7 (.slice a2 c2 d2) Q) := Q6.out.below g
        have Y7 : Hid (Num w7 (.slice ya yc yd) y) := Y6.out.below g
        clear g kC hoo ho
        go_wp2_with fail
        go_roundw
        case rel => exact ⟨k + 1, by omega, by go_num, by rw [hst.out, if_pos hle]; exact Y7.out, Q7.out, B7.out⟩
        case measure => simp [intOf] <;> omega
      · have ho : Hid (¬ ord ((y * y * y : Nat) : Int) (Q : Int) ≤ 0) := by unfold Hid ord; split <;> (try split) <;> omega
        obtain ⟨oo, hoo⟩ : ∃ o, ord ((y * y * y : Nat) : Int) (Q : Int) = o := ⟨_, rfl⟩
        rw [hoo] at ho kC
        have ho' := ho.out
        go_wp2_with fail
        refine kC.out.mono ?_
        rintro e w7 ⟨rfl, g⟩
        have B7 : Hid (Below w.heap.size w w7) := B6.out.trans (g.mono B6.out.size)
        have Q7 : Hid (Num w7 (.slice a2 c2 d2) Q) := Q6.out.below g
        have X7 : Hid (Num w7 (.slice xa xc xd) x) := X6.out.below g
        clear g kC hoo ho
        go_wp2_with fail
        go_roundw
        case rel => exact ⟨k + 1, by omega, by go_num, by rw [hst.out, if_neg hle]; exact X7.out, Q7.out, B7.out⟩
        case measure => simp [intOf] <;> omega
    · obtain rfl : k = 70 := by omega
      have hxl : rtx n 3 70 < 1180591620717411303424 := by omega
      clear hlt0
      obtain ⟨x, hxx⟩ : ∃ x, rtx n 3 70 = x := ⟨_, rfl⟩
      rw [hxx] at HX hxl
      rw [show 69 - ((70 : Nat) : Int) = -1 from rfl]
      have kW : Hid (Calls Tryd.prog 31 #[.slice xa xc xd, .int .i64 1] wr fun e w' => e = .returned (.slice (some ⟨wr.heap.size, 0, none⟩) 1 1) ∧ w'.cell? ⟨wr.heap.size, 0, none⟩ = some (.int .u64 ((x % 18446744073709551616 : Nat) : Int)) ∧ Below wr.heap.size wr w') := word_mod x _ wr HX.out (by omega)
      obtain ⟨xm, hxm⟩ : ∃ xm, x % 18446744073709551616 = xm := ⟨_, rfl⟩
      rw [hxm] at kW
      have hxm2 : (xm : Int) < 18446744073709551616 := by omega
      go_wp2_with fail
      refine kW.out.mono ?_
      rintro e w3 ⟨rfl, hc, g⟩
      have B3 : Hid (Below w.heap.size w w3) := BW.out.trans (g.mono BW.out.size)
      clear g kW
      go_wp2_with fail
      go_ret
      exact ⟨ret_int (by rw [hxx, hxm]), B3.out⟩
end Go.Proofs.YthmpbblljbihgaaDoor.Br
