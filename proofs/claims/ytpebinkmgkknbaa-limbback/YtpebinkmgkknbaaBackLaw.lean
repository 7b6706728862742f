/-
  The walk of the law LimbBack: for any two numbers of four words and any word it returns true and changes no memory that was there. Conditions: none beyond that the words are words.
-/
import Derived.Test.YtpebinkmgkknbaaAwake
import Derived.Test.YtpebinkmgkknbaaLimbCmp
import Derived.Test.YtpebinkmgkknbaaLimbShift
import Derived.Test.YtpebinkmgkknbaaLimbOf
import Derived.Test.YtpebinkmgkknbaaLimbMul
import Derived.Test.YtpebinkmgkknbaaBackV
namespace Go.Proofs.Ytpebinkmgkknbaa
open Go.RowKit
set_option linter.unusedVariables false
attribute [local go_sem] ext_cell ext_frozen

theorem ord_swap (x y : Int) : ord x y = -ord y x := by
  rcases Int.lt_trichotomy x y with h | h | h
  · rw [ord_lt h, ord_gt h]
  · rw [ord_eq h, ord_eq h.symm]; rfl
  · rw [ord_gt h, ord_lt h]; rfl

set_option maxHeartbeats 4000000 in
theorem back_walk (x y u : Nat) (hx : x < M4) (hy : y < M4) (hu : u < 18446744073709551616) (mul_any : ∀ (x y : Nat), x < M4 → y < M4 → ∀ w, Calls Try.prog 19 #[four x, four y] w fun e w' => e = .returned (eight (x * y)) ∧ Below w.heap.size w w') (w : World) :
    Calls Try.prog 7 #[four x, four y, .int .u64 (u : Int)] w fun e w' => e = .returned (.bool true) ∧ Below w.heap.size w w' := by
  obtain ⟨a0, a1, a2, a3, -, -, -, -, ea, -⟩ := four_open x hx
  obtain ⟨y0, y1, y2, y3, -, -, -, -, eb, -⟩ := four_open y hy
  obtain ⟨s0, s1, s2, s3, -, -, -, -, es, -⟩ := four_open ((x + y) % M4) (mod_M4 _)
  obtain ⟨c, hc⟩ : ∃ c : Int, (((x + y) / M4 : Nat) : Int) = c := ⟨_, rfl⟩
  have hAdd := fun w => add_any x y hx hy w
  rw [ea, eb, es, hc] at hAdd
  have hSub := fun w => sub_any ((x + y) % M4) y (mod_M4 _) hy w
  rw [(back_sub x y hx hy).1, (back_sub x y hx hy).2, ea, eb, es, hc] at hSub
  have hByt := fun w => bytes_any x true hx w
  rw [ea] at hByt
  have hAdd' : Hid _ := hAdd
  have hSub' : Hid _ := hSub
  have hByt' : Hid _ := hByt
  have hOf : Hid (∀ B W, B < W.heap.size → Filled true x B 32 W → Calls Try.prog 32 #[.slice (some ⟨B, 0, none⟩) 32 32, .bool true] W fun e w' => e = .returned (.tuple #[.agg #[.int .u64 a0, .int .u64 a1, .int .u64 a2, .int .u64 a3], .int .i64 0]) ∧ Below W.heap.size W w') := by
    intro B W hB hF
    have h := of_any (fun p => byteAt x (pl true p)) true B 0 32 (fun j => byteAt_rng _ _) W hB (fun j hj => by
      have h := hF.cell (pl true j) (pl_lt true j hj)
      rw [pl_pl true j hj, if_pos (pl_lt true j hj)] at h
      rw [Nat.zero_add]; exact h)
    rw [back_bytes x hx _ (fun j hj => by rw [pl_pl true j hj]), ea] at h
    exact h
  clear hAdd hSub hByt
  rw [ea, eb]
  go_enter Try.func7, Try.ntmps7
  go_wp2_with fail
  refine (awake_any _).mono ?_
  rintro e w1 ⟨rfl, b1⟩
  obtain ⟨p1, q1⟩ := bcell b1
  have z1 := b1.size
  try simp at z1
  have f1_0 : w.heap.size < w1.heap.size := by omega
  have l1_0 : w.heap.size ≤ w1.heap.size := by omega
  have f1_1 : w.heap.size + 1 < w1.heap.size := by omega
  have l1_1 : w.heap.size + 1 ≤ w1.heap.size := by omega
  go_wp2_with fail
  refine (hAdd'.out _).mono ?_
  rintro e w2 ⟨rfl, b2⟩
  obtain ⟨p2, q2⟩ := bcell b2
  have z2 := b2.size
  try simp at z2
  have f2_0 : w.heap.size < w2.heap.size := by omega
  have l2_0 : w.heap.size ≤ w2.heap.size := by omega
  have f2_1 : w.heap.size + 1 < w2.heap.size := by omega
  have l2_1 : w.heap.size + 1 ≤ w2.heap.size := by omega
  go_wp2_with fail
  refine (hSub'.out _).mono ?_
  rintro e w3 ⟨rfl, b3⟩
  obtain ⟨p3, q3⟩ := bcell b3
  have z3 := b3.size
  try simp at z3
  have f3_0 : w.heap.size < w3.heap.size := by omega
  have l3_0 : w.heap.size ≤ w3.heap.size := by omega
  have f3_1 : w.heap.size + 1 < w3.heap.size := by omega
  have l3_1 : w.heap.size + 1 ≤ w3.heap.size := by omega
  have f3_2 : w2.heap.size < w3.heap.size := by omega
  have l3_2 : w2.heap.size ≤ w3.heap.size := by omega
  go_wp2_with fail
  refine (hByt'.out _).mono ?_
  rintro e w4 ⟨rfl, hF4, b4⟩
  obtain ⟨p4, q4⟩ := bcell b4
  have z4 := b4.size
  try simp at z4
  have f4_0 : w.heap.size < w4.heap.size := by omega
  have l4_0 : w.heap.size ≤ w4.heap.size := by omega
  have f4_1 : w.heap.size + 1 < w4.heap.size := by omega
  have l4_1 : w.heap.size + 1 ≤ w4.heap.size := by omega
  have f4_2 : w2.heap.size < w4.heap.size := by omega
  have l4_2 : w2.heap.size ≤ w4.heap.size := by omega
  have f4_3 : w3.heap.size < w4.heap.size := by omega
  have l4_3 : w3.heap.size ≤ w4.heap.size := by omega
  go_wp2_with fail
  have hF4' : Filled true x (w3.heap.size + 1 + 1) 32 w4 := by simpa using hF4
  refine (hOf.out _ _ hF4'.size hF4').mono ?_
  clear hF4' hF4
  rintro e w5 ⟨rfl, b5⟩
  obtain ⟨p5, q5⟩ := bcell b5
  have z5 := b5.size
  try simp at z5
  have f5_0 : w.heap.size < w5.heap.size := by omega
  have l5_0 : w.heap.size ≤ w5.heap.size := by omega
  have f5_1 : w.heap.size + 1 < w5.heap.size := by omega
  have l5_1 : w.heap.size + 1 ≤ w5.heap.size := by omega
  have f5_2 : w2.heap.size < w5.heap.size := by omega
  have l5_2 : w2.heap.size ≤ w5.heap.size := by omega
  have f5_3 : w3.heap.size < w5.heap.size := by omega
  have l5_3 : w3.heap.size ≤ w5.heap.size := by omega
  go_wp2_with fail
  have y1b := b1.mono (show w.heap.size ≤ _ by first | omega | (simp; omega) | simp)
  have y2b := b2.mono (show w.heap.size ≤ _ by first | omega | (simp; omega) | simp)
  have y3b := b3.mono (show w.heap.size ≤ _ by first | omega | (simp; omega) | simp)
  have y4b := b4.mono (show w.heap.size ≤ _ by first | omega | (simp; omega) | simp)
  have y5b := b5.mono (show w.heap.size ≤ _ by first | omega | (simp; omega) | simp)
  refine wp_cut (fun W => Box W w.heap.size a0 a1 a2 a3 ∧ Box W (w.heap.size + 1) y0 y1 y2 y3 ∧ Box W w2.heap.size s0 s1 s2 s3 ∧ Box W w3.heap.size a0 a1 a2 a3 ∧ Box W w5.heap.size a0 a1 a2 a3 ∧ Below w.heap.size w W) ?_ ?_
  · have t2 := b3; have t3 := b4
    have A1 := (((((((Box.new w a0 a1 a2 a3 24).alloc (.cells #[.int .u64 y0, .int .u64 y1, .int .u64 y2, .int .u64 y3] 24)).below b1).below b2).alloc _).below b3).alloc _).below b4 |>.below b5
    have B1 := (((((((Box.new (w.alloc (.cells #[.int .u64 a0, .int .u64 a1, .int .u64 a2, .int .u64 a3] 24)) y0 y1 y2 y3 24)).below b1).below b2).alloc _).below b3).alloc _).below b4 |>.below b5
    have S1 := (((Box.new w2 s0 s1 s2 s3 24).below b3).alloc _).below b4 |>.below b5
    have D1 := ((Box.new w3 a0 a1 a2 a3 24).below b4).below b5
    refine ⟨A1.alloc _, by simpa using B1.alloc _, S1.alloc _, D1.alloc _, Box.new w5 _ _ _ _ _, ?_⟩
    refine Below.alloc ?_ (by omega) _
    refine Below.trans ?_ y5b
    refine Below.trans ?_ y4b
    refine Below.alloc ?_ (by omega) _
    refine Below.trans ?_ y3b
    refine Below.alloc ?_ (by omega) _
    refine Below.trans ?_ y2b
    refine Below.trans ?_ y1b
    exact Below.alloc (Below.alloc (Below.refl _ _) (Nat.le_refl _) _) (by simp) _
  clear y1b y2b y3b y4b y5b f1_0 l1_0 f1_1 l1_1 f2_0 l2_0 f2_1 l2_1 f3_0 l3_0 f3_1 l3_1 f3_2 l3_2 f4_0 l4_0 f4_1 l4_1 f4_2 l4_2 f4_3 l4_3 f5_0 l5_0 f5_1 l5_1 f5_2 l5_2 f5_3 l5_3 p1 q1 z1 b1 p2 q2 z2 b2 p3 q3 z3 b3 p4 q4 z4 b4 p5 q5 z5 b5
  intro W ⟨⟨la, ca0, ca1, ca2, ca3⟩, ⟨lb, cb0, cb1, cb2, cb3⟩, ⟨ls, cs0, cs1, cs2, cs3⟩, ⟨ld, cd0, cd1, cd2, cd3⟩, ⟨lr, cr0, cr1, cr2, cr3⟩, hbel⟩
  have Hbel : Hid _ := hbel
  clear hbel
  obtain ⟨o, ho⟩ : ∃ o : Int, ord x y = o := ⟨_, rfl⟩
  have hob : -1 ≤ o ∧ o ≤ 1 := by rw [← ho]; unfold ord; split <;> (try split) <;> omega
  have hC1 := fun w => cmp_any x y hx hy w
  have hC2 := fun w => cmp_any y x hy hx w
  have hM1 := fun w => mul_any x y hx hy w
  have hM2 := fun w => mul_any y x hy hx w
  rw [ord_swap y x] at hC2
  rw [ho, ea, eb] at hC1 hC2
  rw [Nat.mul_comm y x] at hM2
  obtain ⟨e0, e1, e2, e3, e4, e5, e6, e7, e8⟩ : ∃ e0 e1 e2 e3 e4 e5 e6 e7 : Int, eight (x * y) = .agg #[.int .u64 e0, .int .u64 e1, .int .u64 e2, .int .u64 e3, .int .u64 e4, .int .u64 e5, .int .u64 e6, .int .u64 e7] := ⟨_, _, _, _, _, _, _, _, rfl⟩
  rw [ea, eb, e8] at hM1 hM2
  clear e8
  have hC1' : Hid _ := hC1
  have hC2' : Hid _ := hC2
  have hM1' : Hid _ := hM1
  have hM2' : Hid _ := hM2
  clear hC1 hC2 hM1 hM2 ho
  have n4 := neq4
  have n8 := neq8
  have m1 : IntKind.i64.wrap (- -o) = o := by rw [Int.neg_neg]; exact wrapI _ (by omega) (by omega)
  have m2 : IntKind.i64.wrap o = o := wrapI _ (by omega) (by omega)
  refine wp_region_ext (by kernel_rfl) (by kernel_rfl) ?_
  repeat (go_big_quiet_step ((first
    | with_reducible exact calls_ext (hC1'.out _)
    | with_reducible exact calls_ext (hC2'.out _)
    | with_reducible exact calls_ext (hM1'.out _)
    | with_reducible exact calls_ext (hM2'.out _))))
  refine wpQuiet_nil ?_
  intro W1' hw'
  obtain ⟨nq, hw''⟩ := hw'
  subst hw''
  have Hb1 := ext_below W nq
  have boxa : Box (ext W nq) w.heap.size a0 a1 a2 a3 := Box.below ⟨la, ca0, ca1, ca2, ca3⟩ Hb1
  have boxb : Box (ext W nq) (w.heap.size + 1) y0 y1 y2 y3 := Box.below ⟨lb, cb0, cb1, cb2, cb3⟩ Hb1
  have boxs : Box (ext W nq) w2.heap.size s0 s1 s2 s3 := Box.below ⟨ls, cs0, cs1, cs2, cs3⟩ Hb1
  have HB : Hid (Below w.heap.size w (ext W nq)) := Hbel.out.trans (Hb1.mono (by omega))
  have boxa' : Hid _ := boxa
  have boxb' : Hid _ := boxb
  have boxs' : Hid _ := boxs
  clear boxa boxb boxs Hb1 hC1' hC2' hM1' hM2' m1 m2 hob n8
  obtain ⟨n, hn⟩ : ∃ n : Nat, (u : Int) % 256 = (n : Int) := ⟨u % 256, by omega⟩
  have hn0 : (0 : Int) ≤ n := by omega
  have hn1 : (n : Int) ≤ 255 := by omega
  go_wp2_with fail
  refine wp_cut (fun V => Box V w.heap.size a0 a1 a2 a3 ∧ Box V (w.heap.size + 1) y0 y1 y2 y3 ∧ Box V w2.heap.size s0 s1 s2 s3 ∧ Below w.heap.size w V) ⟨boxa'.out, boxb'.out, boxs'.out, HB.out⟩ ?_
  clear la ca0 ca1 ca2 ca3 lb cb0 cb1 cb2 cb3 ls cs0 cs1 cs2 cs3 ld cd0 cd1 cd2 cd3 lr cr0 cr1 cr2 cr3 HB boxa' boxb' boxs' Hbel
  intro V ⟨⟨la, ca0, ca1, ca2, ca3⟩, ⟨lb, cb0, cb1, cb2, cb3⟩, ⟨ls, cs0, cs1, cs2, cs3⟩, hbel⟩
  have Hbel : Hid _ := hbel
  clear hbel
  obtain ⟨l0, l1, l2, l3, -, -, -, -, el, -⟩ := four_open (x * 2 ^ n % M4) (mod_M4 _)
  obtain ⟨r0, r1, r2, r3, -, -, -, -, er, -⟩ := four_open (x * 2 ^ n % M4 / 2 ^ n) (div_lt_M4 _ _ (mod_M4 _))
  obtain ⟨k0, k1, k2, k3, -, -, -, -, ek, -⟩ := four_open (x * 2 ^ n % M4 / 2 ^ n * 2 ^ n % M4) (mod_M4 _)
  obtain ⟨t0, t1, t2, t3, -, -, -, -, et, -⟩ := four_open (x / 2 ^ n) (div_lt_M4 _ _ hx)
  have hL1 := fun w => left_any x n hx (by omega) w
  have hR1 := fun w => right_any (x * 2 ^ n % M4) n (mod_M4 _) (by omega) w
  have hL2 := fun w => left_any (x * 2 ^ n % M4 / 2 ^ n) n (div_lt_M4 _ _ (mod_M4 _)) (by omega) w
  have hR2 := fun w => right_any (x * 2 ^ n % M4 / 2 ^ n * 2 ^ n % M4) n (mod_M4 _) (by omega) w
  have hR3 := fun w => right_any x n hx (by omega) w
  have hB1 := fun w => bits_any (x / 2 ^ n) (div_lt_M4 _ _ hx) w
  have hB2 := fun w => bits_any x hx w
  rw [right_val _ n (mod_M4 _), el, er] at hR1
  rw [ea, el] at hL1
  rw [er, ek] at hL2
  rw [right_val _ n (mod_M4 _), back_shift _ n (mod_M4 _), ek, er] at hR2
  rw [right_val _ n hx, ea, et] at hR3
  rw [et] at hB1
  rw [ea] at hB2
  have pb := nbits_le x 256 hx
  have pd := nbits_down x n
  rw [pd] at hB1
  generalize nbits x = p at *
  have hL1' : Hid _ := hL1
  have hL2' : Hid _ := hL2
  have hR1' : Hid _ := hR1
  have hR2' : Hid _ := hR2
  have hR3' : Hid _ := hR3
  have hB2' : Hid _ := hB2
  obtain ⟨X0, X1, X2, X3, -, -, -, -, eX, -⟩ := four_open (x * u % M4) (mod_M4 _)
  obtain ⟨Y0, Y1, Y2, Y3, -, -, -, -, eY, -⟩ := four_open (y * u % M4) (mod_M4 _)
  obtain ⟨Z0, Z1, Z2, Z3, -, -, -, -, eZ, -⟩ := four_open ((x + y) % M4 * u % M4) (mod_M4 _)
  have hU1 := fun w => mulWord_any x u hx hu w
  have hU2 := fun w => mulWord_any y u hy hu w
  have hU3 := fun w => mulWord_any ((x + y) % M4) u (mod_M4 _) hu w
  have hT := fun w => add_any (x * u % M4) (y * u % M4) (mod_M4 _) (mod_M4 _) w
  rw [ea, eX] at hU1
  rw [eb, eY] at hU2
  rw [es, eZ] at hU3
  rw [back_mul, eX, eY, eZ] at hT
  have hU1' : Hid _ := hU1
  have hU2' : Hid _ := hU2
  have hU3' : Hid _ := hU3
  have hT' : Hid _ := hT
  clear hL1 hL2 hR1 hR2 hR3 hB2 el er ek et pd hU1 hU2 hU3 hT eX eY eZ ea eb es
  have m1 : IntKind.i64.wrap ((p : Int) - (n : Int)) = (p : Int) - (n : Int) := wrapI _ (by omega) (by omega)
  obtain ⟨d, hd, hB1'⟩ : ∃ d : Int, ((p : Int) < n ∧ d = 0 ∨ (n : Int) ≤ p ∧ d = (p : Int) - n) ∧ Hid (∀ w, Calls Try.prog 29 #[.agg #[.int .u64 t0, .int .u64 t1, .int .u64 t2, .int .u64 t3]] w fun e w' => e = .returned (.int .i64 d) ∧ Below w.heap.size w w') := ⟨_, by omega, hB1⟩
  clear hB1
  have e4 := eql4
  rcases hd with ⟨hd, rfl⟩ | ⟨hd, rfl⟩
  all_goals
    refine wp_region_ext (by kernel_rfl) (by kernel_rfl) ?_
    repeat (go_big_quiet_step ((first
      | with_reducible exact calls_ext (hL1'.out _)
      | with_reducible exact calls_ext (hL2'.out _)
      | with_reducible exact calls_ext (hR1'.out _)
      | with_reducible exact calls_ext (hR2'.out _)
      | with_reducible exact calls_ext (hR3'.out _)
      | with_reducible exact calls_ext (hB1'.out _)
      | with_reducible exact calls_ext (hB2'.out _))))
    refine wpQuiet_nil ?_
    intro V1' hw'
    obtain ⟨nq', hw''⟩ := hw'
    subst hw''
    have Hb1 := ext_below V nq'
    have boxa : Box (ext V nq') w.heap.size a0 a1 a2 a3 := Box.below ⟨la, ca0, ca1, ca2, ca3⟩ Hb1
    have boxb : Box (ext V nq') (w.heap.size + 1) y0 y1 y2 y3 := Box.below ⟨lb, cb0, cb1, cb2, cb3⟩ Hb1
    have boxs : Box (ext V nq') w2.heap.size s0 s1 s2 s3 := Box.below ⟨ls, cs0, cs1, cs2, cs3⟩ Hb1
    have HB : Hid (Below w.heap.size w (ext V nq')) := Hbel.out.trans (Hb1.mono (by omega))
    generalize ext V nq' = U at *
    clear la ca0 ca1 ca2 ca3 lb cb0 cb1 cb2 cb3 ls cs0 cs1 cs2 cs3 Hbel Hb1 hL1' hL2' hR1' hR2' hR3' hB1' hB2' m1
    obtain ⟨la, ca0, ca1, ca2, ca3⟩ := boxa
    obtain ⟨lb, cb0, cb1, cb2, cb3⟩ := boxb
    obtain ⟨ls, cs0, cs1, cs2, cs3⟩ := boxs
    go_wp2_with fail
    with_reducible refine (hU1'.out _).mono ?_
    rintro e u1 ⟨rfl, b1⟩
    obtain ⟨p1, q1⟩ := bcell b1
    have z1 := b1.size
    have f1_0 : w.heap.size < u1.heap.size := by omega
    have f1_1 : w.heap.size + 1 < u1.heap.size := by omega
    have f1_2 : w2.heap.size < u1.heap.size := by omega
    have l1_0 : w.heap.size ≤ u1.heap.size := by omega
    have l1_2 : w2.heap.size ≤ u1.heap.size := by omega
    go_wp2_with fail
    with_reducible refine (hU2'.out _).mono ?_
    rintro e u2 ⟨rfl, b2⟩
    obtain ⟨p2, q2⟩ := bcell b2
    have z2 := b2.size
    try simp at z2
    have f2_2 : w2.heap.size < u2.heap.size := by omega
    have f2_3 : u1.heap.size < u2.heap.size := by omega
    have l2_2 : w2.heap.size ≤ u2.heap.size := by omega
    have l2_3 : u1.heap.size ≤ u2.heap.size := by omega
    go_wp2_with fail
    with_reducible refine (hU3'.out _).mono ?_
    rintro e u3 ⟨rfl, b3⟩
    obtain ⟨p3, q3⟩ := bcell b3
    have z3 := b3.size
    try simp at z3
    have f3_3 : u1.heap.size < u3.heap.size := by omega
    have f3_4 : u2.heap.size < u3.heap.size := by omega
    have l3_3 : u1.heap.size ≤ u3.heap.size := by omega
    have l3_4 : u2.heap.size ≤ u3.heap.size := by omega
    go_wp2_with fail
    with_reducible refine (hT'.out _).mono ?_
    rintro e u4 ⟨rfl, b4⟩
    obtain ⟨p4, q4⟩ := bcell b4
    have z4 := b4.size
    try simp at z4
    have f4_4 : u3.heap.size < u4.heap.size := by omega
    have l4_4 : u3.heap.size ≤ u4.heap.size := by omega
    go_wp2_with fail
    go_ret
    refine ⟨rfl, ?_⟩
    refine Below.alloc ?_ (by omega) _
    refine Below.trans ?_ (b4.mono (by first | omega | (simp; omega)))
    refine Below.alloc ?_ (by omega) _
    refine Below.trans ?_ (b3.mono (by first | omega | (simp; omega)))
    refine Below.alloc ?_ (by omega) _
    refine Below.trans ?_ (b2.mono (by first | omega | (simp; omega)))
    refine Below.alloc ?_ (by omega) _
    exact HB.out.trans (b1.mono (by omega))

end Go.Proofs.Ytpebinkmgkknbaa
