/-
  The contracts of the field's settle, settled, column.plus, rest, over and spread: for words they return the words or columns that the exact arithmetic says, and change no memory that was there. Conditions: as each theorem says.
-/
import Derived.Test.YtkbiiolkekpkiaaDoorExt
import Derived.Test.YtkbiiolkekpkiaaDoorBitz
import Derived.Test.YtkbiiolkekpkiaaDoorNT
namespace Go.Proofs.YtkbiiolkekpkiaaDoor
open Go.RowKit
set_option linter.unusedVariables false
attribute [local go_sem] ext_cell ext_frozen

theorem mask51 (x : Nat) (hx : x < 18446744073709551616) : bits .and .u64 (x : Int) 2251799813685247 = ((x % 2251799813685248 : Nat) : Int) := by
  have := bits_and_u64_nat x 2251799813685247 hx (by omega)
  rw [show (2251799813685247 : Nat) = 2 ^ 51 - 1 from rfl, Nat.and_two_pow_sub_one_eq_mod] at this
  exact this
/-- A word, cut at 51 bits. -/
theorem cut51 (x : Int) (h : Wd x) : ∃ r q : Int, bits .and .u64 x 2251799813685247 = r ∧ x / 2251799813685248 = q ∧ Hid (x = r + 2251799813685248 * q ∧ 0 ≤ r ∧ r < 2251799813685248 ∧ 0 ≤ q ∧ q < 8192) := by
  unfold Wd at h
  obtain ⟨n, rfl⟩ := Int.eq_ofNat_of_zero_le h.1
  refine ⟨_, _, mask51 n (by omega), rfl, ?_⟩
  unfold Hid
  omega
theorem wrapW (x : Int) (h0 : 0 ≤ x) (h1 : x < 18446744073709551616) : IntKind.u64.wrap x = x := by rw [IntKind.wrap_u64]; omega
/-- Limbs below 2^52. -/
def Tame (l0 l1 l2 l3 l4 : Int) : Prop := (0 ≤ l0 ∧ l0 < 4503599627370496) ∧ (0 ≤ l1 ∧ l1 < 4503599627370496) ∧ (0 ≤ l2 ∧ l2 < 4503599627370496) ∧ (0 ≤ l3 ∧ l3 < 4503599627370496) ∧ (0 ≤ l4 ∧ l4 < 4503599627370496)
/-- What five limbs stand for. -/
def val5 (l0 l1 l2 l3 l4 : Int) : Int := l0 + 2251799813685248 * l1 + 5070602400912917605986812821504 * l2 + 11417981541647679048466287755595961091061972992 * l3 + 25711008708143844408671393477458601640355247900524685364822016 * l4

set_option maxHeartbeats 1000000 in
theorem settle_step (l0 l1 l2 l3 l4 : Int) (h0 : Wd l0) (h1 : Wd l1) (h2 : Wd l2) (h3 : Wd l3) (h4 : Wd l4) : ∃ t0 t1 t2 t3 t4 : Int, Hid (Tame t0 t1 t2 t3 t4 ∧ t0 = l0 % 2251799813685248 + 19 * (l4 / 2251799813685248) ∧ t1 = l1 % 2251799813685248 + l0 / 2251799813685248 ∧ t2 = l2 % 2251799813685248 + l1 / 2251799813685248 ∧ t3 = l3 % 2251799813685248 + l2 / 2251799813685248 ∧ t4 = l4 % 2251799813685248 + l3 / 2251799813685248) ∧
    ∀ w : World, Calls Tryd.prog 77 #[.int .u64 l0, .int .u64 l1, .int .u64 l2, .int .u64 l3, .int .u64 l4] w fun e w' => e = .returned (.tuple #[.int .u64 t0, .int .u64 t1, .int .u64 t2, .int .u64 t3, .int .u64 t4]) ∧ w' = w := by
  obtain ⟨r0, q0, a0, b0, E0⟩ := cut51 l0 h0
  obtain ⟨r1, q1, a1, b1, E1⟩ := cut51 l1 h1
  obtain ⟨r2, q2, a2, b2, E2⟩ := cut51 l2 h2
  obtain ⟨r3, q3, a3, b3, E3⟩ := cut51 l3 h3
  obtain ⟨r4, q4, a4, b4, E4⟩ := cut51 l4 h4
  refine ⟨r0 + 19 * q4, r1 + q0, r2 + q1, r3 + q2, r4 + q3, ?_, ?_⟩
  · unfold Hid Tame; unfold Hid at E0 E1 E2 E3 E4
    clear a0 a1 a2 a3 a4 h0 h1 h2 h3 h4
    omega
  · intro w
    have c0 : IntKind.u64.wrap (19 * q4) = 19 * q4 := wrapW _ (by unfold Hid at E4; omega) (by unfold Hid at E4; omega)
    have d0 : IntKind.u64.wrap (r0 + 19 * q4) = r0 + 19 * q4 := wrapW _ (by unfold Hid at E0 E4; omega) (by unfold Hid at E0 E4; omega)
    have d1 : IntKind.u64.wrap (r1 + q0) = r1 + q0 := wrapW _ (by unfold Hid at E0 E1; omega) (by unfold Hid at E0 E1; omega)
    have d2 : IntKind.u64.wrap (r2 + q1) = r2 + q1 := wrapW _ (by unfold Hid at E2 E1; omega) (by unfold Hid at E2 E1; omega)
    have d3 : IntKind.u64.wrap (r3 + q2) = r3 + q2 := wrapW _ (by unfold Hid at E2 E3; omega) (by unfold Hid at E2 E3; omega)
    have d4 : IntKind.u64.wrap (r4 + q3) = r4 + q3 := wrapW _ (by unfold Hid at E4 E3; omega) (by unfold Hid at E4 E3; omega)
    clear E0 E1 E2 E3 E4 h0 h1 h2 h3 h4
    go_enter Tryd.func77, Tryd.ntmps77
    go_wp2_with fail
    refine bodyPost_ret (v := .tuple #[.int .u64 (r0 + 19 * q4), .int .u64 (r1 + q0), .int .u64 (r2 + q1), .int .u64 (r3 + q2), .int .u64 (r4 + q3)]) (by simp [results, Tryd.results77, go_sem]) rfl ⟨rfl, rfl⟩

set_option maxHeartbeats 1000000 in
theorem plus_step (h l a b : Int) (hh : Wd h) (hl : Wd l) (ha : Wd a) (hb : Wd b) (hlt : h * 18446744073709551616 + l + a * b < 18446744073709551616 * 18446744073709551616) : ∃ h' l' : Int, Wd h' ∧ Wd l' ∧ Hid (h' * 18446744073709551616 + l' = h * 18446744073709551616 + l + a * b) ∧
    ∀ w : World, Calls Tryd.prog 76 #[.agg #[.int .u64 h, .int .u64 l], .int .u64 a, .int .u64 b] w fun e w' => e = .returned (.agg #[.int .u64 h', .int .u64 l']) ∧ ∃ c1 c2 : Array Value, w' = (w.alloc (.cells c1 90)).alloc (.cells c2 90) := by
  obtain ⟨m, n, hn, hm, E, Q⟩ := mul_step a b ha hb
  obtain ⟨s, c, hs, hc, F, R⟩ := add_step n l 0 hn hl ⟨by omega, by omega⟩
  obtain ⟨t, d, ht, hd, G, S⟩ := add_step m h c ⟨by omega, by omega⟩ hh hc
  refine ⟨t, s, ht, hs, ?_, ?_⟩
  · unfold Hid at *
    rw [E] at hlt ⊢
    unfold Wd at *
    omega
  · intro w
    clear E F G hlt hh hl ha hb hn hm hs hc ht hd
    go_enter Tryd.func76, Tryd.ntmps76
    go_wp2_with (go_at_call 88; refine (Q _).mono ?_; rintro e w' ⟨rfl, rfl⟩)
    refine bodyPost_ret (v := .agg #[.int .u64 t, .int .u64 s]) (by simp [results, Tryd.results76, go_sem]) rfl ⟨rfl, ?_⟩
    exact ⟨_, _, rfl⟩

theorem rest_any (h l r : Int) (e : bits .and .u64 l 2251799813685247 = r) (w : World) :
    Calls Tryd.prog 90 #[.agg #[.int .u64 h, .int .u64 l]] w fun e w' => e = .returned (.int .u64 r) ∧ Below w.heap.size w w' := by
  go_enter Tryd.func90, Tryd.ntmps90
  go_wp2_with fail
  refine bodyPost_ret (v := .int .u64 r) (by simp [results, Tryd.results90, go_sem]) rfl ⟨rfl, ?_⟩
  repeat (first | exact Below.refl _ _ | refine Below.alloc ?_ (by simp <;> omega) _)
theorem over_any (h l q : Int) (e : bits .or .u64 (IntKind.u64.wrap (h * 8192)) (l / 2251799813685248) = q) (w : World) :
    Calls Tryd.prog 91 #[.agg #[.int .u64 h, .int .u64 l]] w fun e w' => e = .returned (.int .u64 q) ∧ Below w.heap.size w w' := by
  go_enter Tryd.func91, Tryd.ntmps91
  go_wp2_with fail
  refine bodyPost_ret (v := .int .u64 q) (by simp [results, Tryd.results91, go_sem]) rfl ⟨rfl, ?_⟩
  repeat (first | exact Below.refl _ _ | refine Below.alloc ?_ (by simp <;> omega) _)
theorem or_add51 (h l : Nat) (hh : h < 2251799813685248) (hl : l < 18446744073709551616) : bits .or .u64 (IntKind.u64.wrap ((h : Int) * 8192)) ((l : Int) / 2251799813685248) = ((h * 8192 + l / 2251799813685248 : Nat) : Int) := by
  have e1 : IntKind.u64.wrap ((h : Int) * 8192) = ((2 ^ 13 * h : Nat) : Int) := by rw [wrapW _ (by omega) (by omega)]; omega
  have e2 : (l : Int) / 2251799813685248 = ((l / 2251799813685248 : Nat) : Int) := by simp
  rw [e1, e2]
  have h2 : l / 2251799813685248 < 2 ^ 13 := by omega
  have := bits_or_u64_nat (2 ^ 13 * h) (l / 2251799813685248) (by omega) (by omega)
  rw [this, ← Nat.two_pow_add_eq_or_of_lt h2]
  congr 1
  omega
/-- A column, cut at 51 bits. -/
theorem col51 (h l : Int) (hh : Wd h) (hl : Wd l) (hlt : h < 2251799813685248) : ∃ r q : Int, bits .and .u64 l 2251799813685247 = r ∧ bits .or .u64 (IntKind.u64.wrap (h * 8192)) (l / 2251799813685248) = q ∧ Hid (h * 18446744073709551616 + l = r + 2251799813685248 * q ∧ 0 ≤ r ∧ r < 2251799813685248 ∧ 0 ≤ q ∧ q < 18446744073709551616) := by
  unfold Wd at hh hl
  obtain ⟨h, rfl⟩ := Int.eq_ofNat_of_zero_le hh.1
  obtain ⟨l, rfl⟩ := Int.eq_ofNat_of_zero_le hl.1
  refine ⟨_, _, mask51 l (by omega), or_add51 h l (by omega) (by omega), ?_⟩
  unfold Hid
  omega

set_option maxHeartbeats 4000000 in
theorem spread_step (h0 l0 h1 l1 h2 l2 h3 l3 h4 l4 : Int) (u0 : Wd h0) (v0 : Wd l0) (k0 : h0 < 140737488355328) (u1 : Wd h1) (v1 : Wd l1) (k1 : h1 < 140737488355328) (u2 : Wd h2) (v2 : Wd l2) (k2 : h2 < 140737488355328) (u3 : Wd h3) (v3 : Wd l3) (k3 : h3 < 140737488355328) (u4 : Wd h4) (v4 : Wd l4) (k4 : h4 < 70368744177664) : ∃ t0 t1 t2 t3 t4 : Int, Wd t0 ∧ Wd t1 ∧ Wd t2 ∧ Wd t3 ∧ Wd t4 ∧ Hid (t0 = (h0 * 18446744073709551616 + l0) % 2251799813685248 + 19 * ((h4 * 18446744073709551616 + l4) / 2251799813685248) ∧ t1 = (h1 * 18446744073709551616 + l1) % 2251799813685248 + (h0 * 18446744073709551616 + l0) / 2251799813685248 ∧ t2 = (h2 * 18446744073709551616 + l2) % 2251799813685248 + (h1 * 18446744073709551616 + l1) / 2251799813685248 ∧ t3 = (h3 * 18446744073709551616 + l3) % 2251799813685248 + (h2 * 18446744073709551616 + l2) / 2251799813685248 ∧ t4 = (h4 * 18446744073709551616 + l4) % 2251799813685248 + (h3 * 18446744073709551616 + l3) / 2251799813685248) ∧
    ∀ w : World, Calls Tryd.prog 78 #[.agg #[.int .u64 h0, .int .u64 l0], .agg #[.int .u64 h1, .int .u64 l1], .agg #[.int .u64 h2, .int .u64 l2], .agg #[.int .u64 h3, .int .u64 l3], .agg #[.int .u64 h4, .int .u64 l4]] w fun e w' => e = .returned (.tuple #[.int .u64 t0, .int .u64 t1, .int .u64 t2, .int .u64 t3, .int .u64 t4]) ∧ Below w.heap.size w w' := by
  obtain ⟨r0, q0, a0, b0, E0⟩ := col51 h0 l0 u0 v0 (by omega)
  obtain ⟨r1, q1, a1, b1, E1⟩ := col51 h1 l1 u1 v1 (by omega)
  obtain ⟨r2, q2, a2, b2, E2⟩ := col51 h2 l2 u2 v2 (by omega)
  obtain ⟨r3, q3, a3, b3, E3⟩ := col51 h3 l3 u3 v3 (by omega)
  obtain ⟨r4, q4, a4, b4, E4⟩ := col51 h4 l4 u4 v4 (by omega)
  have F : Hid ((0 ≤ q0 ∧ q0 < 1152921504606846976) ∧ (0 ≤ q1 ∧ q1 < 1152921504606846976) ∧ (0 ≤ q2 ∧ q2 < 1152921504606846976) ∧ (0 ≤ q3 ∧ q3 < 1152921504606846976) ∧ (0 ≤ q4 ∧ q4 < 576460752303423488)) := by
    unfold Hid at *; unfold Wd at *; clear a0 a1 a2 a3 a4 b0 b1 b2 b3 b4; omega
  refine ⟨r0 + 19 * q4, r1 + q0, r2 + q1, r3 + q2, r4 + q3, ?_, ?_, ?_, ?_, ?_, ?_, ?_⟩
  iterate 5 (· unfold Wd; unfold Hid at *; clear a0 a1 a2 a3 a4 b0 b1 b2 b3 b4; omega)
  · unfold Hid at *; clear a0 a1 a2 a3 a4 b0 b1 b2 b3 b4; omega
  · intro w
    have c0 : IntKind.u64.wrap (19 * q4) = 19 * q4 := wrapW _ (by unfold Hid at F; omega) (by unfold Hid at F; omega)
    have d0 : IntKind.u64.wrap (r0 + 19 * q4) = r0 + 19 * q4 := wrapW _ (by unfold Hid at E0 F; omega) (by unfold Hid at E0 F; omega)
    have d1 : IntKind.u64.wrap (r1 + q0) = r1 + q0 := wrapW _ (by unfold Hid at F E1; omega) (by unfold Hid at F E1; omega)
    have d2 : IntKind.u64.wrap (r2 + q1) = r2 + q1 := wrapW _ (by unfold Hid at E2 F; omega) (by unfold Hid at E2 F; omega)
    have d3 : IntKind.u64.wrap (r3 + q2) = r3 + q2 := wrapW _ (by unfold Hid at F E3; omega) (by unfold Hid at F E3; omega)
    have d4 : IntKind.u64.wrap (r4 + q3) = r4 + q3 := wrapW _ (by unfold Hid at E4 F; omega) (by unfold Hid at E4 F; omega)
    have R0 : Hid (∀ w, Calls Tryd.prog 90 #[.agg #[.int .u64 h0, .int .u64 l0]] w fun e w' => e = .returned (.int .u64 r0) ∧ Below w.heap.size w w') := fun w => rest_any h0 l0 r0 a0 w
    have O0 : Hid (∀ w, Calls Tryd.prog 91 #[.agg #[.int .u64 h0, .int .u64 l0]] w fun e w' => e = .returned (.int .u64 q0) ∧ Below w.heap.size w w') := fun w => over_any h0 l0 q0 b0 w
    have R1 : Hid (∀ w, Calls Tryd.prog 90 #[.agg #[.int .u64 h1, .int .u64 l1]] w fun e w' => e = .returned (.int .u64 r1) ∧ Below w.heap.size w w') := fun w => rest_any h1 l1 r1 a1 w
    have O1 : Hid (∀ w, Calls Tryd.prog 91 #[.agg #[.int .u64 h1, .int .u64 l1]] w fun e w' => e = .returned (.int .u64 q1) ∧ Below w.heap.size w w') := fun w => over_any h1 l1 q1 b1 w
    have R2 : Hid (∀ w, Calls Tryd.prog 90 #[.agg #[.int .u64 h2, .int .u64 l2]] w fun e w' => e = .returned (.int .u64 r2) ∧ Below w.heap.size w w') := fun w => rest_any h2 l2 r2 a2 w
    have O2 : Hid (∀ w, Calls Tryd.prog 91 #[.agg #[.int .u64 h2, .int .u64 l2]] w fun e w' => e = .returned (.int .u64 q2) ∧ Below w.heap.size w w') := fun w => over_any h2 l2 q2 b2 w
    have R3 : Hid (∀ w, Calls Tryd.prog 90 #[.agg #[.int .u64 h3, .int .u64 l3]] w fun e w' => e = .returned (.int .u64 r3) ∧ Below w.heap.size w w') := fun w => rest_any h3 l3 r3 a3 w
    have O3 : Hid (∀ w, Calls Tryd.prog 91 #[.agg #[.int .u64 h3, .int .u64 l3]] w fun e w' => e = .returned (.int .u64 q3) ∧ Below w.heap.size w w') := fun w => over_any h3 l3 q3 b3 w
    have R4 : Hid (∀ w, Calls Tryd.prog 90 #[.agg #[.int .u64 h4, .int .u64 l4]] w fun e w' => e = .returned (.int .u64 r4) ∧ Below w.heap.size w w') := fun w => rest_any h4 l4 r4 a4 w
    have O4 : Hid (∀ w, Calls Tryd.prog 91 #[.agg #[.int .u64 h4, .int .u64 l4]] w fun e w' => e = .returned (.int .u64 q4) ∧ Below w.heap.size w w') := fun w => over_any h4 l4 q4 b4 w
    clear E0 E1 E2 E3 E4 F u0 v0 k0 u1 v1 k1 u2 v2 k2 u3 v3 k3 u4 v4 k4 a0 a1 a2 a3 a4 b0 b1 b2 b3 b4
    go_enter Tryd.func78, Tryd.ntmps78
    go_wp2_with fail
    refine wp_region_ext (by kernel_rfl) (by kernel_rfl) ?_
    repeat (go_big_quiet_step ((first
      | with_reducible exact calls_ext (R0.out _)
      | with_reducible exact calls_ext (O0.out _)
      | with_reducible exact calls_ext (R1.out _)
      | with_reducible exact calls_ext (O1.out _)
      | with_reducible exact calls_ext (R2.out _)
      | with_reducible exact calls_ext (O2.out _)
      | with_reducible exact calls_ext (R3.out _)
      | with_reducible exact calls_ext (O3.out _)
      | with_reducible exact calls_ext (R4.out _)
      | with_reducible exact calls_ext (O4.out _))))
    refine wpQuiet_nil ?_
    intro W1 hw
    obtain ⟨n, rfl⟩ := hw
    have Hb := ext_below ((((((w.alloc (.cells #[.int .u64 h0, .int .u64 l0] 90)).alloc (.cells #[.int .u64 h1, .int .u64 l1] 90)).alloc (.cells #[.int .u64 h2, .int .u64 l2] 90)).alloc (.cells #[.int .u64 h3, .int .u64 l3] 90)).alloc (.cells #[.int .u64 h4, .int .u64 l4] 90))) n
    go_wp2_with fail
    refine bodyPost_ret (v := .tuple #[.int .u64 (r0 + 19 * q4), .int .u64 (r1 + q0), .int .u64 (r2 + q1), .int .u64 (r3 + q2), .int .u64 (r4 + q3)]) (by simp [results, Tryd.results78, go_sem]) rfl ?_
    refine ⟨rfl, Below.trans ?_ (Hb.mono (by simp <;> omega))⟩
    repeat (first | exact Below.refl _ _ | refine Below.alloc ?_ (by simp <;> omega) _)

set_option maxHeartbeats 1000000 in
theorem settled_step (l0 l1 l2 l3 l4 : Int) (h0 : Wd l0) (h1 : Wd l1) (h2 : Wd l2) (h3 : Wd l3) (h4 : Wd l4) : ∃ t0 t1 t2 t3 t4 : Int, Hid (Tame t0 t1 t2 t3 t4 ∧ t0 = l0 % 2251799813685248 + 19 * (l4 / 2251799813685248) ∧ t1 = l1 % 2251799813685248 + l0 / 2251799813685248 ∧ t2 = l2 % 2251799813685248 + l1 / 2251799813685248 ∧ t3 = l3 % 2251799813685248 + l2 / 2251799813685248 ∧ t4 = l4 % 2251799813685248 + l3 / 2251799813685248) ∧
    ∀ w : World, Calls Tryd.prog 80 #[.agg #[.int .u64 l0, .int .u64 l1, .int .u64 l2, .int .u64 l3, .int .u64 l4]] w fun e w' => e = .returned (.agg #[.int .u64 t0, .int .u64 t1, .int .u64 t2, .int .u64 t3, .int .u64 t4]) ∧ Below w.heap.size w w' := by
  obtain ⟨t0, t1, t2, t3, t4, E, Q⟩ := settle_step l0 l1 l2 l3 l4 h0 h1 h2 h3 h4
  refine ⟨t0, t1, t2, t3, t4, E, fun w => ?_⟩
  clear E h0 h1 h2 h3 h4
  go_enter Tryd.func80, Tryd.ntmps80
  go_wp2_with (go_at_call 77; refine (Q _).mono ?_; rintro e w' ⟨rfl, rfl⟩)
  refine bodyPost_ret (v := .agg #[.int .u64 t0, .int .u64 t1, .int .u64 t2, .int .u64 t3, .int .u64 t4]) (by simp [results, Tryd.results80, go_sem]) rfl ⟨rfl, ?_⟩
  repeat (first | exact Below.refl _ _ | refine Below.drew ?_ | refine Below.alloc ?_ (by simp <;> omega) _ | refine Below.setCell ?_ (by simp <;> omega) _)

end Go.Proofs.YtkbiiolkekpkiaaDoor
