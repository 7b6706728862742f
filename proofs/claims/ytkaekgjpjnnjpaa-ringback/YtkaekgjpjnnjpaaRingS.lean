/-
  The statements' own awake and odd. Conditions: as each theorem says.
-/
import Derived.Test.YtkaekgjpjnnjpaaRingJ
import Derived.Test.YtkaekgjpjnnjpaaRingK
import Derived.Test.YtkaekgjpjnnjpaaRingP
namespace Go.Proofs.Ytkaekgjpjnnjpaa
open Go.RowKit
set_option linter.unusedVariables false

theorem awake_val : red 7 (red 7 ((3 * M4 % 7) * (5 * M4 % 7))) = 1 := by unfold red ri M4; decide
theorem four_small (k : Nat) (hk : k < 18446744073709551616) : four k = .agg #[.int .u64 (k : Int), .int .u64 0, .int .u64 0, .int .u64 0] := by
  unfold four
  have e0 : k % 18446744073709551616 = k := by omega
  have e1 : k / 18446744073709551616 % 18446744073709551616 = 0 := by omega
  have e2 : k / 340282366920938463463374607431768211456 % 18446744073709551616 = 0 := by omega
  have e3 : k / 6277101735386680763835789423207666416102355444464034512896 % 18446744073709551616 = 0 := by omega
  rw [e0, e1, e2, e3]
  rfl
theorem small_lt (k : Nat) (hk : k < 18446744073709551616) : k < M4 := by unfold M4; omega

set_option maxHeartbeats 1000000 in
theorem awake3_any (w : World) : Calls Try.prog 7 #[] w fun e w' => e = .returned (.bool true) ∧ Below w.heap.size w w' := by
  have s7 := small_lt 7 (by omega)
  have s3 := small_lt 3 (by omega)
  have s5 := small_lt 5 (by omega)
  have hx : 3 * M4 % 7 < M4 := small_lt _ (by omega)
  have hy : 5 * M4 % 7 < M4 := small_lt _ (by omega)
  have hq : red 7 ((3 * M4 % 7) * (5 * M4 % 7)) < M4 := small_lt _ (by have := red_lt 7 ((3 * M4 % 7) * (5 * M4 % 7)) (by omega); omega)
  obtain ⟨x0, x1, x2, x3, -, -, -, -, ex, -⟩ := four_open _ hx
  obtain ⟨y0, y1, y2, y3, -, -, -, -, ey, -⟩ := four_open _ hy
  obtain ⟨q0, q1, q2, q3, -, -, -, -, eq, -⟩ := four_open _ hq
  have CN : Hid (Calls Try.prog 8 #[.agg #[.int .u64 7, .int .u64 0, .int .u64 0, .int .u64 0]] w fun e w' => e = .returned (.tuple #[.pointer (some ⟨w.heap.size + 1, 0, none⟩), .int .i64 0]) ∧ Rg w' (w.heap.size + 1) 7 ∧ Below w.heap.size w w') := by
    have := new_any w 7 s7 (by omega) (by omega); rwa [four_small 7 (by omega)] at this
  have C3 : Hid (∀ V, Rg V (w.heap.size + 1) 7 → Calls Try.prog 18 #[.pointer (some ⟨w.heap.size + 1, 0, none⟩), .agg #[.int .u64 3, .int .u64 0, .int .u64 0, .int .u64 0]] V fun e w' => e = .returned (.agg #[.int .u64 x0, .int .u64 x1, .int .u64 x2, .int .u64 x3]) ∧ Below V.heap.size V w') := by
    intro V h; have := in_ring V _ 7 3 h s3; rwa [four_small 3 (by omega), ex] at this
  have C5 : Hid (∀ V, Rg V (w.heap.size + 1) 7 → Calls Try.prog 18 #[.pointer (some ⟨w.heap.size + 1, 0, none⟩), .agg #[.int .u64 5, .int .u64 0, .int .u64 0, .int .u64 0]] V fun e w' => e = .returned (.agg #[.int .u64 y0, .int .u64 y1, .int .u64 y2, .int .u64 y3]) ∧ Below V.heap.size V w') := by
    intro V h; have := in_ring V _ 7 5 h s5; rwa [four_small 5 (by omega), ey] at this
  have CT : Hid (∀ V, Rg V (w.heap.size + 1) 7 → Calls Try.prog 25 #[.pointer (some ⟨w.heap.size + 1, 0, none⟩), .agg #[.int .u64 x0, .int .u64 x1, .int .u64 x2, .int .u64 x3], .agg #[.int .u64 y0, .int .u64 y1, .int .u64 y2, .int .u64 y3]] V fun e w' => e = .returned (.agg #[.int .u64 q0, .int .u64 q1, .int .u64 q2, .int .u64 q3]) ∧ Below V.heap.size V w') := by
    intro V h; have := times_ring V _ 7 _ _ h hx hy; rwa [ex, ey, eq] at this
  have CO : Hid (∀ V, Rg V (w.heap.size + 1) 7 → Calls Try.prog 20 #[.pointer (some ⟨w.heap.size + 1, 0, none⟩), .agg #[.int .u64 q0, .int .u64 q1, .int .u64 q2, .int .u64 q3]] V fun e w' => e = .returned (.agg #[.int .u64 1, .int .u64 0, .int .u64 0, .int .u64 0]) ∧ Below V.heap.size V w') := by
    intro V h; have := out_ring V _ 7 _ h hq; rwa [awake_val, eq, four_one] at this
  clear ex ey eq hx hy hq s7 s3 s5
  have e4 := eql4
  go_enter Try.func7, Try.ntmps7
  go_wp2_with fail
  refine CN.out.mono ?_
  rintro e w1 ⟨rfl, r1, g1⟩
  have R1 : Hid (Rg w1 (w.heap.size + 1) 7) := r1
  have B1 : Hid (Below w.heap.size w w1) := g1
  clear r1 g1
  go_wp2_with fail
  refine (C3.out _ R1.out).mono ?_
  rintro e w2 ⟨rfl, g2⟩
  have R2 : Hid (Rg w2 (w.heap.size + 1) 7) := R1.out.below g2
  have B2 : Hid (Below w.heap.size w w2) := B1.out.trans (g2.mono B1.out.size)
  clear g2 R1 B1
  go_wp2_with fail
  refine (C5.out _ R2.out).mono ?_
  rintro e w3 ⟨rfl, g3⟩
  have R3 : Hid (Rg w3 (w.heap.size + 1) 7) := R2.out.below g3
  have B3 : Hid (Below w.heap.size w w3) := B2.out.trans (g3.mono B2.out.size)
  clear g3 R2 B2
  go_wp2_with fail
  refine (CT.out _ R3.out).mono ?_
  rintro e w4 ⟨rfl, g4⟩
  have R4 : Hid (Rg w4 (w.heap.size + 1) 7) := R3.out.below g4
  have B4 : Hid (Below w.heap.size w w4) := B3.out.trans (g4.mono B3.out.size)
  clear g4 R3 B3
  go_wp2_with fail
  refine (CO.out _ R4.out).mono ?_
  rintro e w5 ⟨rfl, g5⟩
  have R5 : Hid (Rg w5 (w.heap.size + 1) 7) := R4.out.below g5
  have B5 : Hid (Below w.heap.size w w5) := B4.out.trans (g5.mono B4.out.size)
  clear g5 R4 B4
  go_wp2_with fail
  go_ret
  exact ⟨rfl, B5.out⟩

set_option maxHeartbeats 400000 in
theorem odd_yes (m : Nat) (hm : m < M4) (h1 : m % 2 = 1) (h2 : 1 < m) (w : World) : Calls Try.prog 9 #[four m] w fun e w' => e = .returned (.bool true) ∧ Below w.heap.size w w' := by
  obtain ⟨m0, m1, m2, m3, h0, -, -, -, em, hv⟩ := four_open m hm
  have hne := four_ne_one m hm (by omega) m0 m1 m2 m3 em
  have e4 := neq_diff4 m0 m1 m2 m3 1 0 0 0 hne
  have h5 := h0.1
  have h6 : m0 % 2 = 1 := by omega
  have h7 : m0.tmod 2 = 1 := by rw [Int.tmod_eq_emod_of_nonneg h5]; exact h6
  rw [em]
  clear em hv hne
  go_enter Try.func9, Try.ntmps9
  go_wp2_with fail
  go_ret
  exact ⟨rfl, (by (repeat (first | exact Below.refl _ _ | refine Below.drew ?_ | refine Below.alloc ?_ (by first | omega | (simp <;> omega)) _ | refine Below.setCell ?_ (by first | omega | (simp <;> omega)) _)); done)⟩
set_option maxHeartbeats 400000 in
theorem odd_even (m : Nat) (hm : m < M4) (h1 : m % 2 = 0) (w : World) : Calls Try.prog 9 #[four m] w fun e w' => e = .returned (.bool false) ∧ Below w.heap.size w w' := by
  obtain ⟨m0, m1, m2, m3, h0, -, -, -, em, hv⟩ := four_open m hm
  have h5 := h0.1
  have h6 : m0 % 2 = 0 := by omega
  have h7 : m0.tmod 2 = 0 := by rw [Int.tmod_eq_emod_of_nonneg h5]; exact h6
  rw [em]
  clear em hv
  go_enter Try.func9, Try.ntmps9
  go_wp2_with fail
  go_ret
  exact ⟨rfl, (by (repeat (first | exact Below.refl _ _ | refine Below.drew ?_ | refine Below.alloc ?_ (by first | omega | (simp <;> omega)) _ | refine Below.setCell ?_ (by first | omega | (simp <;> omega)) _)); done)⟩
set_option maxHeartbeats 400000 in
theorem odd_one (w : World) : Calls Try.prog 9 #[four 1] w fun e w' => e = .returned (.bool false) ∧ Below w.heap.size w w' := by
  have e4 := neq4
  rw [four_one]
  go_enter Try.func9, Try.ntmps9
  go_wp2_with fail
  go_ret
  exact ⟨rfl, (by (repeat (first | exact Below.refl _ _ | refine Below.drew ?_ | refine Below.alloc ?_ (by first | omega | (simp <;> omega)) _ | refine Below.setCell ?_ (by first | omega | (simp <;> omega)) _)); done)⟩
theorem odd_no (m : Nat) (hm : m < M4) (h : m % 2 = 0 ∨ m = 1) (w : World) : Calls Try.prog 9 #[four m] w fun e w' => e = .returned (.bool false) ∧ Below w.heap.size w w' := by
  rcases h with h | rfl
  · exact odd_even m hm h w
  · exact odd_one w

end Go.Proofs.Ytkaekgjpjnnjpaa
