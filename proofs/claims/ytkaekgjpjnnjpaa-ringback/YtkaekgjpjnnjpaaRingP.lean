/-
  The contracts of a ring's Times. Conditions: as each theorem says.
-/
import Derived.Test.YtkaekgjpjnnjpaaRingG
namespace Go.Proofs.Ytkaekgjpjnnjpaa
open Go.RowKit
set_option linter.unusedVariables false

set_option maxHeartbeats 2000000 in
theorem times_ring (W : World) (b m x y : Nat) (hR : Rg W b m) (hx : x < M4) (hy : y < M4) :
    Calls Try.prog 25 #[.pointer (some ⟨b, 0, none⟩), four x, four y] W fun e w' => e = .returned (four (red m (x * y))) ∧ Below W.heap.size W w' := by
  have HR : Hid (Rg W b m) := hR
  obtain ⟨⟨h1, h2, h3, -⟩, -, -⟩ := hR
  obtain ⟨x0, x1, x2, x3, -, -, -, -, ex, -⟩ := four_open x hx
  obtain ⟨y0, y1, y2, y3, -, -, -, -, ey, -⟩ := four_open y hy
  have hq : y % m < M4 := Nat.lt_trans (Nat.mod_lt _ (by omega)) h3
  obtain ⟨q0, q1, q2, q3, -, -, -, -, eq, -⟩ := four_open _ hq
  have hz : red m (x * y) < M4 := Nat.lt_trans (red_lt m _ h2) h3
  obtain ⟨z0, z1, z2, z3, -, -, -, -, ez, -⟩ := four_open _ hz
  have C1 : Hid (∀ w, Below W.heap.size W w → Calls Try.prog 36 #[.pointer (some ⟨b, 0, none⟩), .agg #[.int .u64 y0, .int .u64 y1, .int .u64 y2, .int .u64 y3]] w fun e w' => e = .returned (.agg #[.int .u64 q0, .int .u64 q1, .int .u64 q2, .int .u64 q3]) ∧ Below w.heap.size w w') := by
    intro w hw; have := reduce_any w b m y (HR.out.below hw) hy; rwa [ey, eq] at this
  have C2 : Hid (∀ w, Below W.heap.size W w → Calls Try.prog 34 #[.pointer (some ⟨b, 0, none⟩), .agg #[.int .u64 x0, .int .u64 x1, .int .u64 x2, .int .u64 x3], .agg #[.int .u64 q0, .int .u64 q1, .int .u64 q2, .int .u64 q3]] w fun e w' => e = .returned (.agg #[.int .u64 z0, .int .u64 z1, .int .u64 z2, .int .u64 z3]) ∧ Below w.heap.size w w') := by
    intro w hw; have := mulR_raw w b m x (y % m) (HR.out.1.below hw) hx hq (Or.inr (Nat.mod_lt _ (by omega))); rwa [red_mul_right, ex, eq, ez] at this
  rw [ex, ey, ez]
  clear ex hx ey hy eq hq ez hz
  go_enter Try.func25, Try.ntmps25
  go_wp2_with fail
  refine (made_any _ b m (HR.out.1.below (by (repeat (first | exact Below.refl _ _ | refine Below.drew ?_ | refine Below.alloc ?_ (by first | omega | (simp <;> omega)) _ | refine Below.setCell ?_ (by first | omega | (simp <;> omega)) _)); done))).mono ?_
  rintro e w9 ⟨rfl, hw⟩
  rw [hw]
  clear hw w9
  go_wp2_with fail
  go_region_with (first
    | (go_at_call 34; (with_reducible refine (C2.out _ B1.out).mono ?_); (rintro e w2 ⟨rfl, g2⟩; have B2 : Hid (Below W.heap.size W w2) := B1.out.trans (g2.mono B1.out.size); have X2_0 : Hid (Blk w2 (W.heap.size) x0 x1 x2 x3) := X1_0.out.below g2; have X2_1 : Hid (Blk w2 (W.heap.size + 1) y0 y1 y2 y3) := X1_1.out.below g2; have X2_2 : Hid (Blk w2 (W.heap.size + 1 + 1) 0 0 0 0) := X1_2.out.below g2; clear a0_0 a0_1 a0_2 a0_3 a0_4 a0_5 a1_0 a1_1 a1_2 a1_3 a1_4 a1_5 a2_0 a2_1 a2_2 a2_3 a2_4 a2_5; obtain ⟨a0_0, a0_1, a0_2, a0_3, a0_4, a0_5⟩ := X2_0.out; obtain ⟨a1_0, a1_1, a1_2, a1_3, a1_4, a1_5⟩ := X2_1.out; obtain ⟨a2_0, a2_1, a2_2, a2_3, a2_4, a2_5⟩ := X2_2.out; clear g2))
    | (go_at_call 36; (refine (C1.out _ (by (repeat (first | exact Below.refl _ _ | refine Below.drew ?_ | refine Below.alloc ?_ (by first | omega | (simp <;> omega)) _ | refine Below.setCell ?_ (by first | omega | (simp <;> omega)) _)); done)).mono ?_); (rintro e w1 ⟨rfl, g1⟩; have B1 : Hid (Below W.heap.size W w1) := Below.trans (by (repeat (first | exact Below.refl _ _ | refine Below.drew ?_ | refine Below.alloc ?_ (by first | omega | (simp <;> omega)) _ | refine Below.setCell ?_ (by first | omega | (simp <;> omega)) _)); done) (g1.mono (by first | omega | (simp <;> omega))); have X1_0 : Hid (Blk w1 (W.heap.size) x0 x1 x2 x3) := Blk.below (by (repeat (first | exact Blk.new_at _ _ _ _ _ _ _ (by simp) | refine Blk.drew ?_ | refine Blk.alloc ?_ _)); done) g1; have X1_1 : Hid (Blk w1 (W.heap.size + 1) y0 y1 y2 y3) := Blk.below (by (repeat (first | exact Blk.new_at _ _ _ _ _ _ _ (by simp) | refine Blk.drew ?_ | refine Blk.alloc ?_ _)); done) g1; have X1_2 : Hid (Blk w1 (W.heap.size + 1 + 1) 0 0 0 0) := Blk.below (by (repeat (first | exact Blk.new_at _ _ _ _ _ _ _ (by simp) | refine Blk.drew ?_ | refine Blk.alloc ?_ _)); done) g1; obtain ⟨a0_0, a0_1, a0_2, a0_3, a0_4, a0_5⟩ := X1_0.out; obtain ⟨a1_0, a1_1, a1_2, a1_3, a1_4, a1_5⟩ := X1_1.out; obtain ⟨a2_0, a2_1, a2_2, a2_3, a2_4, a2_5⟩ := X1_2.out; clear g1)))
  all_goals
    go_wp2_with fail
    refine bodyPost_ret (v := .agg #[.int .u64 z0, .int .u64 z1, .int .u64 z2, .int .u64 z3]) (by simp [results, Try.results25, go_sem, a2_1, a2_2, a2_3, a2_4]) rfl ⟨rfl, ?_⟩
    have gs := B2.out.size
    repeat (first | exact B2.out | refine Below.setCell ?_ (by first | omega | (simp <;> omega)) _)

end Go.Proofs.Ytkaekgjpjnnjpaa
