/-
  The contracts of a ring's Reduce, In, Out. Conditions: as each theorem says.
-/
import Derived.Test.YtkaekgjpjnnjpaaRingG
namespace Go.Proofs.Ytkaekgjpjnnjpaa
open Go.RowKit
set_option linter.unusedVariables false

set_option maxHeartbeats 2000000 in
theorem reduce_ring (W : World) (b m x : Nat) (hR : Rg W b m) (hx : x < M4) :
    Calls Try.prog 12 #[.pointer (some ⟨b, 0, none⟩), four x] W fun e w' => e = .returned (four (x % m)) ∧ Below W.heap.size W w' := by
  have HR : Hid (Rg W b m) := hR
  obtain ⟨⟨h1, h2, h3, -⟩, -, -⟩ := hR
  obtain ⟨x0, x1, x2, x3, -, -, -, -, ex, -⟩ := four_open x hx
  have hz : x % m < M4 := Nat.lt_trans (Nat.mod_lt _ (by omega)) h3
  obtain ⟨z0, z1, z2, z3, -, -, -, -, ez, -⟩ := four_open _ hz
  have C1 : Hid (∀ w, Below W.heap.size W w → Calls Try.prog 36 #[.pointer (some ⟨b, 0, none⟩), .agg #[.int .u64 x0, .int .u64 x1, .int .u64 x2, .int .u64 x3]] w fun e w' => e = .returned (.agg #[.int .u64 z0, .int .u64 z1, .int .u64 z2, .int .u64 z3]) ∧ Below w.heap.size w w') := by
    intro w hw; have := reduce_any w b m x (HR.out.below hw) hx; rwa [ex, ez] at this
  rw [ex, ez]
  clear ex hx ez hz
  go_enter Try.func12, Try.ntmps12
  go_wp2_with fail
  refine (made_any _ b m (HR.out.1.below (by (repeat (first | exact Below.refl _ _ | refine Below.drew ?_ | refine Below.alloc ?_ (by first | omega | (simp <;> omega)) _ | refine Below.setCell ?_ (by first | omega | (simp <;> omega)) _)); done))).mono ?_
  rintro e w9 ⟨rfl, hw⟩
  rw [hw]
  clear hw w9
  go_wp2_with fail
  go_region_with (first
    | (go_at_call 36; (refine (C1.out _ (by (repeat (first | exact Below.refl _ _ | refine Below.drew ?_ | refine Below.alloc ?_ (by first | omega | (simp <;> omega)) _ | refine Below.setCell ?_ (by first | omega | (simp <;> omega)) _)); done)).mono ?_); (rintro e w1 ⟨rfl, g1⟩; have B1 : Hid (Below W.heap.size W w1) := Below.trans (by (repeat (first | exact Below.refl _ _ | refine Below.drew ?_ | refine Below.alloc ?_ (by first | omega | (simp <;> omega)) _ | refine Below.setCell ?_ (by first | omega | (simp <;> omega)) _)); done) (g1.mono (by first | omega | (simp <;> omega))); have X1_0 : Hid (Blk w1 (W.heap.size) x0 x1 x2 x3) := Blk.below (by (repeat (first | exact Blk.new_at _ _ _ _ _ _ _ (by simp) | refine Blk.drew ?_ | refine Blk.alloc ?_ _)); done) g1; have X1_1 : Hid (Blk w1 (W.heap.size + 1) 0 0 0 0) := Blk.below (by (repeat (first | exact Blk.new_at _ _ _ _ _ _ _ (by simp) | refine Blk.drew ?_ | refine Blk.alloc ?_ _)); done) g1; obtain ⟨a0_0, a0_1, a0_2, a0_3, a0_4, a0_5⟩ := X1_0.out; obtain ⟨a1_0, a1_1, a1_2, a1_3, a1_4, a1_5⟩ := X1_1.out; clear g1)))
  all_goals
    go_wp2_with fail
    refine bodyPost_ret (v := .agg #[.int .u64 z0, .int .u64 z1, .int .u64 z2, .int .u64 z3]) (by simp [results, Try.results12, go_sem, a1_1, a1_2, a1_3, a1_4]) rfl ⟨rfl, ?_⟩
    have gs := B1.out.size
    repeat (first | exact B1.out | refine Below.setCell ?_ (by first | omega | (simp <;> omega)) _)

set_option maxHeartbeats 2000000 in
theorem in_ring (W : World) (b m x : Nat) (hR : Rg W b m) (hx : x < M4) :
    Calls Try.prog 18 #[.pointer (some ⟨b, 0, none⟩), four x] W fun e w' => e = .returned (four (x * M4 % m)) ∧ Below W.heap.size W w' := by
  have HR : Hid (Rg W b m) := hR
  obtain ⟨⟨h1, h2, h3, -⟩, -, -⟩ := hR
  obtain ⟨x0, x1, x2, x3, -, -, -, -, ex, -⟩ := four_open x hx
  have hz : x * M4 % m < M4 := Nat.lt_trans (Nat.mod_lt _ (by omega)) h3
  obtain ⟨z0, z1, z2, z3, -, -, -, -, ez, -⟩ := four_open _ hz
  have C1 : Hid (∀ w, Below W.heap.size W w → Calls Try.prog 39 #[.pointer (some ⟨b, 0, none⟩), .agg #[.int .u64 x0, .int .u64 x1, .int .u64 x2, .int .u64 x3]] w fun e w' => e = .returned (.agg #[.int .u64 z0, .int .u64 z1, .int .u64 z2, .int .u64 z3]) ∧ Below w.heap.size w w') := by
    intro w hw; have := numeral_any w b m x (HR.out.below hw) hx; rwa [ex, ez] at this
  rw [ex, ez]
  clear ex hx ez hz
  go_enter Try.func18, Try.ntmps18
  go_wp2_with fail
  refine (made_any _ b m (HR.out.1.below (by (repeat (first | exact Below.refl _ _ | refine Below.drew ?_ | refine Below.alloc ?_ (by first | omega | (simp <;> omega)) _ | refine Below.setCell ?_ (by first | omega | (simp <;> omega)) _)); done))).mono ?_
  rintro e w9 ⟨rfl, hw⟩
  rw [hw]
  clear hw w9
  go_wp2_with fail
  go_region_with (first
    | (go_at_call 39; (refine (C1.out _ (by (repeat (first | exact Below.refl _ _ | refine Below.drew ?_ | refine Below.alloc ?_ (by first | omega | (simp <;> omega)) _ | refine Below.setCell ?_ (by first | omega | (simp <;> omega)) _)); done)).mono ?_); (rintro e w1 ⟨rfl, g1⟩; have B1 : Hid (Below W.heap.size W w1) := Below.trans (by (repeat (first | exact Below.refl _ _ | refine Below.drew ?_ | refine Below.alloc ?_ (by first | omega | (simp <;> omega)) _ | refine Below.setCell ?_ (by first | omega | (simp <;> omega)) _)); done) (g1.mono (by first | omega | (simp <;> omega))); have X1_0 : Hid (Blk w1 (W.heap.size) x0 x1 x2 x3) := Blk.below (by (repeat (first | exact Blk.new_at _ _ _ _ _ _ _ (by simp) | refine Blk.drew ?_ | refine Blk.alloc ?_ _)); done) g1; have X1_1 : Hid (Blk w1 (W.heap.size + 1) 0 0 0 0) := Blk.below (by (repeat (first | exact Blk.new_at _ _ _ _ _ _ _ (by simp) | refine Blk.drew ?_ | refine Blk.alloc ?_ _)); done) g1; obtain ⟨a0_0, a0_1, a0_2, a0_3, a0_4, a0_5⟩ := X1_0.out; obtain ⟨a1_0, a1_1, a1_2, a1_3, a1_4, a1_5⟩ := X1_1.out; clear g1)))
  all_goals
    go_wp2_with fail
    refine bodyPost_ret (v := .agg #[.int .u64 z0, .int .u64 z1, .int .u64 z2, .int .u64 z3]) (by simp [results, Try.results18, go_sem, a1_1, a1_2, a1_3, a1_4]) rfl ⟨rfl, ?_⟩
    have gs := B1.out.size
    repeat (first | exact B1.out | refine Below.setCell ?_ (by first | omega | (simp <;> omega)) _)

set_option maxHeartbeats 2000000 in
theorem out_ring (W : World) (b m x : Nat) (hR : Rg W b m) (hx : x < M4) :
    Calls Try.prog 20 #[.pointer (some ⟨b, 0, none⟩), four x] W fun e w' => e = .returned (four (red m x)) ∧ Below W.heap.size W w' := by
  have HR : Hid (Rg W b m) := hR
  obtain ⟨⟨h1, h2, h3, -⟩, -, -⟩ := hR
  obtain ⟨x0, x1, x2, x3, -, -, -, -, ex, -⟩ := four_open x hx
  have hz : red m x < M4 := Nat.lt_trans (red_lt m _ h2) h3
  obtain ⟨z0, z1, z2, z3, -, -, -, -, ez, -⟩ := four_open _ hz
  have C1 : Hid (∀ w, Below W.heap.size W w → Calls Try.prog 43 #[.pointer (some ⟨b, 0, none⟩), .agg #[.int .u64 x0, .int .u64 x1, .int .u64 x2, .int .u64 x3]] w fun e w' => e = .returned (.agg #[.int .u64 z0, .int .u64 z1, .int .u64 z2, .int .u64 z3]) ∧ Below w.heap.size w w') := by
    intro w hw; have := residue_any w b m x (HR.out.1.below hw) hx; rwa [ex, ez] at this
  rw [ex, ez]
  clear ex hx ez hz
  go_enter Try.func20, Try.ntmps20
  go_wp2_with fail
  refine (made_any _ b m (HR.out.1.below (by (repeat (first | exact Below.refl _ _ | refine Below.drew ?_ | refine Below.alloc ?_ (by first | omega | (simp <;> omega)) _ | refine Below.setCell ?_ (by first | omega | (simp <;> omega)) _)); done))).mono ?_
  rintro e w9 ⟨rfl, hw⟩
  rw [hw]
  clear hw w9
  go_wp2_with fail
  go_region_with (first
    | (go_at_call 43; (refine (C1.out _ (by (repeat (first | exact Below.refl _ _ | refine Below.drew ?_ | refine Below.alloc ?_ (by first | omega | (simp <;> omega)) _ | refine Below.setCell ?_ (by first | omega | (simp <;> omega)) _)); done)).mono ?_); (rintro e w1 ⟨rfl, g1⟩; have B1 : Hid (Below W.heap.size W w1) := Below.trans (by (repeat (first | exact Below.refl _ _ | refine Below.drew ?_ | refine Below.alloc ?_ (by first | omega | (simp <;> omega)) _ | refine Below.setCell ?_ (by first | omega | (simp <;> omega)) _)); done) (g1.mono (by first | omega | (simp <;> omega))); have X1_0 : Hid (Blk w1 (W.heap.size) x0 x1 x2 x3) := Blk.below (by (repeat (first | exact Blk.new_at _ _ _ _ _ _ _ (by simp) | refine Blk.drew ?_ | refine Blk.alloc ?_ _)); done) g1; have X1_1 : Hid (Blk w1 (W.heap.size + 1) 0 0 0 0) := Blk.below (by (repeat (first | exact Blk.new_at _ _ _ _ _ _ _ (by simp) | refine Blk.drew ?_ | refine Blk.alloc ?_ _)); done) g1; obtain ⟨a0_0, a0_1, a0_2, a0_3, a0_4, a0_5⟩ := X1_0.out; obtain ⟨a1_0, a1_1, a1_2, a1_3, a1_4, a1_5⟩ := X1_1.out; clear g1)))
  all_goals
    go_wp2_with fail
    refine bodyPost_ret (v := .agg #[.int .u64 z0, .int .u64 z1, .int .u64 z2, .int .u64 z3]) (by simp [results, Try.results20, go_sem, a1_1, a1_2, a1_3, a1_4]) rfl ⟨rfl, ?_⟩
    have gs := B1.out.size
    repeat (first | exact B1.out | refine Below.setCell ?_ (by first | omega | (simp <;> omega)) _)

end Go.Proofs.Ytkaekgjpjnnjpaa
