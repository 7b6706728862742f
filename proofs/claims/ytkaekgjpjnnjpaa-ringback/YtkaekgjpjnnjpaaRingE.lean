/-
  The contracts of ring's residue, made, reduce, sub. Conditions: as each theorem says.
-/
import Derived.Test.YtkaekgjpjnnjpaaRingD
import Derived.Test.YtkaekgjpjnnjpaaLimbCmp
namespace Go.Proofs.Ytkaekgjpjnnjpaa
open Go.RowKit
set_option linter.unusedVariables false

theorem four_one : four 1 = .agg #[.int .u64 1, .int .u64 0, .int .u64 0, .int .u64 0] := by unfold four; simp
theorem one_lt_M4 : 1 < M4 := by unfold M4; omega

set_option maxHeartbeats 1000000 in
theorem residue_any (W : World) (b m x : Nat) (hM : Md W b m) (hx : x < M4) :
    Calls Try.prog 43 #[.pointer (some ⟨b, 0, none⟩), four x] W fun e w' => e = .returned (four (red m x)) ∧ Below W.heap.size W w' := by
  have HM : Hid (Md W b m) := hM
  obtain ⟨h1, h2, h3, -⟩ := hM
  have hzM : red m x < M4 := Nat.lt_trans (red_lt m x h2) h3
  obtain ⟨x0, x1, x2, x3, -, -, -, -, ex, -⟩ := four_open x hx
  obtain ⟨z0, z1, z2, z3, -, -, -, -, ez, -⟩ := four_open _ hzM
  have cM : Hid (∀ w, Below W.heap.size W w → Calls Try.prog 34 #[.pointer (some ⟨b, 0, none⟩), .agg #[.int .u64 x0, .int .u64 x1, .int .u64 x2, .int .u64 x3], .agg #[.int .u64 1, .int .u64 0, .int .u64 0, .int .u64 0]] w fun e w' => e = .returned (.agg #[.int .u64 z0, .int .u64 z1, .int .u64 z2, .int .u64 z3]) ∧ Below w.heap.size w w') := by
    intro w hw; have := mulR_raw w b m x 1 (HM.out.below hw) hx one_lt_M4 (Or.inr h2); rwa [Nat.mul_one, ex, ez, four_one] at this
  rw [ex, ez]
  clear ex ez hzM HM hx h1 h2 h3
  go_enter Try.func43, Try.ntmps43
  go_wp2_with fail
  refine (cM.out _ (by (repeat (first | exact Below.refl _ _ | refine Below.drew ?_ | refine Below.alloc ?_ (by first | omega | (simp <;> omega)) _ | refine Below.setCell ?_ (by first | omega | (simp <;> omega)) _)); done)).mono ?_
  rintro e w1 ⟨rfl, g1⟩
  have bZ : Blk w1 (W.heap.size + 1) 0 0 0 0 := Blk.below (by (repeat (first | exact Blk.new_at _ _ _ _ _ _ _ (by simp) | refine Blk.drew ?_ | refine Blk.alloc ?_ _)); done) g1
  obtain ⟨k0, k1, k2, k3, k4, k5⟩ := bZ
  go_wp2_with fail
  refine bodyPost_ret (v := .agg #[.int .u64 z0, .int .u64 z1, .int .u64 z2, .int .u64 z3]) (by simp [results, Try.results43, go_sem, k1, k2, k3, k4]) rfl ⟨rfl, ?_⟩
  have gs := g1.size
  simp at gs
  repeat (first | exact Below.refl _ _ | refine Below.drew ?_ | refine Below.setCell ?_ (by first | omega | (simp <;> omega)) _ | refine Below.alloc ?_ (by first | omega | (simp <;> omega)) _ | refine Below.trans ?_ (g1.mono (by first | omega | (simp <;> omega))))

theorem made_any (W : World) (b m : Nat) (hM : Md W b m) :
    Calls Try.prog 35 #[.pointer (some ⟨b, 0, none⟩)] W fun e w' => e = .returned (.bool true) ∧ w' = W := by
  obtain ⟨h1, h2, h3, m0, m1, m2, m3, f, k0, k1, k2, k3, k4, k5, k6, k7, k8⟩ := hM
  obtain ⟨l, c0, c1, c2, c3, c4⟩ := k8
  have hf : ¬ (f : Int) = 0 := by
    intro h
    have : f = 0 := by omega
    rw [this] at k7
    simp at k7
  have hf' : ¬ f = 0 := by omega
  clear k5 k6 k7
  go_enter Try.func35, Try.ntmps35
  go_wp2_with fail
  go_ret
  exact ⟨by simp [hf'], rfl⟩
theorem made_none (W : World) :
    Calls Try.prog 35 #[.pointer none] W fun e w' => e = .returned (.bool false) ∧ w' = W := by
  go_enter Try.func35, Try.ntmps35
  go_wp2_with fail
  go_ret
  exact ⟨rfl, rfl⟩

end Go.Proofs.Ytkaekgjpjnnjpaa
