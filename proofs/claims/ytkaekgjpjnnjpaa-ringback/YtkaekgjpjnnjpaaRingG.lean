/-
  The contract of ring's reduce. Conditions: as each theorem says.
-/
import Derived.Test.YtkaekgjpjnnjpaaRingE
namespace Go.Proofs.Ytkaekgjpjnnjpaa
open Go.RowKit
set_option linter.unusedVariables false
attribute [local go_sem] ext_cell ext_frozen

theorem red_twice (m x : Nat) (ho : m % 2 = 1) (hm : 1 < m) : red m (x * M4 % m) = x % m := by
  rw [red_mod, red_up m x ho hm]

set_option maxHeartbeats 1000000 in
theorem reduce_lt (W : World) (b m x : Nat) (hR : Rg W b m) (hx : x < M4) (hxm : x < m) :
    Calls Try.prog 36 #[.pointer (some ⟨b, 0, none⟩), four x] W fun e w' => e = .returned (four (x)) ∧ Below W.heap.size W w' := by
  have HR : Hid (Rg W b m) := hR
  obtain ⟨⟨h1, h2, h3, m0, m1, m2, m3, f, k0, k1, k2, k3, k4, k5, k6, k7, k8⟩, -, -⟩ := hR
  obtain ⟨x0, x1, x2, x3, -, -, -, -, ex, -⟩ := four_open x hx
  obtain ⟨t, ht, hd⟩ : ∃ t : Int, ord x m = t ∧ decide (t < 0) = true := ⟨_, rfl, by unfold ord; rw [if_pos (by omega)]; decide⟩
  have cC : Hid (∀ w, Calls Try.prog 56 #[.agg #[.int .u64 x0, .int .u64 x1, .int .u64 x2, .int .u64 x3], .agg #[.int .u64 m0, .int .u64 m1, .int .u64 m2, .int .u64 m3]] w fun e w' => e = .returned (.int .i64 t) ∧ Below w.heap.size w w') := by
    intro w; have := cmp_any x m hx h3 w; rwa [ht, ex, k5] at this
  rw [ex]
  clear ex k5 k6 k7 ht hx hxm HR h1 h2 h3
  obtain ⟨l, c0, c1, c2, c3, c4⟩ := k8
  have l1 : b < W.heap.size + 1 := by omega
  have l2 : b < W.heap.size + 1 + 1 := by omega
  have n0 : ¬ b = W.heap.size := by omega
  have n1 : ¬ b = W.heap.size + 1 := by omega
  go_enter Try.func36, Try.ntmps36
  go_wp2_with fail
  refine wp_cut (fun V => Blk V W.heap.size x0 x1 x2 x3 ∧ Blk V (W.heap.size + 1) 0 0 0 0 ∧ Below W.heap.size W V ∧ Five V b m0 m1 m2 m3 f) ⟨(by (repeat (first | exact Blk.new_at _ _ _ _ _ _ _ (by simp) | refine Blk.drew ?_ | refine Blk.alloc ?_ _)); done), (by (repeat (first | exact Blk.new_at _ _ _ _ _ _ _ (by simp) | refine Blk.drew ?_ | refine Blk.alloc ?_ _)); done), (by (repeat (first | exact Below.refl _ _ | refine Below.drew ?_ | refine Below.alloc ?_ (by first | omega | (simp <;> omega)) _ | refine Below.setCell ?_ (by first | omega | (simp <;> omega)) _)); done), Five.below ⟨l, c0, c1, c2, c3, c4⟩ (by (repeat (first | exact Below.refl _ _ | refine Below.drew ?_ | refine Below.alloc ?_ (by first | omega | (simp <;> omega)) _ | refine Below.setCell ?_ (by first | omega | (simp <;> omega)) _)); done)⟩ ?_
  clear l c0 c1 c2 c3 c4 l1 l2 n0 n1
  rintro V ⟨bX, bZ, bB', k9⟩
  have bB : Hid (Below W.heap.size W V) := bB'
  clear bB'
  obtain ⟨l, c0, c1, c2, c3, c4⟩ := k9
  have BX : Hid (Blk V W.heap.size x0 x1 x2 x3) := bX
  have BZ : Hid (Blk V (W.heap.size + 1) 0 0 0 0) := bZ
  obtain ⟨lx, x4, x5, x6, x7, -⟩ := bX
  clear bZ
  refine wp_region_ext (by kernel_rfl) (by kernel_rfl) ?_
  repeat (go_big_quiet_step ((with_reducible exact calls_ext (cC.out _))))
  refine wpQuiet_nil ?_
  intro V1 hw'
  obtain ⟨nq, hw''⟩ := hw'
  subst hw''
  have e1 : Below V.heap.size V (ext V nq) := ext_below V nq
  obtain ⟨U, hU⟩ : ∃ U, ext V nq = U := ⟨_, rfl⟩
  rw [hU] at e1 ⊢
  clear hU
  have bB2 : Hid (Below W.heap.size W U) := bB.out.trans (e1.mono bB.out.size)
  have BX2 : Hid (Blk U W.heap.size x0 x1 x2 x3) := BX.out.below e1
  have BZ2 : Hid (Blk U (W.heap.size + 1) 0 0 0 0) := BZ.out.below e1
  clear e1 l c0 c1 c2 c3 c4 lx x4 x5 x6 x7 bB BX BZ
  obtain ⟨lx, x4, x5, x6, x7, -⟩ := BX2.out
  obtain ⟨i0, i1, i2, i3, i4, i5⟩ := BZ2.out
  go_wp2_with fail
  refine bodyPost_ret (v := .agg #[.int .u64 x0, .int .u64 x1, .int .u64 x2, .int .u64 x3]) (by simp [results, Try.results36, go_sem, i1, i2, i3, i4]) rfl ⟨rfl, ?_⟩
  have gs := bB2.out.size
  repeat (first | exact bB2.out | refine Below.setCell ?_ (by first | omega | (simp <;> omega)) _)

set_option maxHeartbeats 1000000 in
theorem reduce_ge (W : World) (b m x : Nat) (hR : Rg W b m) (hx : x < M4) (hxm : m ≤ x) :
    Calls Try.prog 36 #[.pointer (some ⟨b, 0, none⟩), four x] W fun e w' => e = .returned (four (x % m)) ∧ Below W.heap.size W w' := by
  have HR : Hid (Rg W b m) := hR
  obtain ⟨⟨h1, h2, h3, m0, m1, m2, m3, f, k0, k1, k2, k3, k4, k5, k6, k7, k8⟩, -, -⟩ := hR
  obtain ⟨x0, x1, x2, x3, -, -, -, -, ex, -⟩ := four_open x hx
  have hzM : x % m < M4 := Nat.lt_trans (Nat.mod_lt _ (by omega)) h3
  have hyM : x * M4 % m < M4 := Nat.lt_trans (Nat.mod_lt _ (by omega)) h3
  obtain ⟨z0, z1, z2, z3, -, -, -, -, ez, -⟩ := four_open _ hzM
  obtain ⟨y0, y1, y2, y3, -, -, -, -, ey, -⟩ := four_open _ hyM
  have cN : Hid (∀ w, Below W.heap.size W w → Calls Try.prog 39 #[.pointer (some ⟨b, 0, none⟩), .agg #[.int .u64 x0, .int .u64 x1, .int .u64 x2, .int .u64 x3]] w fun e w' => e = .returned (.agg #[.int .u64 y0, .int .u64 y1, .int .u64 y2, .int .u64 y3]) ∧ Below w.heap.size w w') := by
    intro w hw; have := numeral_any w b m x (HR.out.below hw) hx; rwa [ex, ey] at this
  have cR : Hid (∀ w, Below W.heap.size W w → Calls Try.prog 43 #[.pointer (some ⟨b, 0, none⟩), .agg #[.int .u64 y0, .int .u64 y1, .int .u64 y2, .int .u64 y3]] w fun e w' => e = .returned (.agg #[.int .u64 z0, .int .u64 z1, .int .u64 z2, .int .u64 z3]) ∧ Below w.heap.size w w') := by
    intro w hw; have := residue_any w b m (x * M4 % m) (HR.out.1.below hw) hyM; rwa [red_twice m x h1 h2, ez, ey] at this
  obtain ⟨t, ht, hd⟩ : ∃ t : Int, ord x m = t ∧ decide (t < 0) = false := ⟨_, rfl, by unfold ord; split <;> (first | omega | (split <;> decide))⟩
  have cC : Hid (∀ w, Calls Try.prog 56 #[.agg #[.int .u64 x0, .int .u64 x1, .int .u64 x2, .int .u64 x3], .agg #[.int .u64 m0, .int .u64 m1, .int .u64 m2, .int .u64 m3]] w fun e w' => e = .returned (.int .i64 t) ∧ Below w.heap.size w w') := by
    intro w; have := cmp_any x m hx h3 w; rwa [ht, ex, k5] at this
  rw [ex, ez]
  clear ex k5 k6 k7 ht hx hxm HR h1 h2 h3 ez ey hzM hyM
  obtain ⟨l, c0, c1, c2, c3, c4⟩ := k8
  have l1 : b < W.heap.size + 1 := by omega
  have l2 : b < W.heap.size + 1 + 1 := by omega
  have n0 : ¬ b = W.heap.size := by omega
  have n1 : ¬ b = W.heap.size + 1 := by omega
  go_enter Try.func36, Try.ntmps36
  go_wp2_with fail
  refine wp_cut (fun V => Blk V W.heap.size x0 x1 x2 x3 ∧ Blk V (W.heap.size + 1) 0 0 0 0 ∧ Below W.heap.size W V ∧ Five V b m0 m1 m2 m3 f) ⟨(by (repeat (first | exact Blk.new_at _ _ _ _ _ _ _ (by simp) | refine Blk.drew ?_ | refine Blk.alloc ?_ _)); done), (by (repeat (first | exact Blk.new_at _ _ _ _ _ _ _ (by simp) | refine Blk.drew ?_ | refine Blk.alloc ?_ _)); done), (by (repeat (first | exact Below.refl _ _ | refine Below.drew ?_ | refine Below.alloc ?_ (by first | omega | (simp <;> omega)) _ | refine Below.setCell ?_ (by first | omega | (simp <;> omega)) _)); done), Five.below ⟨l, c0, c1, c2, c3, c4⟩ (by (repeat (first | exact Below.refl _ _ | refine Below.drew ?_ | refine Below.alloc ?_ (by first | omega | (simp <;> omega)) _ | refine Below.setCell ?_ (by first | omega | (simp <;> omega)) _)); done)⟩ ?_
  clear l c0 c1 c2 c3 c4 l1 l2 n0 n1
  rintro V ⟨bX, bZ, bB', k9⟩
  have bB : Hid (Below W.heap.size W V) := bB'
  clear bB'
  obtain ⟨l, c0, c1, c2, c3, c4⟩ := k9
  have BX : Hid (Blk V W.heap.size x0 x1 x2 x3) := bX
  have BZ : Hid (Blk V (W.heap.size + 1) 0 0 0 0) := bZ
  obtain ⟨lx, x4, x5, x6, x7, -⟩ := bX
  clear bZ
  refine wp_region_ext (by kernel_rfl) (by kernel_rfl) ?_
  repeat (go_big_quiet_step ((with_reducible exact calls_ext (cC.out _))))
  refine wpQuiet_nil ?_
  intro V1 hw'
  obtain ⟨nq, hw''⟩ := hw'
  subst hw''
  have e1 : Below V.heap.size V (ext V nq) := ext_below V nq
  obtain ⟨U, hU⟩ : ∃ U, ext V nq = U := ⟨_, rfl⟩
  rw [hU] at e1 ⊢
  clear hU
  have bB2 : Hid (Below W.heap.size W U) := bB.out.trans (e1.mono bB.out.size)
  have BX2 : Hid (Blk U W.heap.size x0 x1 x2 x3) := BX.out.below e1
  have BZ2 : Hid (Blk U (W.heap.size + 1) 0 0 0 0) := BZ.out.below e1
  clear e1 l c0 c1 c2 c3 c4 lx x4 x5 x6 x7 bB BX BZ
  obtain ⟨lx, x4, x5, x6, x7, -⟩ := BX2.out
  obtain ⟨i0, i1, i2, i3, i4, i5⟩ := BZ2.out
  go_wp2_with fail
  refine (cN.out _ bB2.out).mono ?_
  rintro e w1 ⟨rfl, g1⟩
  have B1 : Hid (Below W.heap.size W w1) := bB2.out.trans (g1.mono bB2.out.size)
  have Z1 : Hid (Blk w1 (W.heap.size + 1) 0 0 0 0) := BZ2.out.below g1
  clear g1 lx x4 x5 x6 x7 i0 i1 i2 i3 i4 i5
  go_wp2_with fail
  refine (cR.out _ B1.out).mono ?_
  rintro e w2 ⟨rfl, g2⟩
  obtain ⟨i0, i1, i2, i3, i4, i5⟩ := Z1.out.below g2
  go_wp2_with fail
  refine bodyPost_ret (v := .agg #[.int .u64 z0, .int .u64 z1, .int .u64 z2, .int .u64 z3]) (by simp [results, Try.results36, go_sem, i1, i2, i3, i4]) rfl ⟨rfl, ?_⟩
  have gs := B1.out.size
  have gs2 := g2.size
  repeat (first | exact B1.out | refine Below.setCell ?_ (by first | omega | (simp <;> omega)) _ | refine Below.trans ?_ (g2.mono (by first | omega | (simp <;> omega))))

theorem reduce_any (W : World) (b m x : Nat) (hR : Rg W b m) (hx : x < M4) :
    Calls Try.prog 36 #[.pointer (some ⟨b, 0, none⟩), four x] W fun e w' => e = .returned (four (x % m)) ∧ Below W.heap.size W w' := by
  rcases Nat.lt_or_ge x m with h | h
  · rw [Nat.mod_eq_of_lt h]; exact reduce_lt W b m x hR hx h
  · exact reduce_ge W b m x hR hx h

end Go.Proofs.Ytkaekgjpjnnjpaa
