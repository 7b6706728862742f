/-
  The contracts of limb's Cmp, Bits and word: for numbers below 2^256 they return the document's answer and change no memory that was there. Conditions: as each theorem says.
-/
import Derived.Test.YtedhfimjcpbcpaaDoorKbaa
import Derived.Test.YtedhfimjcpbcpaaDoorKbaj
import Derived.Test.YtedhfimjcpbcpaaDoorKbai
namespace Go.Proofs.YtedhfimjcpbcpaaDoor
open Go.RowKit
set_option linter.unusedVariables false
attribute [local go_sem] idx4_0 idx4_1 idx4_2 idx4_3

theorem ordV (x y : Nat) (a0 a1 a2 a3 b0 b1 b2 b3 o1 o2 o3 o4 : Int) (ha0 : Wd a0) (ha1 : Wd a1) (ha2 : Wd a2) (ha3 : Wd a3) (hb0 : Wd b0) (hb1 : Wd b1) (hb2 : Wd b2) (hb3 : Wd b3)
    (hx : (x : Int) = a0 + 18446744073709551616 * a1 + 340282366920938463463374607431768211456 * a2 + 6277101735386680763835789423207666416102355444464034512896 * a3) (hy : (y : Int) = b0 + 18446744073709551616 * b1 + 340282366920938463463374607431768211456 * b2 + 6277101735386680763835789423207666416102355444464034512896 * b3)
    (h1 : o1 = if a0 = b0 then 0 else ord a0 b0) (h2 : o2 = if a1 = b1 then o1 else ord a1 b1) (h3 : o3 = if a2 = b2 then o2 else ord a2 b2) (h4 : o4 = if a3 = b3 then o3 else ord a3 b3) : ord x y = o4 := by
  unfold Wd at *
  by_cases e3 : a3 = b3
  · rw [if_pos e3] at h4
    by_cases e2 : a2 = b2
    · rw [if_pos e2] at h3
      by_cases e1 : a1 = b1
      · rw [if_pos e1] at h2
        by_cases e0 : a0 = b0
        · rw [if_pos e0] at h1
          rw [h4, h3, h2, h1, ord_eq (by omega)]
        · rw [if_neg e0] at h1
          rw [h4, h3, h2, h1]
          rcases Int.lt_or_gt_of_ne e0 with h | h
          · rw [ord_lt h, ord_lt (by omega)]
          · rw [ord_gt h, ord_gt (by omega)]
      · rw [if_neg e1] at h2
        rw [h4, h3, h2]
        clear h1 h2
        rcases Int.lt_or_gt_of_ne e1 with h | h
        · rw [ord_lt h, ord_lt (by omega)]
        · rw [ord_gt h, ord_gt (by omega)]
    · rw [if_neg e2] at h3
      rw [h4, h3]
      clear h1 h2 h3
      rcases Int.lt_or_gt_of_ne e2 with h | h
      · rw [ord_lt h, ord_lt (by omega)]
      · rw [ord_gt h, ord_gt (by omega)]
  · rw [if_neg e3] at h4
    rw [h4]
    clear h1 h2 h3 h4
    rcases Int.lt_or_gt_of_ne e3 with h | h
    · rw [ord_lt h, ord_lt (by omega)]
    · rw [ord_gt h, ord_gt (by omega)]

set_option maxHeartbeats 4000000 in
theorem cmp_any (x y : Nat) (hx : x < M4) (hy : y < M4) (w : World) :
    Calls Tryd.prog 104 #[four x, four y] w fun e w' => e = .returned (.int .i64 (ord x y)) ∧ Below w.heap.size w w' := by
  obtain ⟨a0, a1, a2, a3, ha0, ha1, ha2, ha3, ea, hxa⟩ := four_open x hx
  obtain ⟨b0, b1, b2, b3, hb0, hb1, hb2, hb3, eb, hyb⟩ := four_open y hy
  obtain ⟨o1, h1⟩ : ∃ o : Int, Hid (o = if a0 = b0 then 0 else ord a0 b0) := ⟨_, rfl⟩
  obtain ⟨o2, h2⟩ : ∃ o : Int, Hid (o = if a1 = b1 then o1 else ord a1 b1) := ⟨_, rfl⟩
  obtain ⟨o3, h3⟩ : ∃ o : Int, Hid (o = if a2 = b2 then o2 else ord a2 b2) := ⟨_, rfl⟩
  obtain ⟨o4, h4⟩ : ∃ o : Int, Hid (o = if a3 = b3 then o3 else ord a3 b3) := ⟨_, rfl⟩
  have V : Hid (ord x y = o4) := ordV x y a0 a1 a2 a3 b0 b1 b2 b3 o1 o2 o3 o4 ha0 ha1 ha2 ha3 hb0 hb1 hb2 hb3 hxa hyb h1 h2 h3 h4
  rw [ea, eb]
  clear hxa hyb ea eb hx hy
  go_enter Tryd.func104, Tryd.ntmps104
  go_wp2
  go_loop [5, 9] (fun o i => (i = .int .i64 0 ∧ o = .int .i64 0) ∨ (i = .int .i64 1 ∧ o = .int .i64 o1) ∨ (i = .int .i64 2 ∧ o = .int .i64 o2) ∨ (i = .int .i64 3 ∧ o = .int .i64 o3) ∨ (i = .int .i64 4 ∧ o = .int .i64 o4)) (fun _ i => 4 - (intOf i).toNat)
  case atStart => exact Or.inl ⟨rfl, rfl⟩
  case round =>
    rcases hrel with ⟨rfl, rfl⟩ | ⟨rfl, rfl⟩ | ⟨rfl, rfl⟩ | ⟨rfl, rfl⟩ | ⟨rfl, rfl⟩
    · by_cases e : a0 = b0
      · have d : (a0 != b0) = false := by simp [e]
        have g : Hid (o1 = 0) := by unfold Hid at *; rw [h1, if_pos e]
        clear e
        go_wp2
        go_round
        case rel => exact Or.inr (Or.inl ⟨rfl, by rw [g.out]⟩)
        case measure => simp [intOf]
      · have d : (a0 != b0) = true := by simp [e]
        have g : Hid (o1 = ord a0 b0) := by unfold Hid at *; rw [h1, if_neg e]
        clear e
        go_wp2_with (go_at_call 120; refine (compare_any _ _ ha0 hb0 _).mono ?_; rintro e w' ⟨rfl, rfl⟩)
        go_round
        case rel => exact Or.inr (Or.inl ⟨rfl, by rw [g.out]⟩)
        case measure => simp [intOf]
    · by_cases e : a1 = b1
      · have d : (a1 != b1) = false := by simp [e]
        have g : Hid (o2 = o1) := by unfold Hid at *; rw [h2, if_pos e]
        clear e
        go_wp2
        go_round
        case rel => exact Or.inr (Or.inr (Or.inl ⟨rfl, by rw [g.out]⟩))
        case measure => simp [intOf]
      · have d : (a1 != b1) = true := by simp [e]
        have g : Hid (o2 = ord a1 b1) := by unfold Hid at *; rw [h2, if_neg e]
        clear e
        go_wp2_with (go_at_call 120; refine (compare_any _ _ ha1 hb1 _).mono ?_; rintro e w' ⟨rfl, rfl⟩)
        go_round
        case rel => exact Or.inr (Or.inr (Or.inl ⟨rfl, by rw [g.out]⟩))
        case measure => simp [intOf]
    · by_cases e : a2 = b2
      · have d : (a2 != b2) = false := by simp [e]
        have g : Hid (o3 = o2) := by unfold Hid at *; rw [h3, if_pos e]
        clear e
        go_wp2
        go_round
        case rel => exact Or.inr (Or.inr (Or.inr (Or.inl ⟨rfl, by rw [g.out]⟩)))
        case measure => simp [intOf]
      · have d : (a2 != b2) = true := by simp [e]
        have g : Hid (o3 = ord a2 b2) := by unfold Hid at *; rw [h3, if_neg e]
        clear e
        go_wp2_with (go_at_call 120; refine (compare_any _ _ ha2 hb2 _).mono ?_; rintro e w' ⟨rfl, rfl⟩)
        go_round
        case rel => exact Or.inr (Or.inr (Or.inr (Or.inl ⟨rfl, by rw [g.out]⟩)))
        case measure => simp [intOf]
    · by_cases e : a3 = b3
      · have d : (a3 != b3) = false := by simp [e]
        have g : Hid (o4 = o3) := by unfold Hid at *; rw [h4, if_pos e]
        clear e
        go_wp2
        go_round
        case rel => exact Or.inr (Or.inr (Or.inr (Or.inr (⟨rfl, by rw [g.out]⟩))))
        case measure => simp [intOf]
      · have d : (a3 != b3) = true := by simp [e]
        have g : Hid (o4 = ord a3 b3) := by unfold Hid at *; rw [h4, if_neg e]
        clear e
        go_wp2_with (go_at_call 120; refine (compare_any _ _ ha3 hb3 _).mono ?_; rintro e w' ⟨rfl, rfl⟩)
        go_round
        case rel => exact Or.inr (Or.inr (Or.inr (Or.inr (⟨rfl, by rw [g.out]⟩))))
        case measure => simp [intOf]
    · go_wp2
      go_ret
      exact ⟨ret_int V.out.symm, by repeat (first | exact Below.refl _ _ | refine Below.alloc ?_ (by simp <;> omega) _)⟩

end Go.Proofs.YtedhfimjcpbcpaaDoor

/-
  The contracts of ring's residue, made, reduce, sub. Conditions: as each theorem says.
-/
namespace Go.Proofs.YtedhfimjcpbcpaaDoor
open Go.RowKit
set_option linter.unusedVariables false

theorem four_one : four 1 = .agg #[.int .u64 1, .int .u64 0, .int .u64 0, .int .u64 0] := by unfold four; simp
theorem one_lt_M4 : 1 < M4 := by unfold M4; omega

set_option maxHeartbeats 1000000 in
theorem residue_any (W : World) (b m x : Nat) (hM : Md W b m) (hx : x < M4) :
    Calls Tryd.prog 105 #[.pointer (some ⟨b, 0, none⟩), four x] W fun e w' => e = .returned (four (red m x)) ∧ Below W.heap.size W w' := by
  have HM : Hid (Md W b m) := hM
  obtain ⟨h1, h2, h3, -⟩ := hM
  have hzM : red m x < M4 := Nat.lt_trans (red_lt m x h2) h3
  obtain ⟨x0, x1, x2, x3, -, -, -, -, ex, -⟩ := four_open x hx
  obtain ⟨z0, z1, z2, z3, -, -, -, -, ez, -⟩ := four_open _ hzM
  have cM : Hid (∀ w, Below W.heap.size W w → Calls Tryd.prog 76 #[.pointer (some ⟨b, 0, none⟩), .agg #[.int .u64 x0, .int .u64 x1, .int .u64 x2, .int .u64 x3], .agg #[.int .u64 1, .int .u64 0, .int .u64 0, .int .u64 0]] w fun e w' => e = .returned (.agg #[.int .u64 z0, .int .u64 z1, .int .u64 z2, .int .u64 z3]) ∧ Below w.heap.size w w') := by
    intro w hw; have := mulR_raw w b m x 1 (HM.out.below hw) hx one_lt_M4 (Or.inr h2); rwa [Nat.mul_one, ex, ez, four_one] at this
  rw [ex, ez]
  clear ex ez hzM HM hx h1 h2 h3
  go_enter Tryd.func105, Tryd.ntmps105
  go_wp2_with fail
  refine (cM.out _ (by (repeat (first | exact Below.refl _ _ | refine Below.drew ?_ | refine Below.alloc ?_ (by first | omega | (simp <;> omega)) _ | refine Below.setCell ?_ (by first | omega | (simp <;> omega)) _)); done)).mono ?_
  rintro e w1 ⟨rfl, g1⟩
  have bZ : Blk w1 (W.heap.size + 1) 0 0 0 0 := Blk.below (by (repeat (first | exact Blk.new_at _ _ _ _ _ _ _ (by simp) | refine Blk.drew ?_ | refine Blk.alloc ?_ _)); done) g1
  obtain ⟨k0, k1, k2, k3, k4, k5⟩ := bZ
  go_wp2_with fail
  refine bodyPost_ret (v := .agg #[.int .u64 z0, .int .u64 z1, .int .u64 z2, .int .u64 z3]) (by simp [results, Tryd.results105, go_sem, k1, k2, k3, k4]) rfl ⟨rfl, ?_⟩
  have gs := g1.size
  simp at gs
  repeat (first | exact Below.refl _ _ | refine Below.drew ?_ | refine Below.setCell ?_ (by first | omega | (simp <;> omega)) _ | refine Below.alloc ?_ (by first | omega | (simp <;> omega)) _ | refine Below.trans ?_ (g1.mono (by first | omega | (simp <;> omega))))

theorem made_any (W : World) (b m : Nat) (hM : Md W b m) :
    Calls Tryd.prog 77 #[.pointer (some ⟨b, 0, none⟩)] W fun e w' => e = .returned (.bool true) ∧ w' = W := by
  obtain ⟨h1, h2, h3, m0, m1, m2, m3, f, k0, k1, k2, k3, k4, k5, k6, k7, k8⟩ := hM
  obtain ⟨l, c0, c1, c2, c3, c4⟩ := k8
  have hf : ¬ (f : Int) = 0 := by
    intro h
    have : f = 0 := by omega
    rw [this] at k7
    simp at k7
  have hf' : ¬ f = 0 := by omega
  clear k5 k6 k7
  go_enter Tryd.func77, Tryd.ntmps77
  go_wp2_with fail
  go_ret
  exact ⟨by simp [hf'], rfl⟩
end Go.Proofs.YtedhfimjcpbcpaaDoor

/-
  The contract of ring's reduce. Conditions: as each theorem says.
-/
namespace Go.Proofs.YtedhfimjcpbcpaaDoor
open Go.RowKit
set_option linter.unusedVariables false
attribute [local go_sem] ext_cell ext_frozen

theorem red_twice (m x : Nat) (ho : m % 2 = 1) (hm : 1 < m) : red m (x * M4 % m) = x % m := by
  rw [red_mod, red_up m x ho hm]

set_option maxHeartbeats 1000000 in
theorem reduce_lt (W : World) (b m x : Nat) (hR : Rg W b m) (hx : x < M4) (hxm : x < m) :
    Calls Tryd.prog 78 #[.pointer (some ⟨b, 0, none⟩), four x] W fun e w' => e = .returned (four (x)) ∧ Below W.heap.size W w' := by
  have HR : Hid (Rg W b m) := hR
  obtain ⟨⟨h1, h2, h3, m0, m1, m2, m3, f, k0, k1, k2, k3, k4, k5, k6, k7, k8⟩, -, -⟩ := hR
  obtain ⟨x0, x1, x2, x3, -, -, -, -, ex, -⟩ := four_open x hx
  obtain ⟨t, ht, hd⟩ : ∃ t : Int, ord x m = t ∧ decide (t < 0) = true := ⟨_, rfl, by unfold ord; rw [if_pos (by omega)]; decide⟩
  have cC : Hid (∀ w, Calls Tryd.prog 104 #[.agg #[.int .u64 x0, .int .u64 x1, .int .u64 x2, .int .u64 x3], .agg #[.int .u64 m0, .int .u64 m1, .int .u64 m2, .int .u64 m3]] w fun e w' => e = .returned (.int .i64 t) ∧ Below w.heap.size w w') := by
    intro w; have := cmp_any x m hx h3 w; rwa [ht, ex, k5] at this
  rw [ex]
  clear ex k5 k6 k7 ht hx hxm HR h1 h2 h3
  obtain ⟨l, c0, c1, c2, c3, c4⟩ := k8
  have l1 : b < W.heap.size + 1 := by omega
  have l2 : b < W.heap.size + 1 + 1 := by omega
  have n0 : ¬ b = W.heap.size := by omega
  have n1 : ¬ b = W.heap.size + 1 := by omega
  go_enter Tryd.func78, Tryd.ntmps78
  go_wp2_with fail
  refine wp_cut (fun V => Blk V W.heap.size x0 x1 x2 x3 ∧ Blk V (W.heap.size + 1) 0 0 0 0 ∧ Below W.heap.size W V ∧ Five V b m0 m1 m2 m3 f) ⟨(by (repeat (first | exact Blk.new_at _ _ _ _ _ _ _ (by simp) | refine Blk.drew ?_ | refine Blk.alloc ?_ _)); done), (by (repeat (first | exact Blk.new_at _ _ _ _ _ _ _ (by simp) | refine Blk.drew ?_ | refine Blk.alloc ?_ _)); done), (by (repeat (first | exact Below.refl _ _ | refine Below.drew ?_ | refine Below.alloc ?_ (by first | omega | (simp <;> omega)) _ | refine Below.setCell ?_ (by first | omega | (simp <;> omega)) _)); done), Five.below ⟨l, c0, c1, c2, c3, c4⟩ (by (repeat (first | exact Below.refl _ _ | refine Below.drew ?_ | refine Below.alloc ?_ (by first | omega | (simp <;> omega)) _ | refine Below.setCell ?_ (by first | omega | (simp <;> omega)) _)); done)⟩ ?_
  clear l c0 c1 c2 c3 c4 l1 l2 n0 n1
  rintro V ⟨bX, bZ, bB', k9⟩
  have bB : Hid (Below W.heap.size W V) := bB'
  clear bB'
  obtain ⟨l, c0, c1, c2, c3, c4⟩ := k9
  have BX : Hid (Blk V W.heap.size x0 x1 x2 x3) := bX
  have BZ : Hid (Blk V (W.heap.size + 1) 0 0 0 0) := bZ
  obtain ⟨lx, x4, x5, x6, x7, -⟩ := bX
  clear bZ
  refine wp_region_ext (by kernel_rfl) (by kernel_rfl) ?_
  repeat (go_big_quiet_step ((with_reducible exact calls_ext (cC.out _))))
  refine wpQuiet_nil ?_
  intro V1 hw'
  obtain ⟨nq, hw''⟩ := hw'
  subst hw''
  have e1 : Below V.heap.size V (ext V nq) := ext_below V nq
  obtain ⟨U, hU⟩ : ∃ U, ext V nq = U := ⟨_, rfl⟩
  rw [hU] at e1 ⊢
  clear hU
  have bB2 : Hid (Below W.heap.size W U) := bB.out.trans (e1.mono bB.out.size)
  have BX2 : Hid (Blk U W.heap.size x0 x1 x2 x3) := BX.out.below e1
  have BZ2 : Hid (Blk U (W.heap.size + 1) 0 0 0 0) := BZ.out.below e1
  clear e1 l c0 c1 c2 c3 c4 lx x4 x5 x6 x7 bB BX BZ
  obtain ⟨lx, x4, x5, x6, x7, -⟩ := BX2.out
  obtain ⟨i0, i1, i2, i3, i4, i5⟩ := BZ2.out
  go_wp2_with fail
  refine bodyPost_ret (v := .agg #[.int .u64 x0, .int .u64 x1, .int .u64 x2, .int .u64 x3]) (by simp [results, Tryd.results78, go_sem, i1, i2, i3, i4]) rfl ⟨rfl, ?_⟩
  have gs := bB2.out.size
  repeat (first | exact bB2.out | refine Below.setCell ?_ (by first | omega | (simp <;> omega)) _)

set_option maxHeartbeats 1000000 in
theorem reduce_ge (W : World) (b m x : Nat) (hR : Rg W b m) (hx : x < M4) (hxm : m ≤ x) :
    Calls Tryd.prog 78 #[.pointer (some ⟨b, 0, none⟩), four x] W fun e w' => e = .returned (four (x % m)) ∧ Below W.heap.size W w' := by
  have HR : Hid (Rg W b m) := hR
  obtain ⟨⟨h1, h2, h3, m0, m1, m2, m3, f, k0, k1, k2, k3, k4, k5, k6, k7, k8⟩, -, -⟩ := hR
  obtain ⟨x0, x1, x2, x3, -, -, -, -, ex, -⟩ := four_open x hx
  have hzM : x % m < M4 := Nat.lt_trans (Nat.mod_lt _ (by omega)) h3
  have hyM : x * M4 % m < M4 := Nat.lt_trans (Nat.mod_lt _ (by omega)) h3
  obtain ⟨z0, z1, z2, z3, -, -, -, -, ez, -⟩ := four_open _ hzM
  obtain ⟨y0, y1, y2, y3, -, -, -, -, ey, -⟩ := four_open _ hyM
  have cN : Hid (∀ w, Below W.heap.size W w → Calls Tryd.prog 106 #[.pointer (some ⟨b, 0, none⟩), .agg #[.int .u64 x0, .int .u64 x1, .int .u64 x2, .int .u64 x3]] w fun e w' => e = .returned (.agg #[.int .u64 y0, .int .u64 y1, .int .u64 y2, .int .u64 y3]) ∧ Below w.heap.size w w') := by
    intro w hw; have := numeral_any w b m x (HR.out.below hw) hx; rwa [ex, ey] at this
  have cR : Hid (∀ w, Below W.heap.size W w → Calls Tryd.prog 105 #[.pointer (some ⟨b, 0, none⟩), .agg #[.int .u64 y0, .int .u64 y1, .int .u64 y2, .int .u64 y3]] w fun e w' => e = .returned (.agg #[.int .u64 z0, .int .u64 z1, .int .u64 z2, .int .u64 z3]) ∧ Below w.heap.size w w') := by
    intro w hw; have := residue_any w b m (x * M4 % m) (HR.out.1.below hw) hyM; rwa [red_twice m x h1 h2, ez, ey] at this
  obtain ⟨t, ht, hd⟩ : ∃ t : Int, ord x m = t ∧ decide (t < 0) = false := ⟨_, rfl, by unfold ord; split <;> (first | omega | (split <;> decide))⟩
  have cC : Hid (∀ w, Calls Tryd.prog 104 #[.agg #[.int .u64 x0, .int .u64 x1, .int .u64 x2, .int .u64 x3], .agg #[.int .u64 m0, .int .u64 m1, .int .u64 m2, .int .u64 m3]] w fun e w' => e = .returned (.int .i64 t) ∧ Below w.heap.size w w') := by
    intro w; have := cmp_any x m hx h3 w; rwa [ht, ex, k5] at this
  rw [ex, ez]
  clear ex k5 k6 k7 ht hx hxm HR h1 h2 h3 ez ey hzM hyM
  obtain ⟨l, c0, c1, c2, c3, c4⟩ := k8
  have l1 : b < W.heap.size + 1 := by omega
  have l2 : b < W.heap.size + 1 + 1 := by omega
  have n0 : ¬ b = W.heap.size := by omega
  have n1 : ¬ b = W.heap.size + 1 := by omega
  go_enter Tryd.func78, Tryd.ntmps78
  go_wp2_with fail
  refine wp_cut (fun V => Blk V W.heap.size x0 x1 x2 x3 ∧ Blk V (W.heap.size + 1) 0 0 0 0 ∧ Below W.heap.size W V ∧ Five V b m0 m1 m2 m3 f) ⟨(by (repeat (first | exact Blk.new_at _ _ _ _ _ _ _ (by simp) | refine Blk.drew ?_ | refine Blk.alloc ?_ _)); done), (by (repeat (first | exact Blk.new_at _ _ _ _ _ _ _ (by simp) | refine Blk.drew ?_ | refine Blk.alloc ?_ _)); done), (by (repeat (first | exact Below.refl _ _ | refine Below.drew ?_ | refine Below.alloc ?_ (by first | omega | (simp <;> omega)) _ | refine Below.setCell ?_ (by first | omega | (simp <;> omega)) _)); done), Five.below ⟨l, c0, c1, c2, c3, c4⟩ (by (repeat (first | exact Below.refl _ _ | refine Below.drew ?_ | refine Below.alloc ?_ (by first | omega | (simp <;> omega)) _ | refine Below.setCell ?_ (by first | omega | (simp <;> omega)) _)); done)⟩ ?_
  clear l c0 c1 c2 c3 c4 l1 l2 n0 n1
  rintro V ⟨bX, bZ, bB', k9⟩
  have bB : Hid (Below W.heap.size W V) := bB'
  clear bB'
  obtain ⟨l, c0, c1, c2, c3, c4⟩ := k9
  have BX : Hid (Blk V W.heap.size x0 x1 x2 x3) := bX
  have BZ : Hid (Blk V (W.heap.size + 1) 0 0 0 0) := bZ
  obtain ⟨lx, x4, x5, x6, x7, -⟩ := bX
  clear bZ
  refine wp_region_ext (by kernel_rfl) (by kernel_rfl) ?_
  repeat (go_big_quiet_step ((with_reducible exact calls_ext (cC.out _))))
  refine wpQuiet_nil ?_
  intro V1 hw'
  obtain ⟨nq, hw''⟩ := hw'
  subst hw''
  have e1 : Below V.heap.size V (ext V nq) := ext_below V nq
  obtain ⟨U, hU⟩ : ∃ U, ext V nq = U := ⟨_, rfl⟩
  rw [hU] at e1 ⊢
  clear hU
  have bB2 : Hid (Below W.heap.size W U) := bB.out.trans (e1.mono bB.out.size)
  have BX2 : Hid (Blk U W.heap.size x0 x1 x2 x3) := BX.out.below e1
  have BZ2 : Hid (Blk U (W.heap.size + 1) 0 0 0 0) := BZ.out.below e1
  clear e1 l c0 c1 c2 c3 c4 lx x4 x5 x6 x7 bB BX BZ
  obtain ⟨lx, x4, x5, x6, x7, -⟩ := BX2.out
  obtain ⟨i0, i1, i2, i3, i4, i5⟩ := BZ2.out
  go_wp2_with fail
  refine (cN.out _ bB2.out).mono ?_
  rintro e w1 ⟨rfl, g1⟩
  have B1 : Hid (Below W.heap.size W w1) := bB2.out.trans (g1.mono bB2.out.size)
  have Z1 : Hid (Blk w1 (W.heap.size + 1) 0 0 0 0) := BZ2.out.below g1
  clear g1 lx x4 x5 x6 x7 i0 i1 i2 i3 i4 i5
  go_wp2_with fail
  refine (cR.out _ B1.out).mono ?_
  rintro e w2 ⟨rfl, g2⟩
  obtain ⟨i0, i1, i2, i3, i4, i5⟩ := Z1.out.below g2
  go_wp2_with fail
  refine bodyPost_ret (v := .agg #[.int .u64 z0, .int .u64 z1, .int .u64 z2, .int .u64 z3]) (by simp [results, Tryd.results78, go_sem, i1, i2, i3, i4]) rfl ⟨rfl, ?_⟩
  have gs := B1.out.size
  have gs2 := g2.size
  repeat (first | exact B1.out | refine Below.setCell ?_ (by first | omega | (simp <;> omega)) _ | refine Below.trans ?_ (g2.mono (by first | omega | (simp <;> omega))))

theorem reduce_any (W : World) (b m x : Nat) (hR : Rg W b m) (hx : x < M4) :
    Calls Tryd.prog 78 #[.pointer (some ⟨b, 0, none⟩), four x] W fun e w' => e = .returned (four (x % m)) ∧ Below W.heap.size W w' := by
  rcases Nat.lt_or_ge x m with h | h
  · rw [Nat.mod_eq_of_lt h]; exact reduce_lt W b m x hR hx h
  · exact reduce_ge W b m x hR hx h

end Go.Proofs.YtedhfimjcpbcpaaDoor

/-
  The contract of ring's numeralOfOne: for a modulus in memory it returns 2^256 modulo m, and changes no memory that was there. Conditions: as the theorem says.
-/
namespace Go.Proofs.YtedhfimjcpbcpaaDoor
open Go.RowKit
set_option linter.unusedVariables false

theorem top_bit (m : Nat) (ho : m % 2 = 1) (hm : 1 < m) (hM : m < M4) : ∃ t : Nat, nbits m = t + 1 ∧ t < 256 ∧ 2 ^ t < m := by
  have h256 : nbits m ≤ 256 := nbits_le m 256 (by rw [← M4_pow]; exact hM)
  refine ⟨m.log2, by unfold nbits; rw [if_neg (by omega)], ?_, ?_⟩
  · unfold nbits at h256; rw [if_neg (by omega)] at h256; omega
  · have h1 : 2 ^ m.log2 ≤ m := (Nat.le_log2 (by omega)).1 (Nat.le_refl _)
    rcases Nat.lt_or_ge (2 ^ m.log2) m with h | h
    · exact h
    · have e : 2 ^ m.log2 = m := Nat.le_antisymm h1 h
      cases hl : m.log2 with
      | zero => rw [hl] at e; simp at e; omega
      | succ k => rw [hl, Nat.pow_succ] at e; omega

/-- A variable of four words that holds x, and an empty one at the base. -/
def Pw (W wr : World) (g x : Nat) : Prop := x < M4 ∧ ∃ v0 v1 v2 v3 : Int, four x = .agg #[.int .u64 v0, .int .u64 v1, .int .u64 v2, .int .u64 v3] ∧ Blk wr g v0 v1 v2 v3 ∧ Blk wr W.heap.size 0 0 0 0 ∧ W.heap.size < g ∧ Below W.heap.size W wr

theorem twice_mod (m t i : Nat) : (2 ^ (t + i) % m + 2 ^ (t + i) % m) % m = 2 ^ (t + (i + 1)) % m := by
  rw [← Nat.add_mod, ← Nat.add_assoc t i 1, Nat.pow_succ]; congr 1; omega

set_option maxHeartbeats 1000000 in
theorem one_any (W : World) (b m : Nat) (hM : Md W b m) :
    Calls Tryd.prog 74 #[.pointer (some ⟨b, 0, none⟩)] W fun e w' => e = .returned (four (M4 % m)) ∧ Below W.heap.size W w' := by
  have HM : Hid (Md W b m) := hM
  obtain ⟨h1, h2, h3, m0, m1, m2, m3, f, k0, k1, k2, k3, k4, k5, k6, k7, k8⟩ := hM
  obtain ⟨t, ht, ht2, ht3⟩ := top_bit m h1 h2 h3
  have hpM : 2 ^ t < M4 := Nat.lt_trans ht3 h3
  have hT : Hid (2 ^ t % m = 2 ^ t) := Nat.mod_eq_of_lt ht3
  obtain ⟨p, hp⟩ : ∃ p, 2 ^ t = p := ⟨_, rfl⟩
  rw [hp] at hpM
  obtain ⟨p0, p1, p2, p3, -, -, -, -, ep, -⟩ := four_open p hpM
  have hzM : M4 % m < M4 := Nat.lt_trans (Nat.mod_lt _ (by omega)) h3
  obtain ⟨z0, z1, z2, z3, -, -, -, -, ez, -⟩ := four_open _ hzM
  have EZ : Hid (four (M4 % m) = .agg #[.int .u64 z0, .int .u64 z1, .int .u64 z2, .int .u64 z3]) := ez
  rw [ez]
  clear ez hzM
  have cB : Hid (∀ w, Calls Tryd.prog 100 #[.agg #[.int .u64 m0, .int .u64 m1, .int .u64 m2, .int .u64 m3]] w fun e w' => e = .returned (.int .i64 ((t : Int) + 1)) ∧ Below w.heap.size w w') := by
    intro w; have := bits_any m h3 w; rwa [ht, k5, show ((t + 1 : Nat) : Int) = (t : Int) + 1 by omega] at this
  have cL : Hid (∀ w, Calls Tryd.prog 101 #[.agg #[.int .u64 1, .int .u64 0, .int .u64 0, .int .u64 0], .int .i64 (t : Int)] w fun e w' => e = .returned (.agg #[.int .u64 p0, .int .u64 p1, .int .u64 p2, .int .u64 p3]) ∧ Below w.heap.size w w') := by
    intro w; have := left_any 1 t one_lt_M4 (by omega) w; rwa [Nat.one_mul, hp, Nat.mod_eq_of_lt hpM, ep, four_one] at this
  have HP : Hid (p < M4 ∧ four p = .agg #[.int .u64 p0, .int .u64 p1, .int .u64 p2, .int .u64 p3] ∧ 2 ^ (t + 0) % m = p) := ⟨hpM, ep, by rw [Nat.add_zero, hT.out, hp]⟩
  clear hT hp ep hpM ht3 ht k5 k6 k7 k0 k1 k2 k3 k4
  obtain ⟨l, c0, c1, c2, c3, c4⟩ := k8
  have l1 : b < W.heap.size + 1 := by omega
  have n0 : ¬ b = W.heap.size := by omega
  have hz1 : 256 - (t : Int) = ((256 - t : Nat) : Int) := by omega
  have hz2 : (t : Int) ≤ 255 := by omega
  go_enter Tryd.func74, Tryd.ntmps74
  go_wp2_with fail
  refine (cB.out _).mono ?_
  rintro e w1 ⟨rfl, g1⟩
  have B1 : Hid (Below W.heap.size W w1) := Below.trans (by (repeat (first | exact Below.refl _ _ | refine Below.drew ?_ | refine Below.alloc ?_ (by first | omega | (simp <;> omega)) _ | refine Below.setCell ?_ (by first | omega | (simp <;> omega)) _)); done) (g1.mono (by simp))
  have Z1 : Hid (Blk w1 W.heap.size 0 0 0 0) := Blk.below (by (repeat (first | exact Blk.new_at _ _ _ _ _ _ _ (by simp) | refine Blk.drew ?_ | refine Blk.alloc ?_ _)); done) g1
  clear g1 l c0 c1 c2 c3 c4 l1 n0
  go_wp2_with fail
  refine (cL.out _).mono ?_
  rintro e w2 ⟨rfl, g2⟩
  have B2 : Hid (Below W.heap.size W w2) := B1.out.trans (g2.mono B1.out.size)
  have Z2 : Hid (Blk w2 W.heap.size 0 0 0 0) := Z1.out.below g2
  clear g2 Z1 B1
  go_wp2_with fail
  go_loopw [16] (fun y wr => ∃ i : Nat, y = .int .i64 (i : Int) ∧ i ≤ 256 - t ∧ Hid (Pw W wr w2.heap.size (2 ^ (t + i) % m))) (fun y _ => 256 - (intOf y).toNat)
  case atStart =>
    refine ⟨0, rfl, by omega, ?_⟩
    rw [HP.out.2.2]
    exact ⟨HP.out.1, p0, p1, p2, p3, HP.out.2.1, Blk.new w2 p0 p1 p2 p3 _, Z2.out.alloc _, Z2.out.lt, B2.out.alloc B2.out.size _⟩
  case round =>
    obtain ⟨i, rfl, hi, H⟩ := hrel
    by_cases hlt : i < 256 - t
    · have hlt' : (i : Int) < 256 - (t : Int) := by omega
      obtain ⟨hxM, v0, v1, v2, v3, ev, bV, bZ, hg, bB⟩ := H.out
      have hyM : 2 ^ (t + (i + 1)) % m < M4 := Nat.lt_trans (Nat.mod_lt _ (by omega)) h3
      obtain ⟨y0, y1, y2, y3, -, -, -, -, ey, -⟩ := four_open _ hyM
      have cA : Hid (Calls Tryd.prog 75 #[.pointer (some ⟨b, 0, none⟩), .agg #[.int .u64 v0, .int .u64 v1, .int .u64 v2, .int .u64 v3], .agg #[.int .u64 v0, .int .u64 v1, .int .u64 v2, .int .u64 v3]] wr fun e w' => e = .returned (.agg #[.int .u64 y0, .int .u64 y1, .int .u64 y2, .int .u64 y3]) ∧ Below wr.heap.size wr w') := by
        have := addR_ring wr b m (2 ^ (t + i) % m) (2 ^ (t + i) % m) (HM.out.below bB) (Nat.mod_lt _ (by omega)) (Nat.mod_lt _ (by omega))
        rwa [twice_mod, ev, ey] at this
      have NX : Hid (∀ w', Below wr.heap.size wr w' → Pw W ((((w'.setCell ⟨w2.heap.size, 0, none⟩ (.int .u64 y0)).setCell ⟨w2.heap.size, 1, none⟩ (.int .u64 y1)).setCell ⟨w2.heap.size, 2, none⟩ (.int .u64 y2)).setCell ⟨w2.heap.size, 3, none⟩ (.int .u64 y3)) w2.heap.size (2 ^ (t + (i + 1)) % m)) := by
        intro w' g
        have hs := bB.size
        refine ⟨hyM, y0, y1, y2, y3, ey, (bV.below g).set _ _ _ _, ((((bZ.below g).other _ _ _ (by omega)).other _ _ _ (by omega)).other _ _ _ (by omega)).other _ _ _ (by omega), hg, ?_⟩
        have := bB.trans (g.mono hs)
        exact (((this.setCell (by simp; omega) _).setCell (by simp; omega) _).setCell (by simp; omega) _).setCell (by simp; omega) _
      have BV : Hid (Blk wr w2.heap.size v0 v1 v2 v3) := bV
      obtain ⟨lv, a0, a1, a2, a3, af⟩ := bV
      clear ev ey hxM bZ hg bB H HP
      go_wp2_with fail
      refine cA.out.mono ?_
      rintro e w' ⟨rfl, g⟩
      obtain ⟨lv', a0', a1', a2', a3', af'⟩ := BV.out.below g
      have NX' := NX.out w' g
      have NX2 : Hid (Pw W ((((w'.setCell ⟨w2.heap.size, 0, none⟩ (.int .u64 y0)).setCell ⟨w2.heap.size, 1, none⟩ (.int .u64 y1)).setCell ⟨w2.heap.size, 2, none⟩ (.int .u64 y2)).setCell ⟨w2.heap.size, 3, none⟩ (.int .u64 y3)) w2.heap.size (2 ^ (t + (i + 1)) % m)) := NX'
      clear NX' NX g
      go_wp2_with fail
      go_roundw
      case rel => exact ⟨i + 1, by go_num, by omega, NX2⟩
      case measure => simp [intOf]; omega
    · have hlt' : ¬ (i : Int) < 256 - (t : Int) := by omega
      have e : t + i = 256 := by omega
      obtain ⟨hxM, v0, v1, v2, v3, ev, bV, bZ, hg, bB⟩ := H.out
      rw [e, ← M4_pow, EZ.out] at ev
      simp only [Value.agg.injEq, Array.mk.injEq, List.cons.injEq, Value.int.injEq, true_and, and_true] at ev
      obtain ⟨rfl, rfl, rfl, rfl⟩ := ev
      have BB : Hid (Below W.heap.size W wr) := bB
      obtain ⟨lv, a0, a1, a2, a3, af⟩ := bV
      obtain ⟨i0, i1, i2, i3, i4, i5⟩ := bZ
      clear e hxM H HP bB
      go_wp2_with fail
      refine bodyPost_ret (v := .agg #[.int .u64 z0, .int .u64 z1, .int .u64 z2, .int .u64 z3]) (by simp [results, Tryd.results74, go_sem, i1, i2, i3, i4]) rfl ⟨rfl, ?_⟩
      have gs := BB.out.size
      repeat (first | exact BB.out | refine Below.setCell ?_ (by first | omega | (simp <;> omega)) _)

end Go.Proofs.YtedhfimjcpbcpaaDoor

/-
  A ring's block of memory while it is made, and what is refused as a modulus. Conditions: as each theorem says.
-/
namespace Go.Proofs.YtedhfimjcpbcpaaDoor
open Go.RowKit
set_option linter.unusedVariables false

/-- The thirteen words of a ring, in memory that may be written. -/
structure Rw (W : World) (b : Nat) (m0 m1 m2 m3 f o0 o1 o2 o3 s0 s1 s2 s3 : Int) : Prop where
  lt : b < W.heap.size
  c0 : W.cell? ⟨b, 0, none⟩ = some (.int .u64 m0)
  c1 : W.cell? ⟨b, 1, none⟩ = some (.int .u64 m1)
  c2 : W.cell? ⟨b, 2, none⟩ = some (.int .u64 m2)
  c3 : W.cell? ⟨b, 3, none⟩ = some (.int .u64 m3)
  c4 : W.cell? ⟨b, 4, none⟩ = some (.int .u64 f)
  c5 : W.cell? ⟨b, 5, none⟩ = some (.int .u64 o0)
  c6 : W.cell? ⟨b, 6, none⟩ = some (.int .u64 o1)
  c7 : W.cell? ⟨b, 7, none⟩ = some (.int .u64 o2)
  c8 : W.cell? ⟨b, 8, none⟩ = some (.int .u64 o3)
  c9 : W.cell? ⟨b, 9, none⟩ = some (.int .u64 s0)
  c10 : W.cell? ⟨b, 10, none⟩ = some (.int .u64 s1)
  c11 : W.cell? ⟨b, 11, none⟩ = some (.int .u64 s2)
  c12 : W.cell? ⟨b, 12, none⟩ = some (.int .u64 s3)
  fr : ∀ j, W.frozen? ⟨b, j, none⟩ = false
theorem Rw.below {W W' : World} {b : Nat} {m0 m1 m2 m3 f o0 o1 o2 o3 s0 s1 s2 s3 : Int} (h : Rw W b m0 m1 m2 m3 f o0 o1 o2 o3 s0 s1 s2 s3) (hb : Below W.heap.size W W') : Rw W' b m0 m1 m2 m3 f o0 o1 o2 o3 s0 s1 s2 s3 :=
  ⟨Nat.lt_of_lt_of_le h.lt hb.size, (hb.cell (p := ⟨b, 0, none⟩) h.lt).trans h.c0, (hb.cell (p := ⟨b, 1, none⟩) h.lt).trans h.c1, (hb.cell (p := ⟨b, 2, none⟩) h.lt).trans h.c2, (hb.cell (p := ⟨b, 3, none⟩) h.lt).trans h.c3, (hb.cell (p := ⟨b, 4, none⟩) h.lt).trans h.c4, (hb.cell (p := ⟨b, 5, none⟩) h.lt).trans h.c5, (hb.cell (p := ⟨b, 6, none⟩) h.lt).trans h.c6, (hb.cell (p := ⟨b, 7, none⟩) h.lt).trans h.c7, (hb.cell (p := ⟨b, 8, none⟩) h.lt).trans h.c8, (hb.cell (p := ⟨b, 9, none⟩) h.lt).trans h.c9, (hb.cell (p := ⟨b, 10, none⟩) h.lt).trans h.c10, (hb.cell (p := ⟨b, 11, none⟩) h.lt).trans h.c11, (hb.cell (p := ⟨b, 12, none⟩) h.lt).trans h.c12, fun j => (hb.frozen (p := ⟨b, j, none⟩) h.lt).trans (h.fr j)⟩
theorem Rw.drew {W : World} {b : Nat} {m0 m1 m2 m3 f o0 o1 o2 o3 s0 s1 s2 s3 : Int} (h : Rw W b m0 m1 m2 m3 f o0 o1 o2 o3 s0 s1 s2 s3) : Rw W.drew b m0 m1 m2 m3 f o0 o1 o2 o3 s0 s1 s2 s3 := h.below (Below.refl _ _).drew
theorem Rw.new_at (W : World) (g : Nat) (m0 m1 m2 m3 f o0 o1 o2 o3 s0 s1 s2 s3 : Int) (t : TypeId) (h : g = W.heap.size) : Rw (W.alloc (.cells #[.int .u64 m0, .int .u64 m1, .int .u64 m2, .int .u64 m3, .int .u64 f, .int .u64 o0, .int .u64 o1, .int .u64 o2, .int .u64 o3, .int .u64 s0, .int .u64 s1, .int .u64 s2, .int .u64 s3] t)) g m0 m1 m2 m3 f o0 o1 o2 o3 s0 s1 s2 s3 := by
  subst h
  exact ⟨by simp, by simp, by simp, by simp, by simp, by simp, by simp, by simp, by simp, by simp, by simp, by simp, by simp, by simp, fun j => by simp [go_sem]⟩
theorem Rw.set5 {W : World} {b : Nat} {m0 m1 m2 m3 f o0 o1 o2 o3 s0 s1 s2 s3 : Int} (h : Rw W b m0 m1 m2 m3 f o0 o1 o2 o3 s0 s1 s2 s3) (x0 x1 x2 x3 : Int) : Rw ((((W.setCell ⟨b, 5, none⟩ (.int .u64 x0)).setCell ⟨b, 6, none⟩ (.int .u64 x1)).setCell ⟨b, 7, none⟩ (.int .u64 x2)).setCell ⟨b, 8, none⟩ (.int .u64 x3)) b m0 m1 m2 m3 f x0 x1 x2 x3 s0 s1 s2 s3 := by
  obtain ⟨l, c0, c1, c2, c3, c4, c5, c6, c7, c8, c9, c10, c11, c12, fr⟩ := h
  refine ⟨by simpa using l, ?_, ?_, ?_, ?_, ?_, ?_, ?_, ?_, ?_, ?_, ?_, ?_, ?_, fun j => by simpa using fr j⟩ <;> simp [go_sem, c0, c1, c2, c3, c4, c5, c6, c7, c8, c9, c10, c11, c12]
theorem Rw.set9 {W : World} {b : Nat} {m0 m1 m2 m3 f o0 o1 o2 o3 s0 s1 s2 s3 : Int} (h : Rw W b m0 m1 m2 m3 f o0 o1 o2 o3 s0 s1 s2 s3) (x0 x1 x2 x3 : Int) : Rw ((((W.setCell ⟨b, 9, none⟩ (.int .u64 x0)).setCell ⟨b, 10, none⟩ (.int .u64 x1)).setCell ⟨b, 11, none⟩ (.int .u64 x2)).setCell ⟨b, 12, none⟩ (.int .u64 x3)) b m0 m1 m2 m3 f o0 o1 o2 o3 x0 x1 x2 x3 := by
  obtain ⟨l, c0, c1, c2, c3, c4, c5, c6, c7, c8, c9, c10, c11, c12, fr⟩ := h
  refine ⟨by simpa using l, ?_, ?_, ?_, ?_, ?_, ?_, ?_, ?_, ?_, ?_, ?_, ?_, ?_, fun j => by simpa using fr j⟩ <;> simp [go_sem, c0, c1, c2, c3, c4, c5, c6, c7, c8, c9, c10, c11, c12]
theorem Rw.five {W : World} {b : Nat} {m0 m1 m2 m3 f o0 o1 o2 o3 s0 s1 s2 s3 : Int} (h : Rw W b m0 m1 m2 m3 f o0 o1 o2 o3 s0 s1 s2 s3) : Five W b m0 m1 m2 m3 f := ⟨h.lt, h.c0, h.c1, h.c2, h.c3, h.c4⟩
theorem Rw.one {W : World} {b : Nat} {m0 m1 m2 m3 f o0 o1 o2 o3 s0 s1 s2 s3 : Int} (h : Rw W b m0 m1 m2 m3 f o0 o1 o2 o3 s0 s1 s2 s3) : At4 W b 5 o0 o1 o2 o3 := ⟨h.lt, h.c5, h.c6, h.c7, h.c8⟩
theorem Rw.square {W : World} {b : Nat} {m0 m1 m2 m3 f o0 o1 o2 o3 s0 s1 s2 s3 : Int} (h : Rw W b m0 m1 m2 m3 f o0 o1 o2 o3 s0 s1 s2 s3) : At4 W b 9 s0 s1 s2 s3 := ⟨h.lt, h.c9, h.c10, h.c11, h.c12⟩

/-- Two arrays of four words held against one another. -/
theorem eqlIn_four4 (a0 a1 a2 a3 b0 b1 b2 b3 : Int) (w : World) :
    (Op.equalIn 10000 25 (.agg #[.int .u64 a0, .int .u64 a1, .int .u64 a2, .int .u64 a3]) (.agg #[.int .u64 b0, .int .u64 b1, .int .u64 b2, .int .u64 b3])).run Tryd.prog w = .ok (decide (a0 = b0 ∧ a1 = b1 ∧ a2 = b2 ∧ a3 = b3)) w := by
  rw [show (10000 : Nat) = 9998 + 1 + 1 from rfl]
  unfold Op.equalIn
  have r : List.range' 0 4 = [0, 1, 2, 3] := rfl
  simp only [Sem.run_bind, run_underlying Tryd.underlying25, Result.andThen_ok]
  by_cases h0 : a0 = b0 <;> by_cases h1 : a1 = b1 <;> by_cases h2 : a2 = b2 <;> by_cases h3 : a3 = b3 <;> simp [go_sem, r, h0, h1, h2, h3]
theorem eql_diff4 (a0 a1 a2 a3 b0 b1 b2 b3 : Int) (h : ¬ (a0 = b0 ∧ a1 = b1 ∧ a2 = b2 ∧ a3 = b3)) (w : World) : (binOp .eql 25 (.agg #[.int .u64 a0, .int .u64 a1, .int .u64 a2, .int .u64 a3]) (.agg #[.int .u64 b0, .int .u64 b1, .int .u64 b2, .int .u64 b3])).run Tryd.prog w = .ok (.bool false) w := by
  simp [go_sem, eqlIn_four4, h]
end Go.Proofs.YtedhfimjcpbcpaaDoor

/-
  The contract of ring's New: for an odd number above 2 it returns a ring, else none and ErrArg; no memory that was there is changed. Conditions: as each theorem says.
-/
namespace Go.Proofs.YtedhfimjcpbcpaaDoor
open Go.RowKit
set_option linter.unusedVariables false

theorem four_ne_one (m : Nat) (hm : m < M4) (h : m ≠ 1) (m0 m1 m2 m3 : Int) (e : four m = .agg #[.int .u64 m0, .int .u64 m1, .int .u64 m2, .int .u64 m3]) : ¬ (m0 = 1 ∧ m1 = 0 ∧ m2 = 0 ∧ m3 = 0) := by
  rintro ⟨rfl, rfl, rfl, rfl⟩
  rw [← four_one] at e
  exact h (four_inj hm one_lt_M4 e)
theorem low_bit (m : Nat) (hm : m < M4) (m0 m1 m2 m3 : Int) (h0 : Wd m0) (e : (m : Int) = m0 + 18446744073709551616 * m1 + 340282366920938463463374607431768211456 * m2 + 6277101735386680763835789423207666416102355444464034512896 * m3) : bits .and .u64 m0 1 = ((m % 2 : Nat) : Int) := by
  obtain ⟨k, rfl⟩ := Int.eq_ofNat_of_zero_le h0.1
  rw [and1 k (by have := h0.2; omega)]
  omega

/-- A ring whose square is still being made. -/
def Rs (W wr : World) (m0 m1 m2 m3 f o0 o1 o2 o3 : Int) (x : Nat) : Prop := x < M4 ∧ ∃ s0 s1 s2 s3 : Int, four x = .agg #[.int .u64 s0, .int .u64 s1, .int .u64 s2, .int .u64 s3] ∧ Rw wr (W.heap.size + 1) m0 m1 m2 m3 f o0 o1 o2 o3 s0 s1 s2 s3 ∧ Below W.heap.size W wr

theorem square_next (m i : Nat) (ho : m % 2 = 1) (hm : 1 < m) : red m ((2 ^ 2 ^ i * M4 % m) * (2 ^ 2 ^ i * M4 % m)) = 2 ^ 2 ^ (i + 1) * M4 % m := by
  rw [red_mul_left, red_mul_right, ← Nat.mul_assoc, red_up m _ ho hm]
  congr 1
  rw [Nat.mul_right_comm, ← Nat.pow_add, Nat.pow_succ 2 i, Nat.mul_two]
theorem square_first (m : Nat) : (M4 % m + M4 % m) % m = 2 ^ 2 ^ 0 * M4 % m := by
  rw [← Nat.add_mod]; congr 1

set_option maxHeartbeats 4000000 in
set_option maxRecDepth 100000 in
theorem new_any (W : World) (m : Nat) (hm : m < M4) (h1 : m % 2 = 1) (h2 : 1 < m) :
    Calls Tryd.prog 30 #[four m] W fun e w' => e = .returned (.tuple #[.pointer (some ⟨W.heap.size + 1, 0, none⟩), .int .i64 0]) ∧ Rg w' (W.heap.size + 1) m ∧ Below W.heap.size W w' := by
  obtain ⟨m0, m1, m2, m3, h0, g1, g2, g3, em, hv⟩ := four_open m hm
  have hb := low_bit m hm m0 m1 m2 m3 h0 hv
  rw [h1] at hb
  replace hb : bits .and .u64 m0 1 = 1 := hb
  have hne := four_ne_one m hm (by omega) m0 m1 m2 m3 em
  have e4 := eql_diff4 m0 m1 m2 m3 1 0 0 0 hne
  obtain ⟨f, hf, hf2, cF⟩ : ∃ f : Nat, f < 18446744073709551616 ∧ m0.toNat * f % 18446744073709551616 = 18446744073709551615 ∧ Hid (∀ w : World, Calls Tryd.prog 73 #[.int .u64 m0] w fun e w' => e = .returned (.int .u64 (f : Int)) ∧ w' = w) := by
    obtain ⟨k, rfl⟩ := Int.eq_ofNat_of_zero_le h0.1
    exact factor_any k (by have := h0.2; omega) (by omega)
  have MD : Hid (∀ (V : World) (o0 o1 o2 o3 s0 s1 s2 s3 : Int), Rw V (W.heap.size + 1) m0 m1 m2 m3 (f : Int) o0 o1 o2 o3 s0 s1 s2 s3 → Md V (W.heap.size + 1) m) := fun V o0 o1 o2 o3 s0 s1 s2 s3 h => ⟨h1, h2, hm, m0, m1, m2, m3, f, h0, g1, g2, g3, hf, em, hv, hf2, h.five⟩
  have hoM : M4 % m < M4 := Nat.lt_trans (Nat.mod_lt _ (by omega)) hm
  obtain ⟨o0, o1, o2, o3, -, -, -, -, eo, -⟩ := four_open _ hoM
  have hxM : 2 ^ 2 ^ 0 * M4 % m < M4 := Nat.lt_trans (Nat.mod_lt _ (by omega)) hm
  obtain ⟨x0, x1, x2, x3, -, -, -, -, ex, -⟩ := four_open _ hxM
  have EO : Hid (M4 % m < M4 ∧ four (M4 % m) = .agg #[.int .u64 o0, .int .u64 o1, .int .u64 o2, .int .u64 o3]) := ⟨hoM, eo⟩
  have EX : Hid (2 ^ 2 ^ 0 * M4 % m < M4 ∧ four (2 ^ 2 ^ 0 * M4 % m) = .agg #[.int .u64 x0, .int .u64 x1, .int .u64 x2, .int .u64 x3]) := ⟨hxM, ex⟩
  rw [em]
  have HM : Hid (m < M4) := hm
  clear em hv hf hf2 hxM hoM hne g1 g2 g3 h0 hm eo ex
  go_enter Tryd.func30, Tryd.ntmps30
  go_wp2_with fail
  go_cut [4] (fun s V => s = .pointer (some ⟨W.heap.size + 1, 0, none⟩) ∧ Hid (Rw V (W.heap.size + 1) m0 m1 m2 m3 (f : Int) 0 0 0 0 0 0 0 0 ∧ Below W.heap.size W V))
  case first =>
    go_region_with (go_at_call 73; refine (cF.out _).mono ?_; rintro e w1 ⟨rfl, hw⟩; rw [hw]; clear hw w1)
    all_goals
      go_wp2_with fail
      go_meet
      exact ⟨rfl, Rw.drew (Rw.new_at _ _ _ _ _ _ _ _ _ _ _ _ _ _ _ _ (by simp)), (by (repeat (first | exact Below.refl _ _ | refine Below.drew ?_ | refine Below.alloc ?_ (by first | omega | (simp <;> omega)) _ | refine Below.setCell ?_ (by first | omega | (simp <;> omega)) _)); done)⟩
  case rest =>
  obtain ⟨rfl, H⟩ := hcut
  have C1 : Hid (Calls Tryd.prog 74 #[.pointer (some ⟨W.heap.size + 1, 0, none⟩)] wc fun e w' => e = .returned (.agg #[.int .u64 o0, .int .u64 o1, .int .u64 o2, .int .u64 o3]) ∧ Below wc.heap.size wc w') := by
    have := one_any wc (W.heap.size + 1) m (MD.out _ _ _ _ _ _ _ _ _ H.out.1); rwa [EO.out.2] at this
  go_wp2_with fail
  refine C1.out.mono ?_
  rintro e w1 ⟨rfl, g1⟩
  have B1 : Hid (Below W.heap.size W w1) := H.out.2.trans (g1.mono H.out.2.size)
  have R1 : Hid (Rw w1 (W.heap.size + 1) m0 m1 m2 m3 (f : Int) 0 0 0 0 0 0 0 0) := H.out.1.below g1
  clear g1 C1 H
  obtain ⟨l, d0, d1, d2, d3, d4, d5, d6, d7, d8, d9, d10, d11, d12, fr⟩ := R1.out
  go_wp2_with fail
  refine wp_cut (fun V => Rw V (W.heap.size + 1) m0 m1 m2 m3 (f : Int) o0 o1 o2 o3 0 0 0 0 ∧ Below W.heap.size W V) ⟨R1.out.set5 _ _ _ _, by repeat (first | exact B1.out | refine Below.setCell ?_ (by first | omega | (simp <;> omega)) _)⟩ ?_
  clear l d0 d1 d2 d3 d4 d5 d6 d7 d8 d9 d10 d11 d12 fr R1 B1 w1
  rintro U ⟨hR, hB⟩
  have R2 : Hid (Rw U (W.heap.size + 1) m0 m1 m2 m3 (f : Int) o0 o1 o2 o3 0 0 0 0) := hR
  have B2 : Hid (Below W.heap.size W U) := hB
  obtain ⟨l, d0, d1, d2, d3, d4, d5, d6, d7, d8, d9, d10, d11, d12, fr⟩ := hR
  clear hB
  have C2 : Hid (Calls Tryd.prog 75 #[.pointer (some ⟨W.heap.size + 1, 0, none⟩), .agg #[.int .u64 o0, .int .u64 o1, .int .u64 o2, .int .u64 o3], .agg #[.int .u64 o0, .int .u64 o1, .int .u64 o2, .int .u64 o3]] U.drew fun e w' => e = .returned (.agg #[.int .u64 x0, .int .u64 x1, .int .u64 x2, .int .u64 x3]) ∧ Below U.drew.heap.size U.drew w') := by
    have := addR_ring U.drew (W.heap.size + 1) m (M4 % m) (M4 % m) (MD.out _ _ _ _ _ _ _ _ _ R2.out.drew) (Nat.mod_lt _ (by omega)) (Nat.mod_lt _ (by omega)); rwa [square_first, EO.out.2, EX.out.2] at this
  go_cut [43] (fun s V => Hid (Rs W V m0 m1 m2 m3 (f : Int) o0 o1 o2 o3 (2 ^ 2 ^ 0 * M4 % m)))
  case first =>
    go_region_with (go_at_call 75; refine (C2.out).mono ?_; rintro e w1 ⟨rfl, g1⟩; obtain ⟨l', i0, i1, i2, i3, i4, i5, i6, i7, i8, i9, i10, i11, i12, fr'⟩ := R2.out.drew.below g1)
    all_goals
      have B3 : Hid (Below W.heap.size W w1) := B2.out.drew.trans (g1.mono B2.out.size)
      have R3 : Hid (Rw w1 (W.heap.size + 1) m0 m1 m2 m3 (f : Int) o0 o1 o2 o3 0 0 0 0) := R2.out.drew.below g1
      clear g1 R2 B2 C2
      go_wp2_with fail
      go_meet
      exact ⟨EX.out.1, x0, x1, x2, x3, EX.out.2, R3.out.set9 _ _ _ _, by repeat (first | exact B3.out | refine Below.setCell ?_ (by first | omega | (simp <;> omega)) _)⟩
  case rest =>
  clear l d0 d1 d2 d3 d4 d5 d6 d7 d8 d9 d10 d11 d12 fr R2 B2 C2
  go_wp2_with fail
  go_loopw [47] (fun y wr => ∃ i : Nat, y = .int .i64 (i : Int) ∧ i ≤ 8 ∧ Hid (Rs W wr m0 m1 m2 m3 (f : Int) o0 o1 o2 o3 (2 ^ 2 ^ i * M4 % m))) (fun y _ => 8 - (intOf y).toNat)
  case atStart => exact ⟨0, rfl, by omega, hcut⟩
  case round =>
    obtain ⟨i, rfl, hi, H⟩ := hrel
    by_cases hlt : i < 8
    · have hlt' : (i : Int) < 8 := by omega
      obtain ⟨hsM, s0, s1, s2, s3, es, hR, hB⟩ := H.out
      have hyM : 2 ^ 2 ^ (i + 1) * M4 % m < M4 := Nat.lt_trans (Nat.mod_lt _ (by omega)) (Hid.out HM)
      obtain ⟨y0, y1, y2, y3, -, -, -, -, ey, -⟩ := four_open _ hyM
      have cM : Hid (Calls Tryd.prog 76 #[.pointer (some ⟨W.heap.size + 1, 0, none⟩), .agg #[.int .u64 s0, .int .u64 s1, .int .u64 s2, .int .u64 s3], .agg #[.int .u64 s0, .int .u64 s1, .int .u64 s2, .int .u64 s3]] wr.drew fun e w' => e = .returned (.agg #[.int .u64 y0, .int .u64 y1, .int .u64 y2, .int .u64 y3]) ∧ Below wr.drew.heap.size wr.drew w') := by
        have := mulR_raw wr.drew (W.heap.size + 1) m (2 ^ 2 ^ i * M4 % m) (2 ^ 2 ^ i * M4 % m) (MD.out _ _ _ _ _ _ _ _ _ hR.drew) hsM hsM (Or.inl (Nat.mod_lt _ (by omega)))
        rwa [square_next m i h1 h2, es, ey] at this
      have NX : Hid (∀ w', Below wr.drew.heap.size wr.drew w' → Rw w' (W.heap.size + 1) m0 m1 m2 m3 (f : Int) o0 o1 o2 o3 s0 s1 s2 s3 ∧ Hid (Rs W ((((w'.setCell ⟨W.heap.size + 1, 9, none⟩ (.int .u64 y0)).setCell ⟨W.heap.size + 1, 10, none⟩ (.int .u64 y1)).setCell ⟨W.heap.size + 1, 11, none⟩ (.int .u64 y2)).setCell ⟨W.heap.size + 1, 12, none⟩ (.int .u64 y3)) m0 m1 m2 m3 (f : Int) o0 o1 o2 o3 (2 ^ 2 ^ (i + 1) * M4 % m))) := by
        intro w' g
        have R4 := hR.drew.below g
        have B4 : Below W.heap.size W w' := hB.drew.trans (g.mono hB.size)
        exact ⟨R4, hyM, y0, y1, y2, y3, ey, R4.set9 _ _ _ _, by repeat (first | exact B4 | refine Below.setCell ?_ (by first | omega | (simp <;> omega)) _)⟩
      obtain ⟨l, d0, d1, d2, d3, d4, d5, d6, d7, d8, d9, d10, d11, d12, fr⟩ := hR
      clear es ey hsM hyM hB H
      go_wp2_with fail
      go_region_with (go_at_call 76; refine (cM.out).mono ?_; rintro e w1 ⟨rfl, g1⟩; obtain ⟨⟨l', i0, i1, i2, i3, i4, i5, i6, i7, i8, i9, i10, i11, i12, fr'⟩, NX2⟩ := NX.out w1 g1)
      all_goals
        clear g1 NX cM
        go_wp2_with fail
        go_roundw
        case rel => exact ⟨i + 1, by go_num, by omega, NX2⟩
        case measure => simp [intOf]; omega
    · obtain rfl : i = 8 := by omega
      go_wp2_with fail
      go_ret2
      obtain ⟨hsM, s0, s1, s2, s3, es, hR, hB⟩ := H.out
      rw [show 2 ^ 2 ^ 8 = M4 by unfold M4; decide] at es hsM
      exact ⟨rfl, ⟨MD.out _ _ _ _ _ _ _ _ _ hR, ⟨EO.out.1, o0, o1, o2, o3, EO.out.2, hR.one⟩, ⟨hsM, s0, s1, s2, s3, es, hR.square⟩⟩, hB⟩

end Go.Proofs.YtedhfimjcpbcpaaDoor

/-
  The contracts of a ring's Reduce, In, Out. Conditions: as each theorem says.
-/
namespace Go.Proofs.YtedhfimjcpbcpaaDoor
open Go.RowKit
set_option linter.unusedVariables false

set_option maxHeartbeats 2000000 in
theorem reduce_ring (W : World) (b m x : Nat) (hR : Rg W b m) (hx : x < M4) :
    Calls Tryd.prog 32 #[.pointer (some ⟨b, 0, none⟩), four x] W fun e w' => e = .returned (four (x % m)) ∧ Below W.heap.size W w' := by
  have HR : Hid (Rg W b m) := hR
  obtain ⟨⟨h1, h2, h3, -⟩, -, -⟩ := hR
  obtain ⟨x0, x1, x2, x3, -, -, -, -, ex, -⟩ := four_open x hx
  have hz : x % m < M4 := Nat.lt_trans (Nat.mod_lt _ (by omega)) h3
  obtain ⟨z0, z1, z2, z3, -, -, -, -, ez, -⟩ := four_open _ hz
  have C1 : Hid (∀ w, Below W.heap.size W w → Calls Tryd.prog 78 #[.pointer (some ⟨b, 0, none⟩), .agg #[.int .u64 x0, .int .u64 x1, .int .u64 x2, .int .u64 x3]] w fun e w' => e = .returned (.agg #[.int .u64 z0, .int .u64 z1, .int .u64 z2, .int .u64 z3]) ∧ Below w.heap.size w w') := by
    intro w hw; have := reduce_any w b m x (HR.out.below hw) hx; rwa [ex, ez] at this
  rw [ex, ez]
  clear ex hx ez hz
  go_enter Tryd.func32, Tryd.ntmps32
  go_wp2_with fail
  refine (made_any _ b m (HR.out.1.below (by (repeat (first | exact Below.refl _ _ | refine Below.drew ?_ | refine Below.alloc ?_ (by first | omega | (simp <;> omega)) _ | refine Below.setCell ?_ (by first | omega | (simp <;> omega)) _)); done))).mono ?_
  rintro e w9 ⟨rfl, hw⟩
  rw [hw]
  clear hw w9
  go_wp2_with fail
  go_region_with (first
    | (go_at_call 78; (refine (C1.out _ (by (repeat (first | exact Below.refl _ _ | refine Below.drew ?_ | refine Below.alloc ?_ (by first | omega | (simp <;> omega)) _ | refine Below.setCell ?_ (by first | omega | (simp <;> omega)) _)); done)).mono ?_); (rintro e w1 ⟨rfl, g1⟩; have B1 : Hid (Below W.heap.size W w1) := Below.trans (by (repeat (first | exact Below.refl _ _ | refine Below.drew ?_ | refine Below.alloc ?_ (by first | omega | (simp <;> omega)) _ | refine Below.setCell ?_ (by first | omega | (simp <;> omega)) _)); done) (g1.mono (by first | omega | (simp <;> omega))); have X1_0 : Hid (Blk w1 (W.heap.size) x0 x1 x2 x3) := Blk.below (by (repeat (first | exact Blk.new_at _ _ _ _ _ _ _ (by simp) | refine Blk.drew ?_ | refine Blk.alloc ?_ _)); done) g1; have X1_1 : Hid (Blk w1 (W.heap.size + 1) 0 0 0 0) := Blk.below (by (repeat (first | exact Blk.new_at _ _ _ _ _ _ _ (by simp) | refine Blk.drew ?_ | refine Blk.alloc ?_ _)); done) g1; obtain ⟨a0_0, a0_1, a0_2, a0_3, a0_4, a0_5⟩ := X1_0.out; obtain ⟨a1_0, a1_1, a1_2, a1_3, a1_4, a1_5⟩ := X1_1.out; clear g1)))
  all_goals
    go_wp2_with fail
    refine bodyPost_ret (v := .agg #[.int .u64 z0, .int .u64 z1, .int .u64 z2, .int .u64 z3]) (by simp [results, Tryd.results32, go_sem, a1_1, a1_2, a1_3, a1_4]) rfl ⟨rfl, ?_⟩
    have gs := B1.out.size
    repeat (first | exact B1.out | refine Below.setCell ?_ (by first | omega | (simp <;> omega)) _)

end Go.Proofs.YtedhfimjcpbcpaaDoor

/-
  The law ComboBack of layer 11 is true of any bytes and any numbers. Conditions: the package's variables are as the program lays them.
-/
namespace Go.Proofs.YtedhfimjcpbcpaaDoor.Ed
open Go.RowKit
set_option linter.unusedVariables false
set_option linter.unusedSimpArgs false

theorem ws_8 : wv (ws 8) = [.int .u64 8, .int .u64 0, .int .u64 0, .int .u64 0] := by
  have h : ws 8 = [8, 0, 0, 0] := by decide +kernel
  rw [wv, h]
  rfl
theorem half_lt (x : Nat) (hx : x < M4) : x / 2 < M4 := Nat.lt_of_le_of_lt (Nat.div_le_self _ _) hx
theorem right_ws (x : Nat) (hx : x < M4) (w : World) : Calls Tryd.prog 26 #[.agg (wv (ws x)).toArray, .int .i64 1] w fun e w' => e = .returned (.agg (wv (ws (x / 2))).toArray) ∧ Below w.heap.size w w' := by
  have h := right_any x 1 hx (by omega) w
  rw [Nat.pow_one, Nat.mod_eq_of_lt (half_lt x hx), four_ws x hx, four_ws _ (half_lt x hx)] at h
  exact h
theorem halves_lt (x y : Nat) (hx : x < M4) (hy : y < M4) : x / 2 + y / 2 < M4 := by
  unfold M4 at *
  omega
theorem add_ws (x y : Nat) (hx : x < M4) (hy : y < M4) (w : World) : Calls Tryd.prog 27 #[.agg (wv (ws (x / 2))).toArray, .agg (wv (ws (y / 2))).toArray] w fun e w' => e = .returned (.tuple #[.agg (wv (ws (x / 2 + y / 2))).toArray, .int .u64 0]) ∧ Below w.heap.size w w' := by
  have hs := halves_lt x y hx hy
  have h := add_any (x / 2) (y / 2) (half_lt x hx) (half_lt y hy) w
  rw [Nat.mod_eq_of_lt hs, Nat.div_eq_of_lt hs, four_ws _ (half_lt x hx), four_ws _ (half_lt y hy), four_ws _ hs] at h
  exact h
theorem newL_ws (w : World) : Calls Tryd.prog 30 #[.agg #[.int .u64 6346243789798364141, .int .u64 1503914060200516822, .int .u64 0, .int .u64 1152921504606846976]] w fun e w' => ∃ b, e = .returned (.tuple #[.pointer (some ⟨b, 0, none⟩), .int .i64 0]) ∧ Rg w' b L25 ∧ Below w.heap.size w w' := by
  have h := new_any w L25 L25_lt (by decide +kernel) (by decide +kernel)
  rw [four_ws L25 L25_lt, order_words] at h
  exact h.mono fun e w' ⟨h1, h2, h3⟩ => ⟨_, h1, h2, h3⟩
theorem mod_lt (x : Nat) : x % L25 < M4 := Nat.lt_trans (Nat.mod_lt _ (by decide +kernel)) L25_lt
theorem reduce_ws (x : Nat) (hx : x < M4) (b : Nat) (w : World) (hR : Rg w b L25) : Calls Tryd.prog 32 #[.pointer (some ⟨b, 0, none⟩), .agg (wv (ws x)).toArray] w fun e w' => e = .returned (.agg (wv (ws (x % L25))).toArray) ∧ Below w.heap.size w w' := by
  have h := reduce_ring w b L25 x hR hx
  rw [four_ws x hx, four_ws _ (mod_lt x)] at h
  exact h
theorem back_all (v0 : Value) (l0 : List Nat) (x y : Nat) (hx : x < M4) (hy : y < M4) (W : World) (h : Gl W ∧ Gd W ∧ GtwiceD W ∧ GbaseX W ∧ GbaseY W) (h0 : SK .u8 W v0 l0) (b0 : Bb l0) :
    Calls Tryd.prog 5 #[v0, four x, four y] W fun e w' => e = .returned (.bool true) ∧ Below W.heap.size W w' := by
  obtain ⟨a0, c0, rfl⟩ := h0.shape
  obtain ⟨hZ, hD, hT, hU, hV⟩ := h
  have hE : Env W := ⟨hD, hT, hU, hV, hZ⟩
  rw [four_ws x hx, four_ws y hy]
  have hs := halves_lt x y hx hy
  obtain ⟨bs, hbs, qbs⟩ := base_p
  obtain ⟨bk, hbk, qbk⟩ := baseK_p x hx
  obtain ⟨b2, hb2, qb2⟩ := baseK_p (x % L25) (mod_lt x)
  obtain ⟨z, hz, qz⟩ := zero_p
  obtain ⟨t, ht, qt⟩ := pure_p bk _ hbk
  rw [ht.2 (base_pure x)] at qt
  have rest : ∀ (p : P4) (P : Pt), p.Is P → ∃ mx my bb ms bt m8 e8 b3 mm s3 z8 : P4, mx.Is (Pt.mul (x / 2) P) ∧ my.Is (Pt.mul (y / 2) P) ∧ bb.Is ((Pt.mul (x / 2) P).add (Pt.mul (y / 2) P)) ∧ ms.Is (Pt.mul (x / 2 + y / 2) P) ∧ bt.Is ((Pt.mul (x / 2) P).add (Pt.mul (y / 2) P)) ∧ m8.Is (Pt.mul 8 P) ∧ e8.Is (Pt.mul 8 P) ∧ b3.Is ((Pt.mul x baseP).add (Pt.mul y P)) ∧ mm.Is (Pt.mul y P) ∧ s3.Is ((Pt.mul x baseP).add (Pt.mul y P)) ∧ z8.Is Pt.zero ∧
      (∀ w : World, Env w → Calls Tryd.prog 9 #[.agg (wv (ws (x / 2))).toArray, .agg p.l.toArray] w fun e w' => e = .returned (.agg mx.l.toArray) ∧ Below w.heap.size w w') ∧
      (∀ w : World, Env w → Calls Tryd.prog 9 #[.agg (wv (ws (y / 2))).toArray, .agg p.l.toArray] w fun e w' => e = .returned (.agg my.l.toArray) ∧ Below w.heap.size w w') ∧
      (∀ w : World, Env w → Calls Tryd.prog 28 #[.agg mx.l.toArray, .agg my.l.toArray] w fun e w' => e = .returned (.agg bb.l.toArray) ∧ Below w.heap.size w w') ∧
      (∀ w : World, Env w → Calls Tryd.prog 9 #[.agg (wv (ws (x / 2 + y / 2))).toArray, .agg p.l.toArray] w fun e w' => e = .returned (.agg ms.l.toArray) ∧ Below w.heap.size w w') ∧
      (∀ w : World, Env w → Calls Tryd.prog 21 #[.agg (wv (ws (x / 2))).toArray, .agg p.l.toArray, .agg (wv (ws (y / 2))).toArray, .agg p.l.toArray] w fun e w' => e = .returned (.agg bt.l.toArray) ∧ Below w.heap.size w w') ∧
      (∀ w : World, Env w → Calls Tryd.prog 9 #[.agg #[.int .u64 8, .int .u64 0, .int .u64 0, .int .u64 0], .agg p.l.toArray] w fun e w' => e = .returned (.agg m8.l.toArray) ∧ Below w.heap.size w w') ∧
      (∀ w : World, Env w → Calls Tryd.prog 29 #[.agg p.l.toArray] w fun e w' => e = .returned (.agg e8.l.toArray) ∧ Below w.heap.size w w') ∧
      (∀ w : World, Env w → Calls Tryd.prog 21 #[.agg (wv (ws x)).toArray, .agg bs.l.toArray, .agg (wv (ws y)).toArray, .agg p.l.toArray] w fun e w' => e = .returned (.agg b3.l.toArray) ∧ Below w.heap.size w w') ∧
      (∀ w : World, Env w → Calls Tryd.prog 9 #[.agg (wv (ws y)).toArray, .agg p.l.toArray] w fun e w' => e = .returned (.agg mm.l.toArray) ∧ Below w.heap.size w w') ∧
      (∀ w : World, Env w → Calls Tryd.prog 28 #[.agg bk.l.toArray, .agg mm.l.toArray] w fun e w' => e = .returned (.agg s3.l.toArray) ∧ Below w.heap.size w w') ∧
      (∀ w : World, Env w → Calls Tryd.prog 9 #[.agg #[.int .u64 6346243789798364141, .int .u64 1503914060200516822, .int .u64 0, .int .u64 1152921504606846976], .agg e8.l.toArray] w fun e w' => e = .returned (.agg z8.l.toArray) ∧ Below w.heap.size w w') := fun p P hp => by
    obtain ⟨mx, k1, q1⟩ := mul_p p P hp (x / 2) (half_lt x hx)
    obtain ⟨my, k2, q2⟩ := mul_p p P hp (y / 2) (half_lt y hy)
    obtain ⟨bb, k3, q3⟩ := add_p mx my _ _ k1 k2
    obtain ⟨ms, k4, q4⟩ := mul_p p P hp (x / 2 + y / 2) hs
    obtain ⟨bt, k5, q5⟩ := both_pt p p P P hp hp (x / 2) (y / 2) (half_lt x hx) (half_lt y hy)
    obtain ⟨m8, k6, q6⟩ := mul_p p P hp 8 (by decide)
    obtain ⟨e8, k7, q7⟩ := eight_p p P hp
    obtain ⟨b3, k8, q8⟩ := both_pt bs p baseP P hbs hp x y hx hy
    obtain ⟨mm, k9, q9⟩ := mul_p p P hp y hy
    obtain ⟨s3, k10, q10⟩ := add_p bk mm _ _ hbk k9
    rw [← mul_eight] at k7
    obtain ⟨z8, k11, q11⟩ := mul_p e8 _ k7 L25 L25_lt
    rw [order_eight] at k11
    rw [ws_8] at q6
    rw [order_words] at q11
    exact ⟨mx, my, bb, ms, bt, m8, e8, b3, mm, s3, z8, k1, k2, k3, k4, k5, k6, k7, k8, k9, k10, k11, fun w h => q1 w h.t h.z.f, fun w h => q2 w h.t h.z.f, fun w h => q3 w h.t h.z.f, fun w h => q4 w h.t h.z.f, fun w h => q5 w h.t h.z.f, fun w h => q6 w h.t h.z.f, fun w h => q7 w h.z.f, fun w h => q8 w h.t h.z.f, fun w h => q9 w h.t h.z.f, fun w h => q10 w h.t h.z.f, fun w h => q11 w h.t h.z.f⟩
  rcases ofF_any l0 b0 with ⟨P, rfl⟩ | ⟨c, hc⟩
  · obtain ⟨p, hp, fp⟩ := of_yes_p P
    obtain ⟨mx, my, bb, ms, bt, m8, e8, b3, mm, s3, z8, k1, k2, k3, k4, k5, k6, k7, k8, k9, k10, k11, q1, q2, q3, q4, q5, q6, q7, q8, q9, q10, q11⟩ := rest p P hp
    exact back_yes_w _ _ p.l _ _ _ mx.l my.l bb.l ms.l bt.l m8.l e8.l bk.l b2.l bs.l b3.l mm.l s3.l z8.l z.l _ (ws_wl x) (ws_wl y) p.pl (ws_wl _) (ws_wl _) (ws_wl _) mx.pl my.pl bb.pl ms.pl bt.pl m8.pl e8.pl bk.pl b2.pl bs.pl b3.pl mm.pl s3.pl z8.pl z.pl (ws_wl (x % L25)) a0 _ c0 _
      awake11 (fun v w s h => fp v w s h.d h.z) (right_ws x hx) (right_ws y hy) (add_ws x y hx hy) q1 q2 q3 q4 (same_yes ms bb _ _ k4 k3 (Pt.mul_sum _ _ _)) q5 (same_yes bt bb _ _ k5 k3 rfl) q6 q7 (same_yes m8 e8 _ _ k6 k7 rfl) order_raw newL_ws
      (fun w h => qbk w h.u h.v h.t h.z.f) (reduce_ws x hx) (fun w h => qb2 w h.u h.v h.t h.z.f) (same_yes b2 bk _ _ hb2 hbk (base_mod x)) (fun w h => qt w h.t h.z.f) (fun w h => qbs w h.u h.v) q8 q9 q10 (same_yes b3 s3 _ _ k8 k10 rfl) order_raw q7 q11 qz (same_yes z8 z _ _ k11 hz rfl) W h0 hE
  · obtain ⟨mx, my, bb, ms, bt, m8, e8, b3, mm, s3, z8, k1, k2, k3, k4, k5, k6, k7, k8, k9, k10, k11, q1, q2, q3, q4, q5, q6, q7, q8, q9, q10, q11⟩ := rest bs baseP hbs
    exact back_no_w _ _ c.l bs.l _ _ _ mx.l my.l bb.l ms.l bt.l m8.l e8.l bk.l b2.l b3.l mm.l s3.l z8.l z.l _ (ws_wl x) (ws_wl y) c.pl bs.pl (ws_wl _) (ws_wl _) (ws_wl _) mx.pl my.pl bb.pl ms.pl bt.pl m8.pl e8.pl bk.pl b2.pl b3.pl mm.pl s3.pl z8.pl z.pl (ws_wl (x % L25)) a0 _ c0 _
      awake11 (fun v w s h => hc v w s h.d h.z) (fun w h => qbs w h.u h.v) (right_ws x hx) (right_ws y hy) (add_ws x y hx hy) q1 q2 q3 q4 (same_yes ms bb _ _ k4 k3 (Pt.mul_sum _ _ _)) q5 (same_yes bt bb _ _ k5 k3 rfl) q6 q7 (same_yes m8 e8 _ _ k6 k7 rfl) order_raw newL_ws
      (fun w h => qbk w h.u h.v h.t h.z.f) (reduce_ws x hx) (fun w h => qb2 w h.u h.v h.t h.z.f) (same_yes b2 bk _ _ hb2 hbk (base_mod x)) (fun w h => qt w h.t h.z.f) (fun w h => qbs w h.u h.v) q8 q9 q10 (same_yes b3 s3 _ _ k8 k10 rfl) order_raw q7 q11 qz (same_yes z8 z _ _ k11 hz rfl) W h0 hE
end Go.Proofs.YtedhfimjcpbcpaaDoor.Ed
