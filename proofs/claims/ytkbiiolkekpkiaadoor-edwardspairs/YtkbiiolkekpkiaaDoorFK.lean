/-
  The contract of the field's Root: for tame elements it returns the program's root, as the document says, and whether there is one, and changes no memory that was there. Conditions: as each theorem says.
-/
import Derived.Test.YtkbiiolkekpkiaaDoorFH
namespace Go.Proofs.YtkbiiolkekpkiaaDoor
open Go.RowKit
set_option linter.unusedVariables false
set_option linter.unusedSimpArgs false

theorem tame_I : Tame 1718705420411056 234908883556509 2233514472574048 2117202627021982 765476049583133 := by unfold Tame; omega
theorem num_I : L5.num ⟨1718705420411056, 234908883556509, 2233514472574048, 2117202627021982, 765476049583133⟩ = (I25 : Int) := by decide +kernel
theorem nn_neg (x z : L5) (h : z.num % (P25 : Int) = (- x.num) % (P25 : Int)) : z.nn = (P25 - x.nn) % P25 := by
  refine L5.nn_of ?_
  have hl := x.nn_lt
  have e : ((P25 - x.nn : Nat) : Int) = - (x.nn : Int) + (P25 : Int) * 1 := by omega
  rw [h, e, Int.add_mul_emod_self_left, show - x.num = (-1) * x.num by omega, show - (x.nn : Int) = (-1) * (x.nn : Int) by omega]
  exact mul_congZ rfl x.nn_mod
theorem nn_mul (x y z : L5) (h : z.num % (P25 : Int) = x.num * y.num % (P25 : Int)) : z.nn = x.nn * y.nn % P25 := by
  refine L5.nn_of ?_
  rw [h, Int.natCast_mul]
  exact mul_congZ x.nn_mod y.nn_mod
theorem low_zero : L5.Low ⟨0, 0, 0, 0, 0⟩ := by unfold L5.Low; decide
theorem nn_low {z : L5} {n : Nat} (h : z.num = (n : Int)) (hn : n < P25) : z.nn = n := by
  unfold L5.nn
  rw [h, ← Int.natCast_emod, Int.toNat_natCast, Nat.mod_eq_of_lt hn]
/-- The end of a root: the number's limbs, its other sign, which of them is even, and its limbs. -/
theorem rootEnd (x : L5) (hx : x.Tm) : ∃ y h s z : L5, z.Low ∧ z.num = ((evn x.nn : Nat) : Int) ∧
    (∀ w : World, Calls Tryd.prog 66 #[.agg #[.int .u64 x.l0, .int .u64 x.l1, .int .u64 x.l2, .int .u64 x.l3, .int .u64 x.l4]] w fun e w' => e = .returned (.agg #[.int .u64 y.l0, .int .u64 y.l1, .int .u64 y.l2, .int .u64 y.l3, .int .u64 y.l4]) ∧ Below w.heap.size w w') ∧
    (∀ w : World, Gl w → Calls Tryd.prog 36 #[.agg #[.int .u64 y.l0, .int .u64 y.l1, .int .u64 y.l2, .int .u64 y.l3, .int .u64 y.l4]] w fun e w' => e = .returned (.agg #[.int .u64 h.l0, .int .u64 h.l1, .int .u64 h.l2, .int .u64 h.l3, .int .u64 h.l4]) ∧ Below w.heap.size w w') ∧
    (∀ w : World, Calls Tryd.prog 86 #[.int .u64 y.l0, .agg #[.int .u64 h.l0, .int .u64 h.l1, .int .u64 h.l2, .int .u64 h.l3, .int .u64 h.l4], .agg #[.int .u64 y.l0, .int .u64 y.l1, .int .u64 y.l2, .int .u64 y.l3, .int .u64 y.l4]] w fun e w' => e = .returned (.agg #[.int .u64 s.l0, .int .u64 s.l1, .int .u64 s.l2, .int .u64 s.l3, .int .u64 s.l4]) ∧ Below w.heap.size w w') ∧
    (∀ w : World, Calls Tryd.prog 66 #[.agg #[.int .u64 s.l0, .int .u64 s.l1, .int .u64 s.l2, .int .u64 s.l3, .int .u64 s.l4]] w fun e w' => e = .returned (.agg #[.int .u64 z.l0, .int .u64 z.l1, .int .u64 z.l2, .int .u64 z.l3, .int .u64 z.l4]) ∧ Below w.heap.size w w') := by
  obtain ⟨y, hy, ey, ky⟩ := reduced_fe x hx
  obtain ⟨h, hh, eh, kh⟩ := neg_fe y hy.tm
  have hyn : y.nn = x.nn := by unfold L5.nn; rw [ey.out, Int.emod_emod]
  have hyv : y.num = (x.nn : Int) := by rw [ey.out, x.nn_eq]
  have e1 : bits .and .u64 y.l0 1 = ((x.nn % 2 : Nat) : Int) := by
    rw [and1_int _ (by unfold L5.Low at hy; unfold Wd; omega), low_parity, hyv]; omega
  have hn := nn_neg y h eh.out
  rw [hyn] at hn
  by_cases hp : x.nn % 2 = 1
  · obtain ⟨z, hz, ez, kz⟩ := reduced_fe h hh
    rw [hp] at e1
    refine ⟨y, h, h, z, hz, ?_, ky, kh, fun w => select_yes _ h y hh hy.tm e1 w, kz⟩
    rw [ez.out, ← h.nn_eq, hn]
    unfold evn
    rw [if_pos hp]
  · obtain ⟨z, hz, ez, kz⟩ := reduced_fe y hy.tm
    rw [show x.nn % 2 = 0 by omega] at e1
    refine ⟨y, h, y, z, hz, ?_, ky, kh, fun w => select_no _ h y hh hy.tm e1 w, kz⟩
    rw [ez.out, ← y.nn_eq, hyn]
    unfold evn
    rw [if_neg hp]

set_option maxRecDepth 100000 in
set_option maxHeartbeats 16000000 in
theorem root_fe (x y : L5) (hx : x.Tm) (hy : y.Tm) : ∃ z : L5, z.Low ∧ z.num = ((codeN x.nn y.nn : Nat) : Int) ∧ ∀ w : World, Gl w → Calls Tryd.prog 67 #[.agg #[.int .u64 x.l0, .int .u64 x.l1, .int .u64 x.l2, .int .u64 x.l3, .int .u64 x.l4], .agg #[.int .u64 y.l0, .int .u64 y.l1, .int .u64 y.l2, .int .u64 y.l3, .int .u64 y.l4]] w fun e w' => e = .returned (.tuple #[.agg #[.int .u64 z.l0, .int .u64 z.l1, .int .u64 z.l2, .int .u64 z.l3, .int .u64 z.l4], .bool (codeOk x.nn y.nn)]) ∧ Below w.heap.size w w' := by
  obtain ⟨n, hn, en, kn⟩ := near_fe x y hx hy
  obtain ⟨q, hq, eq, kq⟩ := square_fe n 1 hn (by decide) 1 (by decide)
  obtain ⟨f, hf, ef, kf⟩ := mul_fe q y hq hy
  obtain ⟨g, hg, eg, kg⟩ := neg_fe x hx
  have vq : q.nn = n.nn * n.nn % P25 := nn_mul n n q (by rw [eq.out, Nat.pow_one, Int.pow_succ, Int.pow_succ, Int.pow_zero, Int.one_mul])
  have vf : f.nn = n.nn * n.nn % P25 * y.nn % P25 := by rw [nn_mul q y f ef.out, vq]
  have vg := nn_neg x g eg.out
  have ks1 := fun w => same_fe f x hf hx _ rfl w
  have ks2 := fun w => same_fe f g hf hg _ rfl w
  have d1 : (f.num % (P25 : Int) = x.num % (P25 : Int)) ↔ (f.nn = x.nn) := by rw [← f.nn_eq, ← x.nn_eq]; omega
  have d2 : (f.num % (P25 : Int) = g.num % (P25 : Int)) ↔ (f.nn = (P25 - x.nn) % P25) := by rw [← f.nn_eq, ← g.nn_eq, ← vg]; omega
  unfold codeOk codeN
  rw [← en.out, ← vf]
  by_cases h1 : f.nn = x.nn
  · obtain ⟨r, h, s, t, ht, vt, kr, kh, ks, kt⟩ := rootEnd n hn
    rw [if_pos h1, if_pos h1]
    refine ⟨t, ht, vt, fun w HG' => ?_⟩
    rw [decide_eq_true (d1.2 h1)] at ks1
    have HG : Hid (Gl w) := HG'
    clear HG' vt vf vq vg ks2 d1 d2 en eq ef eg hn hq hf hg ht h1 kg hx hy
    obtain ⟨x0, x1, x2, x3, x4⟩ := x
    obtain ⟨y0, y1, y2, y3, y4⟩ := y
    obtain ⟨n0, n1, n2, n3, n4⟩ := n
    obtain ⟨q0, q1, q2, q3, q4⟩ := q
    obtain ⟨f0, f1, f2, f3, f4⟩ := f
    obtain ⟨r0, r1, r2, r3, r4⟩ := r
    obtain ⟨h0, h1, h2, h3, h4⟩ := h
    obtain ⟨s0, s1, s2, s3, s4⟩ := s
    obtain ⟨t0, t1, t2, t3, t4⟩ := t
    dsimp only at kn kq kf ks1 kr kh ks kt ⊢
    have Qn : Hid (∀ w : World, Calls Tryd.prog 85 #[.agg #[.int .u64 x0, .int .u64 x1, .int .u64 x2, .int .u64 x3, .int .u64 x4], .agg #[.int .u64 y0, .int .u64 y1, .int .u64 y2, .int .u64 y3, .int .u64 y4]] w fun e w' => e = .returned (.agg #[.int .u64 n0, .int .u64 n1, .int .u64 n2, .int .u64 n3, .int .u64 n4]) ∧ Below w.heap.size w w') := kn
    have Qq : Hid (∀ w : World, Calls Tryd.prog 51 #[.agg #[.int .u64 n0, .int .u64 n1, .int .u64 n2, .int .u64 n3, .int .u64 n4], .int .i64 1] w fun e w' => e = .returned (.agg #[.int .u64 q0, .int .u64 q1, .int .u64 q2, .int .u64 q3, .int .u64 q4]) ∧ Below w.heap.size w w') := kq
    have Qf : Hid (∀ w : World, Calls Tryd.prog 49 #[.agg #[.int .u64 q0, .int .u64 q1, .int .u64 q2, .int .u64 q3, .int .u64 q4], .agg #[.int .u64 y0, .int .u64 y1, .int .u64 y2, .int .u64 y3, .int .u64 y4]] w fun e w' => e = .returned (.agg #[.int .u64 f0, .int .u64 f1, .int .u64 f2, .int .u64 f3, .int .u64 f4]) ∧ Below w.heap.size w w') := kf
    have Q1 : Hid (∀ w : World, Calls Tryd.prog 54 #[.agg #[.int .u64 f0, .int .u64 f1, .int .u64 f2, .int .u64 f3, .int .u64 f4], .agg #[.int .u64 x0, .int .u64 x1, .int .u64 x2, .int .u64 x3, .int .u64 x4]] w fun e w' => e = .returned (.bool true) ∧ Below w.heap.size w w') := ks1
    have Qr : Hid (∀ w : World, Calls Tryd.prog 66 #[.agg #[.int .u64 n0, .int .u64 n1, .int .u64 n2, .int .u64 n3, .int .u64 n4]] w fun e w' => e = .returned (.agg #[.int .u64 r0, .int .u64 r1, .int .u64 r2, .int .u64 r3, .int .u64 r4]) ∧ Below w.heap.size w w') := kr
    have Qh : Hid (∀ w : World, Gl w → Calls Tryd.prog 36 #[.agg #[.int .u64 r0, .int .u64 r1, .int .u64 r2, .int .u64 r3, .int .u64 r4]] w fun e w' => e = .returned (.agg #[.int .u64 h0, .int .u64 h1, .int .u64 h2, .int .u64 h3, .int .u64 h4]) ∧ Below w.heap.size w w') := kh
    have Qs : Hid (∀ w : World, Calls Tryd.prog 86 #[.int .u64 r0, .agg #[.int .u64 h0, .int .u64 h1, .int .u64 h2, .int .u64 h3, .int .u64 h4], .agg #[.int .u64 r0, .int .u64 r1, .int .u64 r2, .int .u64 r3, .int .u64 r4]] w fun e w' => e = .returned (.agg #[.int .u64 s0, .int .u64 s1, .int .u64 s2, .int .u64 s3, .int .u64 s4]) ∧ Below w.heap.size w w') := ks
    have Qt : Hid (∀ w : World, Calls Tryd.prog 66 #[.agg #[.int .u64 s0, .int .u64 s1, .int .u64 s2, .int .u64 s3, .int .u64 s4]] w fun e w' => e = .returned (.agg #[.int .u64 t0, .int .u64 t1, .int .u64 t2, .int .u64 t3, .int .u64 t4]) ∧ Below w.heap.size w w') := kt
    clear kn kq kf ks1 kr kh ks kt
    have gl := HG.out.lt
    go_enter Tryd.func67, Tryd.ntmps67
    go_wp2_with fail
    refine calls_at (fun V => Bl5 V w.heap.size x0 x1 x2 x3 x4 ∧ Bl5 V (w.heap.size + 1) y0 y1 y2 y3 y4 ∧ Bl5 V (w.heap.size + 1 + 1) 0 0 0 0 0 ∧ Gl V ∧ Below w.heap.size w V) ⟨?_, ?_, ?_, ?_, ?_⟩ ?_
    · (repeat (first | refine Bl5.drew ?_ | refine Bl5.drewN ?_ _ | (refine Bl5.new _ _ _ _ _ _ _ _ ?_; simp; done) | refine Bl5.alloc ?_ _))
    · (repeat (first | refine Bl5.drew ?_ | refine Bl5.drewN ?_ _ | (refine Bl5.new _ _ _ _ _ _ _ _ ?_; simp; done) | refine Bl5.alloc ?_ _))
    · (repeat (first | refine Bl5.drew ?_ | refine Bl5.drewN ?_ _ | (refine Bl5.new _ _ _ _ _ _ _ _ ?_; simp; done) | refine Bl5.alloc ?_ _))
    · refine Gl.grown HG.out ?_
      (repeat (first | exact Below.refl _ _ | refine Below.drew ?_ | refine below_drewN ?_ _ | refine Below.alloc ?_ (by simp <;> omega) _))
    · (repeat (first | exact Below.refl _ _ | refine Below.drew ?_ | refine below_drewN ?_ _ | refine Below.alloc ?_ (by simp <;> omega) _ | refine Below.setCell ?_ (by simp <;> omega) _))
    rintro v1 ⟨k0, k1, k2, k3, k4⟩
    have X_1 : Hid (Bl5 v1 w.heap.size x0 x1 x2 x3 x4) := k0
    have Y_1 : Hid (Bl5 v1 (w.heap.size + 1) y0 y1 y2 y3 y4) := k1
    have R_1 : Hid (Bl5 v1 (w.heap.size + 1 + 1) 0 0 0 0 0) := k2
    have Z_1 : Hid (Gl v1) := k3
    have G_1 : Hid (Below w.heap.size w v1) := k4
    clear k0 k1 k2 k3 k4
    refine (Qn.out _).mono ?_
    rintro e v2 ⟨rfl, g⟩
    have X_2 := hold (X_1.out.below g)
    have Y_2 := hold (Y_1.out.below g)
    have R_2 := hold (R_1.out.below g)
    have Z_2 := hold (Z_1.out.grown g)
    have G_2 := hold (G_1.out.trans (g.mono G_1.out.size))
    clear X_1 Y_1 R_1 Z_1 G_1 g
    go_wp2_with fail
    have szA : w.heap.size ≤ v2.heap.size := G_2.out.size
    have nbAX : ¬ (v2.heap.size = w.heap.size) := by have := X_2.out.lt; omega
    have nbAY : ¬ (v2.heap.size = (w.heap.size + 1)) := by have := Y_2.out.lt; omega
    have nbAR : ¬ (v2.heap.size = (w.heap.size + 1 + 1)) := by have := R_2.out.lt; omega
    refine wp_cut (fun V => Bl5 V w.heap.size x0 x1 x2 x3 x4 ∧ Bl5 V (w.heap.size + 1) y0 y1 y2 y3 y4 ∧ Bl5 V (w.heap.size + 1 + 1) 0 0 0 0 0 ∧ Gl V ∧ Bl5 V v2.heap.size n0 n1 n2 n3 n4 ∧ Below w.heap.size w V) ⟨X_2.out.alloc _, Y_2.out.alloc _, R_2.out.alloc _, Z_2.out.grown ((Below.refl _ _).alloc (Nat.le_refl _) _), Bl5.new v2 _ _ _ _ _ _ _ rfl, G_2.out.alloc G_2.out.size _⟩ ?_
    rintro v3 ⟨k0, k1, k2, k3, k4, k5⟩
    have X_3 : Hid (Bl5 v3 w.heap.size x0 x1 x2 x3 x4) := k0
    have Y_3 : Hid (Bl5 v3 (w.heap.size + 1) y0 y1 y2 y3 y4) := k1
    have R_3 : Hid (Bl5 v3 (w.heap.size + 1 + 1) 0 0 0 0 0) := k2
    have Z_3 : Hid (Gl v3) := k3
    have A_3 : Hid (Bl5 v3 v2.heap.size n0 n1 n2 n3 n4) := k4
    have G_3 : Hid (Below w.heap.size w v3) := k5
    clear k0 k1 k2 k3 k4 k5 X_2 Y_2 R_2 Z_2 G_2
    refine wp_region_grow (ob := (fun k => if k = 4 then some (.cells #[.int .u64 0, .int .u64 0, .int .u64 0, .int .u64 0, .int .u64 0] 26) else none)) (st := (fun k => if k = 5 then some (4, .cells #[.int .u64 f0, .int .u64 f1, .int .u64 f2, .int .u64 f3, .int .u64 f4] 26) else none)) (by kernel_rfl) ?_
    simp only [List.size_toArray, List.length_cons, List.length_nil, Nat.reduceAdd, Array.replicate_succ, Array.replicate_zero, List.push_toArray, List.nil_append, List.cons_append]
    refine g_first 0 _ (.agg #[.int .u64 n0, .int .u64 n1, .int .u64 n2, .int .u64 n3, .int .u64 n4]) rfl rfl rfl (by kernel_rfl) (by kernel_rfl) (by kernel_rfl) ?_ ?_
    · refine Or.inl ⟨by rfl, fun w' hw' => ?_⟩
      obtain ⟨t0, t1, t2, t3, t4, t5, t6⟩ := A_3.out.below hw'
      unfold Oper.quietAt
      go_simp
    try simp only [List.getElem_toArray, List.getElem_cons_zero, List.getElem_cons_succ, Act.put, List.setIfInBounds_toArray, List.set_cons_zero, List.set_cons_succ]
    refine g_first 1 _ (.agg #[.int .u64 q0, .int .u64 q1, .int .u64 q2, .int .u64 q3, .int .u64 q4]) rfl rfl rfl (by kernel_rfl) (by kernel_rfl) (by kernel_rfl) ?_ ?_
    · refine Or.inl ⟨by rfl, fun w' hw' => ?_⟩
      refine quiet_call (by go_simp) (Qq.out w')
    try simp only [List.getElem_toArray, List.getElem_cons_zero, List.getElem_cons_succ, Act.put, List.setIfInBounds_toArray, List.set_cons_zero, List.set_cons_succ]
    refine g_first 2 _ (.agg #[.int .u64 y0, .int .u64 y1, .int .u64 y2, .int .u64 y3, .int .u64 y4]) rfl rfl rfl (by kernel_rfl) (by kernel_rfl) (by kernel_rfl) ?_ ?_
    · refine Or.inl ⟨by rfl, fun w' hw' => ?_⟩
      obtain ⟨t0, t1, t2, t3, t4, t5, t6⟩ := Y_3.out.below hw'
      unfold Oper.quietAt
      go_simp
    try simp only [List.getElem_toArray, List.getElem_cons_zero, List.getElem_cons_succ, Act.put, List.setIfInBounds_toArray, List.set_cons_zero, List.set_cons_succ]
    refine g_first 3 _ (.agg #[.int .u64 f0, .int .u64 f1, .int .u64 f2, .int .u64 f3, .int .u64 f4]) rfl rfl rfl (by kernel_rfl) (by kernel_rfl) (by kernel_rfl) ?_ ?_
    · refine Or.inl ⟨by rfl, fun w' hw' => ?_⟩
      refine quiet_call (by go_simp) (Qf.out w')
    try simp only [List.getElem_toArray, List.getElem_cons_zero, List.getElem_cons_succ, Act.put, List.setIfInBounds_toArray, List.set_cons_zero, List.set_cons_succ]
    refine g_make 4 _ (.cells #[.int .u64 0, .int .u64 0, .int .u64 0, .int .u64 0, .int .u64 0] 26) (fun k => k == 4) rfl rfl rfl rfl ?_ ?_ (by kernel_rfl) (by kernel_rfl) (by kernel_rfl) (by kernel_rfl) (fun gf => ?_)
    · intro a w
      go_simp
    · intro j hj
      simp only [beq_iff_eq] at hj
      subst hj
      left; simp
    try simp only [List.getElem_toArray, List.getElem_cons_zero, List.getElem_cons_succ, Act.put, List.setIfInBounds_toArray, List.set_cons_zero, List.set_cons_succ]
    refine g_store 5 4 _ (.cells #[.int .u64 f0, .int .u64 f1, .int .u64 f2, .int .u64 f3, .int .u64 f4] 26) gf (.cells #[.int .u64 0, .int .u64 0, .int .u64 0, .int .u64 0, .int .u64 0] 26) (fun k => false) rfl rfl rfl rfl ?_ (by kernel_rfl) (by kernel_rfl) (by kernel_rfl) (by kernel_rfl) (by simp [upd]) ?_ ?_
    · intro j hj
      simp at hj
    · intro w' hh
      obtain ⟨k0, k1, k2, k3, k4, k5, k6⟩ := bl5_of_heap hh
      refine ⟨(((((w'.setCell ⟨gf, 0, none⟩ (.int .u64 f0)).setCell ⟨gf, 1, none⟩ (.int .u64 f1)).setCell ⟨gf, 2, none⟩ (.int .u64 f2)).setCell ⟨gf, 3, none⟩ (.int .u64 f3)).setCell ⟨gf, 4, none⟩ (.int .u64 f4)), ?_, turned_set5 _ _ _ _ _ hh⟩
      clear hh
      go_simp
    try simp only [List.getElem_toArray, List.getElem_cons_zero, List.getElem_cons_succ, Act.put, List.setIfInBounds_toArray, List.set_cons_zero, List.set_cons_succ]
    refine ⟨by kernel_rfl, fun v4 hV => ?_⟩
    have own := hV.own 4 _ (by simp [upd]; rfl)
    have g := hV.bel
    have B_4 : Hid (Bl5 v4 gf f0 f1 f2 f3 f4) := bl5_of_heap own.2.2
    have nbBX : ¬ (gf = w.heap.size) := by have h1 := own.1; have h2 := X_3.out.lt; dsimp only at h1; omega
    have nbBY : ¬ (gf = (w.heap.size + 1)) := by have h1 := own.1; have h2 := Y_3.out.lt; dsimp only at h1; omega
    have nbBR : ¬ (gf = (w.heap.size + 1 + 1)) := by have h1 := own.1; have h2 := R_3.out.lt; dsimp only at h1; omega
    have nbBA : ¬ (gf = v2.heap.size) := by have h1 := own.1; have h2 := A_3.out.lt; dsimp only at h1; omega
    have szB : w.heap.size ≤ gf := by have h1 := own.1; have h2 := G_3.out.size; dsimp only at h1; omega
    have X_4 := hold (X_3.out.below g)
    have Y_4 := hold (Y_3.out.below g)
    have R_4 := hold (R_3.out.below g)
    have A_4 := hold (A_3.out.below g)
    have Z_4 := hold (Z_3.out.grown g)
    have G_4 := hold (G_3.out.trans (g.mono G_3.out.size))
    clear own hV g X_3 Y_3 R_3 A_3 Z_3 G_3
    obtain ⟨cbl, cb0, cb1, cb2, cb3, cb4, cbf⟩ := B_4.out
    obtain ⟨cxl, cx0, cx1, cx2, cx3, cx4, cxf⟩ := X_4.out
    go_wp2_with fail
    refine (Q1.out _).mono ?_
    rintro e v5 ⟨rfl, g⟩
    clear cbl cb0 cb1 cb2 cb3 cb4 cbf cxl cx0 cx1 cx2 cx3 cx4 cxf
    have X_5 := hold (X_4.out.below g)
    have Y_5 := hold (Y_4.out.below g)
    have R_5 := hold (R_4.out.below g)
    have A_5 := hold (A_4.out.below g)
    have B_5 := hold (B_4.out.below g)
    have Z_5 := hold (Z_4.out.grown g)
    have G_5 := hold (G_4.out.trans (g.mono G_4.out.size))
    clear X_4 Y_4 R_4 A_4 B_4 Z_4 G_4 g
    obtain ⟨cal, ca0, ca1, ca2, ca3, ca4, caf⟩ := A_5.out
    go_wp2_with fail
    refine (Qr.out _).mono ?_
    rintro e v6 ⟨rfl, g⟩
    clear cal ca0 ca1 ca2 ca3 ca4 caf
    have X_6 := hold (X_5.out.below g)
    have Y_6 := hold (Y_5.out.below g)
    have R_6 := hold (R_5.out.below g)
    have A_6 := hold (A_5.out.below g)
    have B_6 := hold (B_5.out.below g)
    have Z_6 := hold (Z_5.out.grown g)
    have G_6 := hold (G_5.out.trans (g.mono G_5.out.size))
    clear X_5 Y_5 R_5 A_5 B_5 Z_5 G_5 g
    obtain ⟨cal, ca0, ca1, ca2, ca3, ca4, caf⟩ := A_6.out
    go_wp2_with fail
    clear cal ca0 ca1 ca2 ca3 ca4 caf
    refine wp_cut (fun V => Bl5 V w.heap.size x0 x1 x2 x3 x4 ∧ Bl5 V (w.heap.size + 1) y0 y1 y2 y3 y4 ∧ Bl5 V (w.heap.size + 1 + 1) 0 0 0 0 0 ∧ Bl5 V v2.heap.size r0 r1 r2 r3 r4 ∧ Bl5 V gf f0 f1 f2 f3 f4 ∧ Gl V ∧ Below w.heap.size w V) ⟨(((((X_6.out.other v2.heap.size 0 (.int .u64 r0) (by omega)).other v2.heap.size 1 (.int .u64 r1) (by omega)).other v2.heap.size 2 (.int .u64 r2) (by omega)).other v2.heap.size 3 (.int .u64 r3) (by omega)).other v2.heap.size 4 (.int .u64 r4) (by omega)), (((((Y_6.out.other v2.heap.size 0 (.int .u64 r0) (by omega)).other v2.heap.size 1 (.int .u64 r1) (by omega)).other v2.heap.size 2 (.int .u64 r2) (by omega)).other v2.heap.size 3 (.int .u64 r3) (by omega)).other v2.heap.size 4 (.int .u64 r4) (by omega)), (((((R_6.out.other v2.heap.size 0 (.int .u64 r0) (by omega)).other v2.heap.size 1 (.int .u64 r1) (by omega)).other v2.heap.size 2 (.int .u64 r2) (by omega)).other v2.heap.size 3 (.int .u64 r3) (by omega)).other v2.heap.size 4 (.int .u64 r4) (by omega)), A_6.out.set r0 r1 r2 r3 r4, (((((B_6.out.other v2.heap.size 0 (.int .u64 r0) (by omega)).other v2.heap.size 1 (.int .u64 r1) (by omega)).other v2.heap.size 2 (.int .u64 r2) (by omega)).other v2.heap.size 3 (.int .u64 r3) (by omega)).other v2.heap.size 4 (.int .u64 r4) (by omega)), Z_6.out.below ((((((Below.refl w.heap.size v6).setCell (show w.heap.size ≤ v2.heap.size by omega) _).setCell (show w.heap.size ≤ v2.heap.size by omega) _).setCell (show w.heap.size ≤ v2.heap.size by omega) _).setCell (show w.heap.size ≤ v2.heap.size by omega) _).setCell (show w.heap.size ≤ v2.heap.size by omega) _) HG.out.lt, (((((G_6.out.setCell (show w.heap.size ≤ v2.heap.size by omega) _).setCell (show w.heap.size ≤ v2.heap.size by omega) _).setCell (show w.heap.size ≤ v2.heap.size by omega) _).setCell (show w.heap.size ≤ v2.heap.size by omega) _).setCell (show w.heap.size ≤ v2.heap.size by omega) _)⟩ ?_
    rintro v7 ⟨k0, k1, k2, k3, k4, k5, k6⟩
    have X_7 : Hid (Bl5 v7 w.heap.size x0 x1 x2 x3 x4) := k0
    have Y_7 : Hid (Bl5 v7 (w.heap.size + 1) y0 y1 y2 y3 y4) := k1
    have R_7 : Hid (Bl5 v7 (w.heap.size + 1 + 1) 0 0 0 0 0) := k2
    have A_7 : Hid (Bl5 v7 v2.heap.size r0 r1 r2 r3 r4) := k3
    have B_7 : Hid (Bl5 v7 gf f0 f1 f2 f3 f4) := k4
    have Z_7 : Hid (Gl v7) := k5
    have G_7 : Hid (Below w.heap.size w v7) := k6
    clear k0 k1 k2 k3 k4 k5 k6 X_6 Y_6 R_6 A_6 B_6 Z_6 G_6
    have K : v7.drew.cell? ⟨v2.heap.size, 0, none⟩ = some (.int .u64 r0) ∧ v7.drew.cell? ⟨v2.heap.size, 1, none⟩ = some (.int .u64 r1) ∧ v7.drew.cell? ⟨v2.heap.size, 2, none⟩ = some (.int .u64 r2) ∧ v7.drew.cell? ⟨v2.heap.size, 3, none⟩ = some (.int .u64 r3) ∧ v7.drew.cell? ⟨v2.heap.size, 4, none⟩ = some (.int .u64 r4) := ⟨A_7.out.drew.c0, A_7.out.drew.c1, A_7.out.drew.c2, A_7.out.drew.c3, A_7.out.drew.c4⟩
    have X_7' : Hid (Bl5 v7.drew w.heap.size x0 x1 x2 x3 x4) := X_7.out.drew
    have Y_7' : Hid (Bl5 v7.drew (w.heap.size + 1) y0 y1 y2 y3 y4) := Y_7.out.drew
    have R_7' : Hid (Bl5 v7.drew (w.heap.size + 1 + 1) 0 0 0 0 0) := R_7.out.drew
    have A_7' : Hid (Bl5 v7.drew v2.heap.size r0 r1 r2 r3 r4) := A_7.out.drew
    have B_7' : Hid (Bl5 v7.drew gf f0 f1 f2 f3 f4) := B_7.out.drew
    have Z_7' : Hid (Gl v7.drew) := Z_7.out.grown (Below.refl _ _).drew
    have G_7' : Hid (Below w.heap.size w v7.drew) := G_7.out.drew
    have neA : ¬ ((w.heap.size + 1 + 1) = v2.heap.size) := by omega
    have neA' : ¬ (v2.heap.size = (w.heap.size + 1 + 1)) := by omega
    go_wp2_with fail
    go_region_held3 (fun w' => w'.cell? ⟨v2.heap.size, 0, none⟩ = some (.int .u64 r0) ∧ w'.cell? ⟨v2.heap.size, 1, none⟩ = some (.int .u64 r1) ∧ w'.cell? ⟨v2.heap.size, 2, none⟩ = some (.int .u64 r2) ∧ w'.cell? ⟨v2.heap.size, 3, none⟩ = some (.int .u64 r3) ∧ w'.cell? ⟨v2.heap.size, 4, none⟩ = some (.int .u64 r4)) (first | with_reducible assumption | go_keep)
      (first
        | (go_at_call 66; have gg := G_9; clear gg; (refine (Qt.out _).mono ?_); (rintro e v10 ⟨rfl, g⟩; have X_10 := hold (X_9.out.below g); have Y_10 := hold (Y_9.out.below g); have R_10 := hold (R_9.out.below g); have A_10 := hold (A_9.out.below g); have B_10 := hold (B_9.out.below g); have Z_10 := hold (Z_9.out.grown g); have G_10 := hold (G_9.out.trans (g.mono G_9.out.size)); clear g; clear K; have K : v10.cell? ⟨v2.heap.size, 0, none⟩ = some (.int .u64 r0) ∧ v10.cell? ⟨v2.heap.size, 1, none⟩ = some (.int .u64 r1) ∧ v10.cell? ⟨v2.heap.size, 2, none⟩ = some (.int .u64 r2) ∧ v10.cell? ⟨v2.heap.size, 3, none⟩ = some (.int .u64 r3) ∧ v10.cell? ⟨v2.heap.size, 4, none⟩ = some (.int .u64 r4) := ⟨A_10.out.c0, A_10.out.c1, A_10.out.c2, A_10.out.c3, A_10.out.c4⟩; obtain ⟨stl, st0, st1, st2, st3, st4, stf⟩ := R_10.out))
        | (go_at_call 86; have gg := G_8; clear gg; (refine (Qs.out _).mono ?_); (rintro e v9 ⟨rfl, g⟩; have X_9 := hold (X_8.out.below g); have Y_9 := hold (Y_8.out.below g); have R_9 := hold (R_8.out.below g); have A_9 := hold (A_8.out.below g); have B_9 := hold (B_8.out.below g); have Z_9 := hold (Z_8.out.grown g); have G_9 := hold (G_8.out.trans (g.mono G_8.out.size)); clear g; clear K; have K : v9.cell? ⟨v2.heap.size, 0, none⟩ = some (.int .u64 r0) ∧ v9.cell? ⟨v2.heap.size, 1, none⟩ = some (.int .u64 r1) ∧ v9.cell? ⟨v2.heap.size, 2, none⟩ = some (.int .u64 r2) ∧ v9.cell? ⟨v2.heap.size, 3, none⟩ = some (.int .u64 r3) ∧ v9.cell? ⟨v2.heap.size, 4, none⟩ = some (.int .u64 r4) := ⟨A_9.out.c0, A_9.out.c1, A_9.out.c2, A_9.out.c3, A_9.out.c4⟩))
        | (go_at_call 36; have gg := G_7'; clear gg; (refine (Qh.out _ Z_7'.out).mono ?_); (rintro e v8 ⟨rfl, g⟩; have X_8 := hold (X_7'.out.below g); have Y_8 := hold (Y_7'.out.below g); have R_8 := hold (R_7'.out.below g); have A_8 := hold (A_7'.out.below g); have B_8 := hold (B_7'.out.below g); have Z_8 := hold (Z_7'.out.grown g); have G_8 := hold (G_7'.out.trans (g.mono G_7'.out.size)); clear g; clear K; have K : v8.cell? ⟨v2.heap.size, 0, none⟩ = some (.int .u64 r0) ∧ v8.cell? ⟨v2.heap.size, 1, none⟩ = some (.int .u64 r1) ∧ v8.cell? ⟨v2.heap.size, 2, none⟩ = some (.int .u64 r2) ∧ v8.cell? ⟨v2.heap.size, 3, none⟩ = some (.int .u64 r3) ∧ v8.cell? ⟨v2.heap.size, 4, none⟩ = some (.int .u64 r4) := ⟨A_8.out.c0, A_8.out.c1, A_8.out.c2, A_8.out.c3, A_8.out.c4⟩))
        | fail)
    clear K neA neA'
    go_wp2_with fail
    refine body_cut (fun W => Bl5 W (w.heap.size + 1 + 1) t0 t1 t2 t3 t4 ∧ Below w.heap.size w W) ⟨R_10.out.set t0 t1 t2 t3 t4, ?_⟩ ?_
    · iterate 5 (refine Below.setCell ?_ (by simp <;> omega) _)
      exact G_10.out
    · rintro W ⟨⟨rl, r0, r1, r2, r3, r4, rf⟩, hb⟩
      exact bodyPost_ret (v := .tuple #[.agg #[.int .u64 t0, .int .u64 t1, .int .u64 t2, .int .u64 t3, .int .u64 t4], .bool true]) (by simp [results, Tryd.results67, go_sem, r0, r1, r2, r3, r4]) rfl ⟨rfl, hb⟩
  · by_cases h2 : f.nn = (P25 - x.nn) % P25
    · obtain ⟨m, hm, em, km⟩ := mul_fe n ⟨1718705420411056, 234908883556509, 2233514472574048, 2117202627021982, 765476049583133⟩ hn tame_I
      have vm : m.nn = n.nn * I25 % P25 := by rw [nn_mul n _ m em.out, nn_low num_I (by decide +kernel)]
      obtain ⟨r, h, s, t, ht, vt, kr, kh, ks, kt⟩ := rootEnd m hm
      rw [if_neg h1, if_neg h1, if_pos h2, if_pos h2, ← vm]
      refine ⟨t, ht, vt, fun w HG' => ?_⟩
      rw [decide_eq_false (fun h => h1 (d1.1 h))] at ks1
      rw [decide_eq_true (d2.2 h2)] at ks2
      have HG : Hid (Gl w) := HG'
      clear HG' vt vf vq vg d1 d2 en eq ef eg em vm hn hq hf hg hm ht h1 h2 hx hy
      obtain ⟨x0, x1, x2, x3, x4⟩ := x
      obtain ⟨y0, y1, y2, y3, y4⟩ := y
      obtain ⟨n0, n1, n2, n3, n4⟩ := n
      obtain ⟨q0, q1, q2, q3, q4⟩ := q
      obtain ⟨f0, f1, f2, f3, f4⟩ := f
      obtain ⟨g0, g1, g2, g3, g4⟩ := g
      obtain ⟨r0, r1, r2, r3, r4⟩ := r
      obtain ⟨h0, h1, h2, h3, h4⟩ := h
      obtain ⟨s0, s1, s2, s3, s4⟩ := s
      obtain ⟨t0, t1, t2, t3, t4⟩ := t
      obtain ⟨m0, m1, m2, m3, m4⟩ := m
      dsimp only at kn kq kf ks1 kg ks2 kr kh ks kt km ⊢
      have Qn : Hid (∀ w : World, Calls Tryd.prog 85 #[.agg #[.int .u64 x0, .int .u64 x1, .int .u64 x2, .int .u64 x3, .int .u64 x4], .agg #[.int .u64 y0, .int .u64 y1, .int .u64 y2, .int .u64 y3, .int .u64 y4]] w fun e w' => e = .returned (.agg #[.int .u64 n0, .int .u64 n1, .int .u64 n2, .int .u64 n3, .int .u64 n4]) ∧ Below w.heap.size w w') := kn
      have Qq : Hid (∀ w : World, Calls Tryd.prog 51 #[.agg #[.int .u64 n0, .int .u64 n1, .int .u64 n2, .int .u64 n3, .int .u64 n4], .int .i64 1] w fun e w' => e = .returned (.agg #[.int .u64 q0, .int .u64 q1, .int .u64 q2, .int .u64 q3, .int .u64 q4]) ∧ Below w.heap.size w w') := kq
      have Qf : Hid (∀ w : World, Calls Tryd.prog 49 #[.agg #[.int .u64 q0, .int .u64 q1, .int .u64 q2, .int .u64 q3, .int .u64 q4], .agg #[.int .u64 y0, .int .u64 y1, .int .u64 y2, .int .u64 y3, .int .u64 y4]] w fun e w' => e = .returned (.agg #[.int .u64 f0, .int .u64 f1, .int .u64 f2, .int .u64 f3, .int .u64 f4]) ∧ Below w.heap.size w w') := kf
      have Q1 : Hid (∀ w : World, Calls Tryd.prog 54 #[.agg #[.int .u64 f0, .int .u64 f1, .int .u64 f2, .int .u64 f3, .int .u64 f4], .agg #[.int .u64 x0, .int .u64 x1, .int .u64 x2, .int .u64 x3, .int .u64 x4]] w fun e w' => e = .returned (.bool false) ∧ Below w.heap.size w w') := ks1
      have Qg : Hid (∀ w : World, Gl w → Calls Tryd.prog 36 #[.agg #[.int .u64 x0, .int .u64 x1, .int .u64 x2, .int .u64 x3, .int .u64 x4]] w fun e w' => e = .returned (.agg #[.int .u64 g0, .int .u64 g1, .int .u64 g2, .int .u64 g3, .int .u64 g4]) ∧ Below w.heap.size w w') := kg
      have Q2 : Hid (∀ w : World, Calls Tryd.prog 54 #[.agg #[.int .u64 f0, .int .u64 f1, .int .u64 f2, .int .u64 f3, .int .u64 f4], .agg #[.int .u64 g0, .int .u64 g1, .int .u64 g2, .int .u64 g3, .int .u64 g4]] w fun e w' => e = .returned (.bool true) ∧ Below w.heap.size w w') := ks2
      have Qm : Hid (∀ w : World, Calls Tryd.prog 49 #[.agg #[.int .u64 n0, .int .u64 n1, .int .u64 n2, .int .u64 n3, .int .u64 n4], .agg #[.int .u64 1718705420411056, .int .u64 234908883556509, .int .u64 2233514472574048, .int .u64 2117202627021982, .int .u64 765476049583133]] w fun e w' => e = .returned (.agg #[.int .u64 m0, .int .u64 m1, .int .u64 m2, .int .u64 m3, .int .u64 m4]) ∧ Below w.heap.size w w') := km
      have Qr : Hid (∀ w : World, Calls Tryd.prog 66 #[.agg #[.int .u64 m0, .int .u64 m1, .int .u64 m2, .int .u64 m3, .int .u64 m4]] w fun e w' => e = .returned (.agg #[.int .u64 r0, .int .u64 r1, .int .u64 r2, .int .u64 r3, .int .u64 r4]) ∧ Below w.heap.size w w') := kr
      have Qh : Hid (∀ w : World, Gl w → Calls Tryd.prog 36 #[.agg #[.int .u64 r0, .int .u64 r1, .int .u64 r2, .int .u64 r3, .int .u64 r4]] w fun e w' => e = .returned (.agg #[.int .u64 h0, .int .u64 h1, .int .u64 h2, .int .u64 h3, .int .u64 h4]) ∧ Below w.heap.size w w') := kh
      have Qs : Hid (∀ w : World, Calls Tryd.prog 86 #[.int .u64 r0, .agg #[.int .u64 h0, .int .u64 h1, .int .u64 h2, .int .u64 h3, .int .u64 h4], .agg #[.int .u64 r0, .int .u64 r1, .int .u64 r2, .int .u64 r3, .int .u64 r4]] w fun e w' => e = .returned (.agg #[.int .u64 s0, .int .u64 s1, .int .u64 s2, .int .u64 s3, .int .u64 s4]) ∧ Below w.heap.size w w') := ks
      have Qt : Hid (∀ w : World, Calls Tryd.prog 66 #[.agg #[.int .u64 s0, .int .u64 s1, .int .u64 s2, .int .u64 s3, .int .u64 s4]] w fun e w' => e = .returned (.agg #[.int .u64 t0, .int .u64 t1, .int .u64 t2, .int .u64 t3, .int .u64 t4]) ∧ Below w.heap.size w w') := kt
      clear kn kq kf ks1 kg ks2 kr kh ks kt km
      have gl := HG.out.lt
      go_enter Tryd.func67, Tryd.ntmps67
      go_wp2_with fail
      refine calls_at (fun V => Bl5 V w.heap.size x0 x1 x2 x3 x4 ∧ Bl5 V (w.heap.size + 1) y0 y1 y2 y3 y4 ∧ Bl5 V (w.heap.size + 1 + 1) 0 0 0 0 0 ∧ Gl V ∧ Below w.heap.size w V) ⟨?_, ?_, ?_, ?_, ?_⟩ ?_
      · (repeat (first | refine Bl5.drew ?_ | refine Bl5.drewN ?_ _ | (refine Bl5.new _ _ _ _ _ _ _ _ ?_; simp; done) | refine Bl5.alloc ?_ _))
      · (repeat (first | refine Bl5.drew ?_ | refine Bl5.drewN ?_ _ | (refine Bl5.new _ _ _ _ _ _ _ _ ?_; simp; done) | refine Bl5.alloc ?_ _))
      · (repeat (first | refine Bl5.drew ?_ | refine Bl5.drewN ?_ _ | (refine Bl5.new _ _ _ _ _ _ _ _ ?_; simp; done) | refine Bl5.alloc ?_ _))
      · refine Gl.grown HG.out ?_
        (repeat (first | exact Below.refl _ _ | refine Below.drew ?_ | refine below_drewN ?_ _ | refine Below.alloc ?_ (by simp <;> omega) _))
      · (repeat (first | exact Below.refl _ _ | refine Below.drew ?_ | refine below_drewN ?_ _ | refine Below.alloc ?_ (by simp <;> omega) _ | refine Below.setCell ?_ (by simp <;> omega) _))
      rintro v1 ⟨k0, k1, k2, k3, k4⟩
      have X_1 : Hid (Bl5 v1 w.heap.size x0 x1 x2 x3 x4) := k0
      have Y_1 : Hid (Bl5 v1 (w.heap.size + 1) y0 y1 y2 y3 y4) := k1
      have R_1 : Hid (Bl5 v1 (w.heap.size + 1 + 1) 0 0 0 0 0) := k2
      have Z_1 : Hid (Gl v1) := k3
      have G_1 : Hid (Below w.heap.size w v1) := k4
      clear k0 k1 k2 k3 k4
      refine (Qn.out _).mono ?_
      rintro e v2 ⟨rfl, g⟩
      have X_2 := hold (X_1.out.below g)
      have Y_2 := hold (Y_1.out.below g)
      have R_2 := hold (R_1.out.below g)
      have Z_2 := hold (Z_1.out.grown g)
      have G_2 := hold (G_1.out.trans (g.mono G_1.out.size))
      clear X_1 Y_1 R_1 Z_1 G_1 g
      go_wp2_with fail
      have szA : w.heap.size ≤ v2.heap.size := G_2.out.size
      have nbAX : ¬ (v2.heap.size = w.heap.size) := by have := X_2.out.lt; omega
      have nbAY : ¬ (v2.heap.size = (w.heap.size + 1)) := by have := Y_2.out.lt; omega
      have nbAR : ¬ (v2.heap.size = (w.heap.size + 1 + 1)) := by have := R_2.out.lt; omega
      refine wp_cut (fun V => Bl5 V w.heap.size x0 x1 x2 x3 x4 ∧ Bl5 V (w.heap.size + 1) y0 y1 y2 y3 y4 ∧ Bl5 V (w.heap.size + 1 + 1) 0 0 0 0 0 ∧ Gl V ∧ Bl5 V v2.heap.size n0 n1 n2 n3 n4 ∧ Below w.heap.size w V) ⟨X_2.out.alloc _, Y_2.out.alloc _, R_2.out.alloc _, Z_2.out.grown ((Below.refl _ _).alloc (Nat.le_refl _) _), Bl5.new v2 _ _ _ _ _ _ _ rfl, G_2.out.alloc G_2.out.size _⟩ ?_
      rintro v3 ⟨k0, k1, k2, k3, k4, k5⟩
      have X_3 : Hid (Bl5 v3 w.heap.size x0 x1 x2 x3 x4) := k0
      have Y_3 : Hid (Bl5 v3 (w.heap.size + 1) y0 y1 y2 y3 y4) := k1
      have R_3 : Hid (Bl5 v3 (w.heap.size + 1 + 1) 0 0 0 0 0) := k2
      have Z_3 : Hid (Gl v3) := k3
      have A_3 : Hid (Bl5 v3 v2.heap.size n0 n1 n2 n3 n4) := k4
      have G_3 : Hid (Below w.heap.size w v3) := k5
      clear k0 k1 k2 k3 k4 k5 X_2 Y_2 R_2 Z_2 G_2
      refine wp_region_grow (ob := (fun k => if k = 4 then some (.cells #[.int .u64 0, .int .u64 0, .int .u64 0, .int .u64 0, .int .u64 0] 26) else none)) (st := (fun k => if k = 5 then some (4, .cells #[.int .u64 f0, .int .u64 f1, .int .u64 f2, .int .u64 f3, .int .u64 f4] 26) else none)) (by kernel_rfl) ?_
      simp only [List.size_toArray, List.length_cons, List.length_nil, Nat.reduceAdd, Array.replicate_succ, Array.replicate_zero, List.push_toArray, List.nil_append, List.cons_append]
      refine g_first 0 _ (.agg #[.int .u64 n0, .int .u64 n1, .int .u64 n2, .int .u64 n3, .int .u64 n4]) rfl rfl rfl (by kernel_rfl) (by kernel_rfl) (by kernel_rfl) ?_ ?_
      · refine Or.inl ⟨by rfl, fun w' hw' => ?_⟩
        obtain ⟨t0, t1, t2, t3, t4, t5, t6⟩ := A_3.out.below hw'
        unfold Oper.quietAt
        go_simp
      try simp only [List.getElem_toArray, List.getElem_cons_zero, List.getElem_cons_succ, Act.put, List.setIfInBounds_toArray, List.set_cons_zero, List.set_cons_succ]
      refine g_first 1 _ (.agg #[.int .u64 q0, .int .u64 q1, .int .u64 q2, .int .u64 q3, .int .u64 q4]) rfl rfl rfl (by kernel_rfl) (by kernel_rfl) (by kernel_rfl) ?_ ?_
      · refine Or.inl ⟨by rfl, fun w' hw' => ?_⟩
        refine quiet_call (by go_simp) (Qq.out w')
      try simp only [List.getElem_toArray, List.getElem_cons_zero, List.getElem_cons_succ, Act.put, List.setIfInBounds_toArray, List.set_cons_zero, List.set_cons_succ]
      refine g_first 2 _ (.agg #[.int .u64 y0, .int .u64 y1, .int .u64 y2, .int .u64 y3, .int .u64 y4]) rfl rfl rfl (by kernel_rfl) (by kernel_rfl) (by kernel_rfl) ?_ ?_
      · refine Or.inl ⟨by rfl, fun w' hw' => ?_⟩
        obtain ⟨t0, t1, t2, t3, t4, t5, t6⟩ := Y_3.out.below hw'
        unfold Oper.quietAt
        go_simp
      try simp only [List.getElem_toArray, List.getElem_cons_zero, List.getElem_cons_succ, Act.put, List.setIfInBounds_toArray, List.set_cons_zero, List.set_cons_succ]
      refine g_first 3 _ (.agg #[.int .u64 f0, .int .u64 f1, .int .u64 f2, .int .u64 f3, .int .u64 f4]) rfl rfl rfl (by kernel_rfl) (by kernel_rfl) (by kernel_rfl) ?_ ?_
      · refine Or.inl ⟨by rfl, fun w' hw' => ?_⟩
        refine quiet_call (by go_simp) (Qf.out w')
      try simp only [List.getElem_toArray, List.getElem_cons_zero, List.getElem_cons_succ, Act.put, List.setIfInBounds_toArray, List.set_cons_zero, List.set_cons_succ]
      refine g_make 4 _ (.cells #[.int .u64 0, .int .u64 0, .int .u64 0, .int .u64 0, .int .u64 0] 26) (fun k => k == 4) rfl rfl rfl rfl ?_ ?_ (by kernel_rfl) (by kernel_rfl) (by kernel_rfl) (by kernel_rfl) (fun gf => ?_)
      · intro a w
        go_simp
      · intro j hj
        simp only [beq_iff_eq] at hj
        subst hj
        left; simp
      try simp only [List.getElem_toArray, List.getElem_cons_zero, List.getElem_cons_succ, Act.put, List.setIfInBounds_toArray, List.set_cons_zero, List.set_cons_succ]
      refine g_store 5 4 _ (.cells #[.int .u64 f0, .int .u64 f1, .int .u64 f2, .int .u64 f3, .int .u64 f4] 26) gf (.cells #[.int .u64 0, .int .u64 0, .int .u64 0, .int .u64 0, .int .u64 0] 26) (fun k => false) rfl rfl rfl rfl ?_ (by kernel_rfl) (by kernel_rfl) (by kernel_rfl) (by kernel_rfl) (by simp [upd]) ?_ ?_
      · intro j hj
        simp at hj
      · intro w' hh
        obtain ⟨k0, k1, k2, k3, k4, k5, k6⟩ := bl5_of_heap hh
        refine ⟨(((((w'.setCell ⟨gf, 0, none⟩ (.int .u64 f0)).setCell ⟨gf, 1, none⟩ (.int .u64 f1)).setCell ⟨gf, 2, none⟩ (.int .u64 f2)).setCell ⟨gf, 3, none⟩ (.int .u64 f3)).setCell ⟨gf, 4, none⟩ (.int .u64 f4)), ?_, turned_set5 _ _ _ _ _ hh⟩
        clear hh
        go_simp
      try simp only [List.getElem_toArray, List.getElem_cons_zero, List.getElem_cons_succ, Act.put, List.setIfInBounds_toArray, List.set_cons_zero, List.set_cons_succ]
      refine ⟨by kernel_rfl, fun v4 hV => ?_⟩
      have own := hV.own 4 _ (by simp [upd]; rfl)
      have g := hV.bel
      have B_4 : Hid (Bl5 v4 gf f0 f1 f2 f3 f4) := bl5_of_heap own.2.2
      have nbBX : ¬ (gf = w.heap.size) := by have h1 := own.1; have h2 := X_3.out.lt; dsimp only at h1; omega
      have nbBY : ¬ (gf = (w.heap.size + 1)) := by have h1 := own.1; have h2 := Y_3.out.lt; dsimp only at h1; omega
      have nbBR : ¬ (gf = (w.heap.size + 1 + 1)) := by have h1 := own.1; have h2 := R_3.out.lt; dsimp only at h1; omega
      have nbBA : ¬ (gf = v2.heap.size) := by have h1 := own.1; have h2 := A_3.out.lt; dsimp only at h1; omega
      have szB : w.heap.size ≤ gf := by have h1 := own.1; have h2 := G_3.out.size; dsimp only at h1; omega
      have X_4 := hold (X_3.out.below g)
      have Y_4 := hold (Y_3.out.below g)
      have R_4 := hold (R_3.out.below g)
      have A_4 := hold (A_3.out.below g)
      have Z_4 := hold (Z_3.out.grown g)
      have G_4 := hold (G_3.out.trans (g.mono G_3.out.size))
      clear own hV g X_3 Y_3 R_3 A_3 Z_3 G_3
      obtain ⟨cbl, cb0, cb1, cb2, cb3, cb4, cbf⟩ := B_4.out
      obtain ⟨cxl, cx0, cx1, cx2, cx3, cx4, cxf⟩ := X_4.out
      go_wp2_with fail
      refine (Q1.out _).mono ?_
      rintro e v5 ⟨rfl, g⟩
      clear cbl cb0 cb1 cb2 cb3 cb4 cbf cxl cx0 cx1 cx2 cx3 cx4 cxf
      have X_5 := hold (X_4.out.below g)
      have Y_5 := hold (Y_4.out.below g)
      have R_5 := hold (R_4.out.below g)
      have A_5 := hold (A_4.out.below g)
      have B_5 := hold (B_4.out.below g)
      have Z_5 := hold (Z_4.out.grown g)
      have G_5 := hold (G_4.out.trans (g.mono G_4.out.size))
      clear X_4 Y_4 R_4 A_4 B_4 Z_4 G_4 g
      go_wp2_with fail
      have K : v5.drew.cell? ⟨w.heap.size, 0, none⟩ = some (.int .u64 x0) ∧ v5.drew.cell? ⟨w.heap.size, 1, none⟩ = some (.int .u64 x1) ∧ v5.drew.cell? ⟨w.heap.size, 2, none⟩ = some (.int .u64 x2) ∧ v5.drew.cell? ⟨w.heap.size, 3, none⟩ = some (.int .u64 x3) ∧ v5.drew.cell? ⟨w.heap.size, 4, none⟩ = some (.int .u64 x4) ∧ v5.drew.cell? ⟨gf, 0, none⟩ = some (.int .u64 f0) ∧ v5.drew.cell? ⟨gf, 1, none⟩ = some (.int .u64 f1) ∧ v5.drew.cell? ⟨gf, 2, none⟩ = some (.int .u64 f2) ∧ v5.drew.cell? ⟨gf, 3, none⟩ = some (.int .u64 f3) ∧ v5.drew.cell? ⟨gf, 4, none⟩ = some (.int .u64 f4) := ⟨X_5.out.drew.c0, X_5.out.drew.c1, X_5.out.drew.c2, X_5.out.drew.c3, X_5.out.drew.c4, B_5.out.drew.c0, B_5.out.drew.c1, B_5.out.drew.c2, B_5.out.drew.c3, B_5.out.drew.c4⟩
      have X_5' : Hid (Bl5 v5.drew w.heap.size x0 x1 x2 x3 x4) := X_5.out.drew
      have Y_5' : Hid (Bl5 v5.drew (w.heap.size + 1) y0 y1 y2 y3 y4) := Y_5.out.drew
      have R_5' : Hid (Bl5 v5.drew (w.heap.size + 1 + 1) 0 0 0 0 0) := R_5.out.drew
      have A_5' : Hid (Bl5 v5.drew v2.heap.size n0 n1 n2 n3 n4) := A_5.out.drew
      have B_5' : Hid (Bl5 v5.drew gf f0 f1 f2 f3 f4) := B_5.out.drew
      have Z_5' : Hid (Gl v5.drew) := Z_5.out.grown (Below.refl _ _).drew
      have G_5' : Hid (Below w.heap.size w v5.drew) := G_5.out.drew
      go_wp2_with fail
      go_region_held3 (fun w' => w'.cell? ⟨w.heap.size, 0, none⟩ = some (.int .u64 x0) ∧ w'.cell? ⟨w.heap.size, 1, none⟩ = some (.int .u64 x1) ∧ w'.cell? ⟨w.heap.size, 2, none⟩ = some (.int .u64 x2) ∧ w'.cell? ⟨w.heap.size, 3, none⟩ = some (.int .u64 x3) ∧ w'.cell? ⟨w.heap.size, 4, none⟩ = some (.int .u64 x4) ∧ w'.cell? ⟨gf, 0, none⟩ = some (.int .u64 f0) ∧ w'.cell? ⟨gf, 1, none⟩ = some (.int .u64 f1) ∧ w'.cell? ⟨gf, 2, none⟩ = some (.int .u64 f2) ∧ w'.cell? ⟨gf, 3, none⟩ = some (.int .u64 f3) ∧ w'.cell? ⟨gf, 4, none⟩ = some (.int .u64 f4)) (first | with_reducible assumption | go_keep)
        (first
          | (go_at_call 54; have gg := G_6; clear gg; (refine (Q2.out _).mono ?_); (rintro e v7 ⟨rfl, g⟩; have X_7 := hold (X_6.out.below g); have Y_7 := hold (Y_6.out.below g); have R_7 := hold (R_6.out.below g); have A_7 := hold (A_6.out.below g); have B_7 := hold (B_6.out.below g); have Z_7 := hold (Z_6.out.grown g); have G_7 := hold (G_6.out.trans (g.mono G_6.out.size)); clear g; clear K; have K : v7.cell? ⟨w.heap.size, 0, none⟩ = some (.int .u64 x0) ∧ v7.cell? ⟨w.heap.size, 1, none⟩ = some (.int .u64 x1) ∧ v7.cell? ⟨w.heap.size, 2, none⟩ = some (.int .u64 x2) ∧ v7.cell? ⟨w.heap.size, 3, none⟩ = some (.int .u64 x3) ∧ v7.cell? ⟨w.heap.size, 4, none⟩ = some (.int .u64 x4) ∧ v7.cell? ⟨gf, 0, none⟩ = some (.int .u64 f0) ∧ v7.cell? ⟨gf, 1, none⟩ = some (.int .u64 f1) ∧ v7.cell? ⟨gf, 2, none⟩ = some (.int .u64 f2) ∧ v7.cell? ⟨gf, 3, none⟩ = some (.int .u64 f3) ∧ v7.cell? ⟨gf, 4, none⟩ = some (.int .u64 f4) := ⟨X_7.out.c0, X_7.out.c1, X_7.out.c2, X_7.out.c3, X_7.out.c4, B_7.out.c0, B_7.out.c1, B_7.out.c2, B_7.out.c3, B_7.out.c4⟩))
          | (go_at_call 36; have gg := G_5'; clear gg; (refine (Qg.out _ Z_5'.out).mono ?_); (rintro e v6 ⟨rfl, g⟩; have X_6 := hold (X_5'.out.below g); have Y_6 := hold (Y_5'.out.below g); have R_6 := hold (R_5'.out.below g); have A_6 := hold (A_5'.out.below g); have B_6 := hold (B_5'.out.below g); have Z_6 := hold (Z_5'.out.grown g); have G_6 := hold (G_5'.out.trans (g.mono G_5'.out.size)); clear g; clear K; have K : v6.cell? ⟨w.heap.size, 0, none⟩ = some (.int .u64 x0) ∧ v6.cell? ⟨w.heap.size, 1, none⟩ = some (.int .u64 x1) ∧ v6.cell? ⟨w.heap.size, 2, none⟩ = some (.int .u64 x2) ∧ v6.cell? ⟨w.heap.size, 3, none⟩ = some (.int .u64 x3) ∧ v6.cell? ⟨w.heap.size, 4, none⟩ = some (.int .u64 x4) ∧ v6.cell? ⟨gf, 0, none⟩ = some (.int .u64 f0) ∧ v6.cell? ⟨gf, 1, none⟩ = some (.int .u64 f1) ∧ v6.cell? ⟨gf, 2, none⟩ = some (.int .u64 f2) ∧ v6.cell? ⟨gf, 3, none⟩ = some (.int .u64 f3) ∧ v6.cell? ⟨gf, 4, none⟩ = some (.int .u64 f4) := ⟨X_6.out.c0, X_6.out.c1, X_6.out.c2, X_6.out.c3, X_6.out.c4, B_6.out.c0, B_6.out.c1, B_6.out.c2, B_6.out.c3, B_6.out.c4⟩))
          | fail)
      clear K 
      obtain ⟨zl, -, -, -, -, -, z0, z1, z2, z3, z4⟩ := Z_7.out
      obtain ⟨cal, ca0, ca1, ca2, ca3, ca4, caf⟩ := A_7.out
      go_wp2_with fail
      refine (Qm.out _).mono ?_
      rintro e v8 ⟨rfl, g⟩
      clear cal ca0 ca1 ca2 ca3 ca4 caf
      have X_8 := hold (X_7.out.below g)
      have Y_8 := hold (Y_7.out.below g)
      have R_8 := hold (R_7.out.below g)
      have A_8 := hold (A_7.out.below g)
      have B_8 := hold (B_7.out.below g)
      have Z_8 := hold (Z_7.out.grown g)
      have G_8 := hold (G_7.out.trans (g.mono G_7.out.size))
      clear X_7 Y_7 R_7 A_7 B_7 Z_7 G_7 g
      clear zl z0 z1 z2 z3 z4
      obtain ⟨cal, ca0, ca1, ca2, ca3, ca4, caf⟩ := A_8.out
      go_wp2_with fail
      clear cal ca0 ca1 ca2 ca3 ca4 caf
      refine calls_at (fun V => Bl5 V w.heap.size x0 x1 x2 x3 x4 ∧ Bl5 V (w.heap.size + 1) y0 y1 y2 y3 y4 ∧ Bl5 V (w.heap.size + 1 + 1) 0 0 0 0 0 ∧ Bl5 V v2.heap.size m0 m1 m2 m3 m4 ∧ Bl5 V gf f0 f1 f2 f3 f4 ∧ Gl V ∧ Below w.heap.size w V) ⟨(((((X_8.out.other v2.heap.size 0 (.int .u64 m0) (by omega)).other v2.heap.size 1 (.int .u64 m1) (by omega)).other v2.heap.size 2 (.int .u64 m2) (by omega)).other v2.heap.size 3 (.int .u64 m3) (by omega)).other v2.heap.size 4 (.int .u64 m4) (by omega)), (((((Y_8.out.other v2.heap.size 0 (.int .u64 m0) (by omega)).other v2.heap.size 1 (.int .u64 m1) (by omega)).other v2.heap.size 2 (.int .u64 m2) (by omega)).other v2.heap.size 3 (.int .u64 m3) (by omega)).other v2.heap.size 4 (.int .u64 m4) (by omega)), (((((R_8.out.other v2.heap.size 0 (.int .u64 m0) (by omega)).other v2.heap.size 1 (.int .u64 m1) (by omega)).other v2.heap.size 2 (.int .u64 m2) (by omega)).other v2.heap.size 3 (.int .u64 m3) (by omega)).other v2.heap.size 4 (.int .u64 m4) (by omega)), A_8.out.set m0 m1 m2 m3 m4, (((((B_8.out.other v2.heap.size 0 (.int .u64 m0) (by omega)).other v2.heap.size 1 (.int .u64 m1) (by omega)).other v2.heap.size 2 (.int .u64 m2) (by omega)).other v2.heap.size 3 (.int .u64 m3) (by omega)).other v2.heap.size 4 (.int .u64 m4) (by omega)), Z_8.out.below ((((((Below.refl w.heap.size v8).setCell (show w.heap.size ≤ v2.heap.size by omega) _).setCell (show w.heap.size ≤ v2.heap.size by omega) _).setCell (show w.heap.size ≤ v2.heap.size by omega) _).setCell (show w.heap.size ≤ v2.heap.size by omega) _).setCell (show w.heap.size ≤ v2.heap.size by omega) _) HG.out.lt, (((((G_8.out.setCell (show w.heap.size ≤ v2.heap.size by omega) _).setCell (show w.heap.size ≤ v2.heap.size by omega) _).setCell (show w.heap.size ≤ v2.heap.size by omega) _).setCell (show w.heap.size ≤ v2.heap.size by omega) _).setCell (show w.heap.size ≤ v2.heap.size by omega) _)⟩ ?_
      rintro v9 ⟨k0, k1, k2, k3, k4, k5, k6⟩
      have X_9 : Hid (Bl5 v9 w.heap.size x0 x1 x2 x3 x4) := k0
      have Y_9 : Hid (Bl5 v9 (w.heap.size + 1) y0 y1 y2 y3 y4) := k1
      have R_9 : Hid (Bl5 v9 (w.heap.size + 1 + 1) 0 0 0 0 0) := k2
      have A_9 : Hid (Bl5 v9 v2.heap.size m0 m1 m2 m3 m4) := k3
      have B_9 : Hid (Bl5 v9 gf f0 f1 f2 f3 f4) := k4
      have Z_9 : Hid (Gl v9) := k5
      have G_9 : Hid (Below w.heap.size w v9) := k6
      clear k0 k1 k2 k3 k4 k5 k6 X_8 Y_8 R_8 A_8 B_8 Z_8 G_8
      refine (Qr.out _).mono ?_
      rintro e v10 ⟨rfl, g⟩
      have X_10 := hold (X_9.out.below g)
      have Y_10 := hold (Y_9.out.below g)
      have R_10 := hold (R_9.out.below g)
      have A_10 := hold (A_9.out.below g)
      have B_10 := hold (B_9.out.below g)
      have Z_10 := hold (Z_9.out.grown g)
      have G_10 := hold (G_9.out.trans (g.mono G_9.out.size))
      clear X_9 Y_9 R_9 A_9 B_9 Z_9 G_9 g
      obtain ⟨cal, ca0, ca1, ca2, ca3, ca4, caf⟩ := A_10.out
      go_wp2_with fail
      clear cal ca0 ca1 ca2 ca3 ca4 caf
      refine wp_cut (fun V => Bl5 V w.heap.size x0 x1 x2 x3 x4 ∧ Bl5 V (w.heap.size + 1) y0 y1 y2 y3 y4 ∧ Bl5 V (w.heap.size + 1 + 1) 0 0 0 0 0 ∧ Bl5 V v2.heap.size r0 r1 r2 r3 r4 ∧ Bl5 V gf f0 f1 f2 f3 f4 ∧ Gl V ∧ Below w.heap.size w V) ⟨(((((X_10.out.other v2.heap.size 0 (.int .u64 r0) (by omega)).other v2.heap.size 1 (.int .u64 r1) (by omega)).other v2.heap.size 2 (.int .u64 r2) (by omega)).other v2.heap.size 3 (.int .u64 r3) (by omega)).other v2.heap.size 4 (.int .u64 r4) (by omega)), (((((Y_10.out.other v2.heap.size 0 (.int .u64 r0) (by omega)).other v2.heap.size 1 (.int .u64 r1) (by omega)).other v2.heap.size 2 (.int .u64 r2) (by omega)).other v2.heap.size 3 (.int .u64 r3) (by omega)).other v2.heap.size 4 (.int .u64 r4) (by omega)), (((((R_10.out.other v2.heap.size 0 (.int .u64 r0) (by omega)).other v2.heap.size 1 (.int .u64 r1) (by omega)).other v2.heap.size 2 (.int .u64 r2) (by omega)).other v2.heap.size 3 (.int .u64 r3) (by omega)).other v2.heap.size 4 (.int .u64 r4) (by omega)), A_10.out.set r0 r1 r2 r3 r4, (((((B_10.out.other v2.heap.size 0 (.int .u64 r0) (by omega)).other v2.heap.size 1 (.int .u64 r1) (by omega)).other v2.heap.size 2 (.int .u64 r2) (by omega)).other v2.heap.size 3 (.int .u64 r3) (by omega)).other v2.heap.size 4 (.int .u64 r4) (by omega)), Z_10.out.below ((((((Below.refl w.heap.size v10).setCell (show w.heap.size ≤ v2.heap.size by omega) _).setCell (show w.heap.size ≤ v2.heap.size by omega) _).setCell (show w.heap.size ≤ v2.heap.size by omega) _).setCell (show w.heap.size ≤ v2.heap.size by omega) _).setCell (show w.heap.size ≤ v2.heap.size by omega) _) HG.out.lt, (((((G_10.out.setCell (show w.heap.size ≤ v2.heap.size by omega) _).setCell (show w.heap.size ≤ v2.heap.size by omega) _).setCell (show w.heap.size ≤ v2.heap.size by omega) _).setCell (show w.heap.size ≤ v2.heap.size by omega) _).setCell (show w.heap.size ≤ v2.heap.size by omega) _)⟩ ?_
      rintro v11 ⟨k0, k1, k2, k3, k4, k5, k6⟩
      have X_11 : Hid (Bl5 v11 w.heap.size x0 x1 x2 x3 x4) := k0
      have Y_11 : Hid (Bl5 v11 (w.heap.size + 1) y0 y1 y2 y3 y4) := k1
      have R_11 : Hid (Bl5 v11 (w.heap.size + 1 + 1) 0 0 0 0 0) := k2
      have A_11 : Hid (Bl5 v11 v2.heap.size r0 r1 r2 r3 r4) := k3
      have B_11 : Hid (Bl5 v11 gf f0 f1 f2 f3 f4) := k4
      have Z_11 : Hid (Gl v11) := k5
      have G_11 : Hid (Below w.heap.size w v11) := k6
      clear k0 k1 k2 k3 k4 k5 k6 X_10 Y_10 R_10 A_10 B_10 Z_10 G_10
      have K : v11.drew.cell? ⟨v2.heap.size, 0, none⟩ = some (.int .u64 r0) ∧ v11.drew.cell? ⟨v2.heap.size, 1, none⟩ = some (.int .u64 r1) ∧ v11.drew.cell? ⟨v2.heap.size, 2, none⟩ = some (.int .u64 r2) ∧ v11.drew.cell? ⟨v2.heap.size, 3, none⟩ = some (.int .u64 r3) ∧ v11.drew.cell? ⟨v2.heap.size, 4, none⟩ = some (.int .u64 r4) := ⟨A_11.out.drew.c0, A_11.out.drew.c1, A_11.out.drew.c2, A_11.out.drew.c3, A_11.out.drew.c4⟩
      have X_11' : Hid (Bl5 v11.drew w.heap.size x0 x1 x2 x3 x4) := X_11.out.drew
      have Y_11' : Hid (Bl5 v11.drew (w.heap.size + 1) y0 y1 y2 y3 y4) := Y_11.out.drew
      have R_11' : Hid (Bl5 v11.drew (w.heap.size + 1 + 1) 0 0 0 0 0) := R_11.out.drew
      have A_11' : Hid (Bl5 v11.drew v2.heap.size r0 r1 r2 r3 r4) := A_11.out.drew
      have B_11' : Hid (Bl5 v11.drew gf f0 f1 f2 f3 f4) := B_11.out.drew
      have Z_11' : Hid (Gl v11.drew) := Z_11.out.grown (Below.refl _ _).drew
      have G_11' : Hid (Below w.heap.size w v11.drew) := G_11.out.drew
      have neA : ¬ ((w.heap.size + 1 + 1) = v2.heap.size) := by omega
      have neA' : ¬ (v2.heap.size = (w.heap.size + 1 + 1)) := by omega
      go_wp2_with fail
      go_region_held3 (fun w' => w'.cell? ⟨v2.heap.size, 0, none⟩ = some (.int .u64 r0) ∧ w'.cell? ⟨v2.heap.size, 1, none⟩ = some (.int .u64 r1) ∧ w'.cell? ⟨v2.heap.size, 2, none⟩ = some (.int .u64 r2) ∧ w'.cell? ⟨v2.heap.size, 3, none⟩ = some (.int .u64 r3) ∧ w'.cell? ⟨v2.heap.size, 4, none⟩ = some (.int .u64 r4)) (first | with_reducible assumption | go_keep)
        (first
          | (go_at_call 66; have gg := G_13; clear gg; (refine (Qt.out _).mono ?_); (rintro e v14 ⟨rfl, g⟩; have X_14 := hold (X_13.out.below g); have Y_14 := hold (Y_13.out.below g); have R_14 := hold (R_13.out.below g); have A_14 := hold (A_13.out.below g); have B_14 := hold (B_13.out.below g); have Z_14 := hold (Z_13.out.grown g); have G_14 := hold (G_13.out.trans (g.mono G_13.out.size)); clear g; clear K; have K : v14.cell? ⟨v2.heap.size, 0, none⟩ = some (.int .u64 r0) ∧ v14.cell? ⟨v2.heap.size, 1, none⟩ = some (.int .u64 r1) ∧ v14.cell? ⟨v2.heap.size, 2, none⟩ = some (.int .u64 r2) ∧ v14.cell? ⟨v2.heap.size, 3, none⟩ = some (.int .u64 r3) ∧ v14.cell? ⟨v2.heap.size, 4, none⟩ = some (.int .u64 r4) := ⟨A_14.out.c0, A_14.out.c1, A_14.out.c2, A_14.out.c3, A_14.out.c4⟩; obtain ⟨stl, st0, st1, st2, st3, st4, stf⟩ := R_14.out))
          | (go_at_call 86; have gg := G_12; clear gg; (refine (Qs.out _).mono ?_); (rintro e v13 ⟨rfl, g⟩; have X_13 := hold (X_12.out.below g); have Y_13 := hold (Y_12.out.below g); have R_13 := hold (R_12.out.below g); have A_13 := hold (A_12.out.below g); have B_13 := hold (B_12.out.below g); have Z_13 := hold (Z_12.out.grown g); have G_13 := hold (G_12.out.trans (g.mono G_12.out.size)); clear g; clear K; have K : v13.cell? ⟨v2.heap.size, 0, none⟩ = some (.int .u64 r0) ∧ v13.cell? ⟨v2.heap.size, 1, none⟩ = some (.int .u64 r1) ∧ v13.cell? ⟨v2.heap.size, 2, none⟩ = some (.int .u64 r2) ∧ v13.cell? ⟨v2.heap.size, 3, none⟩ = some (.int .u64 r3) ∧ v13.cell? ⟨v2.heap.size, 4, none⟩ = some (.int .u64 r4) := ⟨A_13.out.c0, A_13.out.c1, A_13.out.c2, A_13.out.c3, A_13.out.c4⟩))
          | (go_at_call 36; have gg := G_11'; clear gg; (refine (Qh.out _ Z_11'.out).mono ?_); (rintro e v12 ⟨rfl, g⟩; have X_12 := hold (X_11'.out.below g); have Y_12 := hold (Y_11'.out.below g); have R_12 := hold (R_11'.out.below g); have A_12 := hold (A_11'.out.below g); have B_12 := hold (B_11'.out.below g); have Z_12 := hold (Z_11'.out.grown g); have G_12 := hold (G_11'.out.trans (g.mono G_11'.out.size)); clear g; clear K; have K : v12.cell? ⟨v2.heap.size, 0, none⟩ = some (.int .u64 r0) ∧ v12.cell? ⟨v2.heap.size, 1, none⟩ = some (.int .u64 r1) ∧ v12.cell? ⟨v2.heap.size, 2, none⟩ = some (.int .u64 r2) ∧ v12.cell? ⟨v2.heap.size, 3, none⟩ = some (.int .u64 r3) ∧ v12.cell? ⟨v2.heap.size, 4, none⟩ = some (.int .u64 r4) := ⟨A_12.out.c0, A_12.out.c1, A_12.out.c2, A_12.out.c3, A_12.out.c4⟩))
          | fail)
      clear K neA neA'
      go_wp2_with fail
      refine body_cut (fun W => Bl5 W (w.heap.size + 1 + 1) t0 t1 t2 t3 t4 ∧ Below w.heap.size w W) ⟨R_14.out.set t0 t1 t2 t3 t4, ?_⟩ ?_
      · iterate 5 (refine Below.setCell ?_ (by simp <;> omega) _)
        exact G_14.out
      · rintro W ⟨⟨rl, r0, r1, r2, r3, r4, rf⟩, hb⟩
        exact bodyPost_ret (v := .tuple #[.agg #[.int .u64 t0, .int .u64 t1, .int .u64 t2, .int .u64 t3, .int .u64 t4], .bool true]) (by simp [results, Tryd.results67, go_sem, r0, r1, r2, r3, r4]) rfl ⟨rfl, hb⟩
    · rw [if_neg h1, if_neg h1, if_neg h2, if_neg h2]
      refine ⟨⟨0, 0, 0, 0, 0⟩, low_zero, by decide, fun w HG' => ?_⟩
      rw [decide_eq_false (fun h => h1 (d1.1 h))] at ks1
      rw [decide_eq_false (fun h => h2 (d2.1 h))] at ks2
      have HG : Hid (Gl w) := HG'
      clear HG' vf vq vg d1 d2 en eq ef eg hn hq hf hg h1 h2 hx hy
      obtain ⟨x0, x1, x2, x3, x4⟩ := x
      obtain ⟨y0, y1, y2, y3, y4⟩ := y
      obtain ⟨n0, n1, n2, n3, n4⟩ := n
      obtain ⟨q0, q1, q2, q3, q4⟩ := q
      obtain ⟨f0, f1, f2, f3, f4⟩ := f
      obtain ⟨g0, g1, g2, g3, g4⟩ := g
      dsimp only at kn kq kf ks1 kg ks2 ⊢
      have Qn : Hid (∀ w : World, Calls Tryd.prog 85 #[.agg #[.int .u64 x0, .int .u64 x1, .int .u64 x2, .int .u64 x3, .int .u64 x4], .agg #[.int .u64 y0, .int .u64 y1, .int .u64 y2, .int .u64 y3, .int .u64 y4]] w fun e w' => e = .returned (.agg #[.int .u64 n0, .int .u64 n1, .int .u64 n2, .int .u64 n3, .int .u64 n4]) ∧ Below w.heap.size w w') := kn
      have Qq : Hid (∀ w : World, Calls Tryd.prog 51 #[.agg #[.int .u64 n0, .int .u64 n1, .int .u64 n2, .int .u64 n3, .int .u64 n4], .int .i64 1] w fun e w' => e = .returned (.agg #[.int .u64 q0, .int .u64 q1, .int .u64 q2, .int .u64 q3, .int .u64 q4]) ∧ Below w.heap.size w w') := kq
      have Qf : Hid (∀ w : World, Calls Tryd.prog 49 #[.agg #[.int .u64 q0, .int .u64 q1, .int .u64 q2, .int .u64 q3, .int .u64 q4], .agg #[.int .u64 y0, .int .u64 y1, .int .u64 y2, .int .u64 y3, .int .u64 y4]] w fun e w' => e = .returned (.agg #[.int .u64 f0, .int .u64 f1, .int .u64 f2, .int .u64 f3, .int .u64 f4]) ∧ Below w.heap.size w w') := kf
      have Q1 : Hid (∀ w : World, Calls Tryd.prog 54 #[.agg #[.int .u64 f0, .int .u64 f1, .int .u64 f2, .int .u64 f3, .int .u64 f4], .agg #[.int .u64 x0, .int .u64 x1, .int .u64 x2, .int .u64 x3, .int .u64 x4]] w fun e w' => e = .returned (.bool false) ∧ Below w.heap.size w w') := ks1
      have Qg : Hid (∀ w : World, Gl w → Calls Tryd.prog 36 #[.agg #[.int .u64 x0, .int .u64 x1, .int .u64 x2, .int .u64 x3, .int .u64 x4]] w fun e w' => e = .returned (.agg #[.int .u64 g0, .int .u64 g1, .int .u64 g2, .int .u64 g3, .int .u64 g4]) ∧ Below w.heap.size w w') := kg
      have Q2 : Hid (∀ w : World, Calls Tryd.prog 54 #[.agg #[.int .u64 f0, .int .u64 f1, .int .u64 f2, .int .u64 f3, .int .u64 f4], .agg #[.int .u64 g0, .int .u64 g1, .int .u64 g2, .int .u64 g3, .int .u64 g4]] w fun e w' => e = .returned (.bool false) ∧ Below w.heap.size w w') := ks2
      clear kn kq kf ks1 kg ks2
      have gl := HG.out.lt
      go_enter Tryd.func67, Tryd.ntmps67
      go_wp2_with fail
      refine calls_at (fun V => Bl5 V w.heap.size x0 x1 x2 x3 x4 ∧ Bl5 V (w.heap.size + 1) y0 y1 y2 y3 y4 ∧ Bl5 V (w.heap.size + 1 + 1) 0 0 0 0 0 ∧ Gl V ∧ Below w.heap.size w V) ⟨?_, ?_, ?_, ?_, ?_⟩ ?_
      · (repeat (first | refine Bl5.drew ?_ | refine Bl5.drewN ?_ _ | (refine Bl5.new _ _ _ _ _ _ _ _ ?_; simp; done) | refine Bl5.alloc ?_ _))
      · (repeat (first | refine Bl5.drew ?_ | refine Bl5.drewN ?_ _ | (refine Bl5.new _ _ _ _ _ _ _ _ ?_; simp; done) | refine Bl5.alloc ?_ _))
      · (repeat (first | refine Bl5.drew ?_ | refine Bl5.drewN ?_ _ | (refine Bl5.new _ _ _ _ _ _ _ _ ?_; simp; done) | refine Bl5.alloc ?_ _))
      · refine Gl.grown HG.out ?_
        (repeat (first | exact Below.refl _ _ | refine Below.drew ?_ | refine below_drewN ?_ _ | refine Below.alloc ?_ (by simp <;> omega) _))
      · (repeat (first | exact Below.refl _ _ | refine Below.drew ?_ | refine below_drewN ?_ _ | refine Below.alloc ?_ (by simp <;> omega) _ | refine Below.setCell ?_ (by simp <;> omega) _))
      rintro v1 ⟨k0, k1, k2, k3, k4⟩
      have X_1 : Hid (Bl5 v1 w.heap.size x0 x1 x2 x3 x4) := k0
      have Y_1 : Hid (Bl5 v1 (w.heap.size + 1) y0 y1 y2 y3 y4) := k1
      have R_1 : Hid (Bl5 v1 (w.heap.size + 1 + 1) 0 0 0 0 0) := k2
      have Z_1 : Hid (Gl v1) := k3
      have G_1 : Hid (Below w.heap.size w v1) := k4
      clear k0 k1 k2 k3 k4
      refine (Qn.out _).mono ?_
      rintro e v2 ⟨rfl, g⟩
      have X_2 := hold (X_1.out.below g)
      have Y_2 := hold (Y_1.out.below g)
      have R_2 := hold (R_1.out.below g)
      have Z_2 := hold (Z_1.out.grown g)
      have G_2 := hold (G_1.out.trans (g.mono G_1.out.size))
      clear X_1 Y_1 R_1 Z_1 G_1 g
      go_wp2_with fail
      have szA : w.heap.size ≤ v2.heap.size := G_2.out.size
      have nbAX : ¬ (v2.heap.size = w.heap.size) := by have := X_2.out.lt; omega
      have nbAY : ¬ (v2.heap.size = (w.heap.size + 1)) := by have := Y_2.out.lt; omega
      have nbAR : ¬ (v2.heap.size = (w.heap.size + 1 + 1)) := by have := R_2.out.lt; omega
      refine wp_cut (fun V => Bl5 V w.heap.size x0 x1 x2 x3 x4 ∧ Bl5 V (w.heap.size + 1) y0 y1 y2 y3 y4 ∧ Bl5 V (w.heap.size + 1 + 1) 0 0 0 0 0 ∧ Gl V ∧ Bl5 V v2.heap.size n0 n1 n2 n3 n4 ∧ Below w.heap.size w V) ⟨X_2.out.alloc _, Y_2.out.alloc _, R_2.out.alloc _, Z_2.out.grown ((Below.refl _ _).alloc (Nat.le_refl _) _), Bl5.new v2 _ _ _ _ _ _ _ rfl, G_2.out.alloc G_2.out.size _⟩ ?_
      rintro v3 ⟨k0, k1, k2, k3, k4, k5⟩
      have X_3 : Hid (Bl5 v3 w.heap.size x0 x1 x2 x3 x4) := k0
      have Y_3 : Hid (Bl5 v3 (w.heap.size + 1) y0 y1 y2 y3 y4) := k1
      have R_3 : Hid (Bl5 v3 (w.heap.size + 1 + 1) 0 0 0 0 0) := k2
      have Z_3 : Hid (Gl v3) := k3
      have A_3 : Hid (Bl5 v3 v2.heap.size n0 n1 n2 n3 n4) := k4
      have G_3 : Hid (Below w.heap.size w v3) := k5
      clear k0 k1 k2 k3 k4 k5 X_2 Y_2 R_2 Z_2 G_2
      refine wp_region_grow (ob := (fun k => if k = 4 then some (.cells #[.int .u64 0, .int .u64 0, .int .u64 0, .int .u64 0, .int .u64 0] 26) else none)) (st := (fun k => if k = 5 then some (4, .cells #[.int .u64 f0, .int .u64 f1, .int .u64 f2, .int .u64 f3, .int .u64 f4] 26) else none)) (by kernel_rfl) ?_
      simp only [List.size_toArray, List.length_cons, List.length_nil, Nat.reduceAdd, Array.replicate_succ, Array.replicate_zero, List.push_toArray, List.nil_append, List.cons_append]
      refine g_first 0 _ (.agg #[.int .u64 n0, .int .u64 n1, .int .u64 n2, .int .u64 n3, .int .u64 n4]) rfl rfl rfl (by kernel_rfl) (by kernel_rfl) (by kernel_rfl) ?_ ?_
      · refine Or.inl ⟨by rfl, fun w' hw' => ?_⟩
        obtain ⟨t0, t1, t2, t3, t4, t5, t6⟩ := A_3.out.below hw'
        unfold Oper.quietAt
        go_simp
      try simp only [List.getElem_toArray, List.getElem_cons_zero, List.getElem_cons_succ, Act.put, List.setIfInBounds_toArray, List.set_cons_zero, List.set_cons_succ]
      refine g_first 1 _ (.agg #[.int .u64 q0, .int .u64 q1, .int .u64 q2, .int .u64 q3, .int .u64 q4]) rfl rfl rfl (by kernel_rfl) (by kernel_rfl) (by kernel_rfl) ?_ ?_
      · refine Or.inl ⟨by rfl, fun w' hw' => ?_⟩
        refine quiet_call (by go_simp) (Qq.out w')
      try simp only [List.getElem_toArray, List.getElem_cons_zero, List.getElem_cons_succ, Act.put, List.setIfInBounds_toArray, List.set_cons_zero, List.set_cons_succ]
      refine g_first 2 _ (.agg #[.int .u64 y0, .int .u64 y1, .int .u64 y2, .int .u64 y3, .int .u64 y4]) rfl rfl rfl (by kernel_rfl) (by kernel_rfl) (by kernel_rfl) ?_ ?_
      · refine Or.inl ⟨by rfl, fun w' hw' => ?_⟩
        obtain ⟨t0, t1, t2, t3, t4, t5, t6⟩ := Y_3.out.below hw'
        unfold Oper.quietAt
        go_simp
      try simp only [List.getElem_toArray, List.getElem_cons_zero, List.getElem_cons_succ, Act.put, List.setIfInBounds_toArray, List.set_cons_zero, List.set_cons_succ]
      refine g_first 3 _ (.agg #[.int .u64 f0, .int .u64 f1, .int .u64 f2, .int .u64 f3, .int .u64 f4]) rfl rfl rfl (by kernel_rfl) (by kernel_rfl) (by kernel_rfl) ?_ ?_
      · refine Or.inl ⟨by rfl, fun w' hw' => ?_⟩
        refine quiet_call (by go_simp) (Qf.out w')
      try simp only [List.getElem_toArray, List.getElem_cons_zero, List.getElem_cons_succ, Act.put, List.setIfInBounds_toArray, List.set_cons_zero, List.set_cons_succ]
      refine g_make 4 _ (.cells #[.int .u64 0, .int .u64 0, .int .u64 0, .int .u64 0, .int .u64 0] 26) (fun k => k == 4) rfl rfl rfl rfl ?_ ?_ (by kernel_rfl) (by kernel_rfl) (by kernel_rfl) (by kernel_rfl) (fun gf => ?_)
      · intro a w
        go_simp
      · intro j hj
        simp only [beq_iff_eq] at hj
        subst hj
        left; simp
      try simp only [List.getElem_toArray, List.getElem_cons_zero, List.getElem_cons_succ, Act.put, List.setIfInBounds_toArray, List.set_cons_zero, List.set_cons_succ]
      refine g_store 5 4 _ (.cells #[.int .u64 f0, .int .u64 f1, .int .u64 f2, .int .u64 f3, .int .u64 f4] 26) gf (.cells #[.int .u64 0, .int .u64 0, .int .u64 0, .int .u64 0, .int .u64 0] 26) (fun k => false) rfl rfl rfl rfl ?_ (by kernel_rfl) (by kernel_rfl) (by kernel_rfl) (by kernel_rfl) (by simp [upd]) ?_ ?_
      · intro j hj
        simp at hj
      · intro w' hh
        obtain ⟨k0, k1, k2, k3, k4, k5, k6⟩ := bl5_of_heap hh
        refine ⟨(((((w'.setCell ⟨gf, 0, none⟩ (.int .u64 f0)).setCell ⟨gf, 1, none⟩ (.int .u64 f1)).setCell ⟨gf, 2, none⟩ (.int .u64 f2)).setCell ⟨gf, 3, none⟩ (.int .u64 f3)).setCell ⟨gf, 4, none⟩ (.int .u64 f4)), ?_, turned_set5 _ _ _ _ _ hh⟩
        clear hh
        go_simp
      try simp only [List.getElem_toArray, List.getElem_cons_zero, List.getElem_cons_succ, Act.put, List.setIfInBounds_toArray, List.set_cons_zero, List.set_cons_succ]
      refine ⟨by kernel_rfl, fun v4 hV => ?_⟩
      have own := hV.own 4 _ (by simp [upd]; rfl)
      have g := hV.bel
      have B_4 : Hid (Bl5 v4 gf f0 f1 f2 f3 f4) := bl5_of_heap own.2.2
      have nbBX : ¬ (gf = w.heap.size) := by have h1 := own.1; have h2 := X_3.out.lt; dsimp only at h1; omega
      have nbBY : ¬ (gf = (w.heap.size + 1)) := by have h1 := own.1; have h2 := Y_3.out.lt; dsimp only at h1; omega
      have nbBR : ¬ (gf = (w.heap.size + 1 + 1)) := by have h1 := own.1; have h2 := R_3.out.lt; dsimp only at h1; omega
      have nbBA : ¬ (gf = v2.heap.size) := by have h1 := own.1; have h2 := A_3.out.lt; dsimp only at h1; omega
      have szB : w.heap.size ≤ gf := by have h1 := own.1; have h2 := G_3.out.size; dsimp only at h1; omega
      have X_4 := hold (X_3.out.below g)
      have Y_4 := hold (Y_3.out.below g)
      have R_4 := hold (R_3.out.below g)
      have A_4 := hold (A_3.out.below g)
      have Z_4 := hold (Z_3.out.grown g)
      have G_4 := hold (G_3.out.trans (g.mono G_3.out.size))
      clear own hV g X_3 Y_3 R_3 A_3 Z_3 G_3
      obtain ⟨cbl, cb0, cb1, cb2, cb3, cb4, cbf⟩ := B_4.out
      obtain ⟨cxl, cx0, cx1, cx2, cx3, cx4, cxf⟩ := X_4.out
      go_wp2_with fail
      refine (Q1.out _).mono ?_
      rintro e v5 ⟨rfl, g⟩
      clear cbl cb0 cb1 cb2 cb3 cb4 cbf cxl cx0 cx1 cx2 cx3 cx4 cxf
      have X_5 := hold (X_4.out.below g)
      have Y_5 := hold (Y_4.out.below g)
      have R_5 := hold (R_4.out.below g)
      have A_5 := hold (A_4.out.below g)
      have B_5 := hold (B_4.out.below g)
      have Z_5 := hold (Z_4.out.grown g)
      have G_5 := hold (G_4.out.trans (g.mono G_4.out.size))
      clear X_4 Y_4 R_4 A_4 B_4 Z_4 G_4 g
      go_wp2_with fail
      have K : v5.drew.cell? ⟨w.heap.size, 0, none⟩ = some (.int .u64 x0) ∧ v5.drew.cell? ⟨w.heap.size, 1, none⟩ = some (.int .u64 x1) ∧ v5.drew.cell? ⟨w.heap.size, 2, none⟩ = some (.int .u64 x2) ∧ v5.drew.cell? ⟨w.heap.size, 3, none⟩ = some (.int .u64 x3) ∧ v5.drew.cell? ⟨w.heap.size, 4, none⟩ = some (.int .u64 x4) ∧ v5.drew.cell? ⟨gf, 0, none⟩ = some (.int .u64 f0) ∧ v5.drew.cell? ⟨gf, 1, none⟩ = some (.int .u64 f1) ∧ v5.drew.cell? ⟨gf, 2, none⟩ = some (.int .u64 f2) ∧ v5.drew.cell? ⟨gf, 3, none⟩ = some (.int .u64 f3) ∧ v5.drew.cell? ⟨gf, 4, none⟩ = some (.int .u64 f4) := ⟨X_5.out.drew.c0, X_5.out.drew.c1, X_5.out.drew.c2, X_5.out.drew.c3, X_5.out.drew.c4, B_5.out.drew.c0, B_5.out.drew.c1, B_5.out.drew.c2, B_5.out.drew.c3, B_5.out.drew.c4⟩
      have X_5' : Hid (Bl5 v5.drew w.heap.size x0 x1 x2 x3 x4) := X_5.out.drew
      have Y_5' : Hid (Bl5 v5.drew (w.heap.size + 1) y0 y1 y2 y3 y4) := Y_5.out.drew
      have R_5' : Hid (Bl5 v5.drew (w.heap.size + 1 + 1) 0 0 0 0 0) := R_5.out.drew
      have A_5' : Hid (Bl5 v5.drew v2.heap.size n0 n1 n2 n3 n4) := A_5.out.drew
      have B_5' : Hid (Bl5 v5.drew gf f0 f1 f2 f3 f4) := B_5.out.drew
      have Z_5' : Hid (Gl v5.drew) := Z_5.out.grown (Below.refl _ _).drew
      have G_5' : Hid (Below w.heap.size w v5.drew) := G_5.out.drew
      go_wp2_with fail
      go_region_held3 (fun w' => w'.cell? ⟨w.heap.size, 0, none⟩ = some (.int .u64 x0) ∧ w'.cell? ⟨w.heap.size, 1, none⟩ = some (.int .u64 x1) ∧ w'.cell? ⟨w.heap.size, 2, none⟩ = some (.int .u64 x2) ∧ w'.cell? ⟨w.heap.size, 3, none⟩ = some (.int .u64 x3) ∧ w'.cell? ⟨w.heap.size, 4, none⟩ = some (.int .u64 x4) ∧ w'.cell? ⟨gf, 0, none⟩ = some (.int .u64 f0) ∧ w'.cell? ⟨gf, 1, none⟩ = some (.int .u64 f1) ∧ w'.cell? ⟨gf, 2, none⟩ = some (.int .u64 f2) ∧ w'.cell? ⟨gf, 3, none⟩ = some (.int .u64 f3) ∧ w'.cell? ⟨gf, 4, none⟩ = some (.int .u64 f4)) (first | with_reducible assumption | go_keep)
        (first
          | (go_at_call 54; have gg := G_6; clear gg; (refine (Q2.out _).mono ?_); (rintro e v7 ⟨rfl, g⟩; have X_7 := hold (X_6.out.below g); have Y_7 := hold (Y_6.out.below g); have R_7 := hold (R_6.out.below g); have A_7 := hold (A_6.out.below g); have B_7 := hold (B_6.out.below g); have Z_7 := hold (Z_6.out.grown g); have G_7 := hold (G_6.out.trans (g.mono G_6.out.size)); clear g; clear K; have K : v7.cell? ⟨w.heap.size, 0, none⟩ = some (.int .u64 x0) ∧ v7.cell? ⟨w.heap.size, 1, none⟩ = some (.int .u64 x1) ∧ v7.cell? ⟨w.heap.size, 2, none⟩ = some (.int .u64 x2) ∧ v7.cell? ⟨w.heap.size, 3, none⟩ = some (.int .u64 x3) ∧ v7.cell? ⟨w.heap.size, 4, none⟩ = some (.int .u64 x4) ∧ v7.cell? ⟨gf, 0, none⟩ = some (.int .u64 f0) ∧ v7.cell? ⟨gf, 1, none⟩ = some (.int .u64 f1) ∧ v7.cell? ⟨gf, 2, none⟩ = some (.int .u64 f2) ∧ v7.cell? ⟨gf, 3, none⟩ = some (.int .u64 f3) ∧ v7.cell? ⟨gf, 4, none⟩ = some (.int .u64 f4) := ⟨X_7.out.c0, X_7.out.c1, X_7.out.c2, X_7.out.c3, X_7.out.c4, B_7.out.c0, B_7.out.c1, B_7.out.c2, B_7.out.c3, B_7.out.c4⟩))
          | (go_at_call 36; have gg := G_5'; clear gg; (refine (Qg.out _ Z_5'.out).mono ?_); (rintro e v6 ⟨rfl, g⟩; have X_6 := hold (X_5'.out.below g); have Y_6 := hold (Y_5'.out.below g); have R_6 := hold (R_5'.out.below g); have A_6 := hold (A_5'.out.below g); have B_6 := hold (B_5'.out.below g); have Z_6 := hold (Z_5'.out.grown g); have G_6 := hold (G_5'.out.trans (g.mono G_5'.out.size)); clear g; clear K; have K : v6.cell? ⟨w.heap.size, 0, none⟩ = some (.int .u64 x0) ∧ v6.cell? ⟨w.heap.size, 1, none⟩ = some (.int .u64 x1) ∧ v6.cell? ⟨w.heap.size, 2, none⟩ = some (.int .u64 x2) ∧ v6.cell? ⟨w.heap.size, 3, none⟩ = some (.int .u64 x3) ∧ v6.cell? ⟨w.heap.size, 4, none⟩ = some (.int .u64 x4) ∧ v6.cell? ⟨gf, 0, none⟩ = some (.int .u64 f0) ∧ v6.cell? ⟨gf, 1, none⟩ = some (.int .u64 f1) ∧ v6.cell? ⟨gf, 2, none⟩ = some (.int .u64 f2) ∧ v6.cell? ⟨gf, 3, none⟩ = some (.int .u64 f3) ∧ v6.cell? ⟨gf, 4, none⟩ = some (.int .u64 f4) := ⟨X_6.out.c0, X_6.out.c1, X_6.out.c2, X_6.out.c3, X_6.out.c4, B_6.out.c0, B_6.out.c1, B_6.out.c2, B_6.out.c3, B_6.out.c4⟩))
          | fail)
      clear K 
      obtain ⟨crl, cr0, cr1, cr2, cr3, cr4, crf⟩ := R_7.out
      go_wp2_with fail
      clear crl cr0 cr1 cr2 cr3 cr4 crf
      refine body_cut (fun W => Bl5 W (w.heap.size + 1 + 1) 0 0 0 0 0 ∧ Below w.heap.size w W) ⟨R_7.out.set 0 0 0 0 0, ?_⟩ ?_
      · iterate 5 (refine Below.setCell ?_ (by simp <;> omega) _)
        exact G_7.out
      · rintro W ⟨⟨rl, r0, r1, r2, r3, r4, rf⟩, hb⟩
        exact bodyPost_ret (v := .tuple #[.agg #[.int .u64 0, .int .u64 0, .int .u64 0, .int .u64 0, .int .u64 0], .bool false]) (by simp [results, Tryd.results67, go_sem, r0, r1, r2, r3, r4]) rfl ⟨rfl, hb⟩

end Go.Proofs.YtkbiiolkekpkiaaDoor
