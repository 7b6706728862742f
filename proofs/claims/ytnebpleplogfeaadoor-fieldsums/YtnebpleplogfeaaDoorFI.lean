/-
  The contract of the field's Inv: for a tame element it returns a tame element of the power of p - 2, and changes no memory that was there. Conditions: as each theorem says.
-/
import Derived.Test.YtnebpleplogfeaaDoorFH
import Derived.Test.YtnebpleplogfeaaDoorGrow
namespace Go.Proofs.YtnebpleplogfeaaDoor
open Go.RowKit
set_option linter.unusedVariables false
set_option linter.unusedSimpArgs false

theorem bl5_of_heap {W : World} {g : Nat} {v0 v1 v2 v3 v4 : Int} {t : TypeId} (h : W.heap[g]? = some (.cells #[.int .u64 v0, .int .u64 v1, .int .u64 v2, .int .u64 v3, .int .u64 v4] t)) : Bl5 W g v0 v1 v2 v3 v4 := by
  refine ⟨(Array.getElem?_eq_some_iff.1 h).1, ?_, ?_, ?_, ?_, ?_, fun j => ?_⟩ <;> simp [World.cell?, World.frozen?, h]
theorem set_here5 {w : World} {g : Nat} {c : Array Value} {t : TypeId} {fz : Nat × Nat} (i : Nat) (v : Value) (h : w.heap[g]? = some (.cells c t fz)) : (w.setCell ⟨g, i, none⟩ v).heap[g]? = some (.cells (c.setIfInBounds i v) t fz) := by
  obtain ⟨hlt, h'⟩ := Array.getElem?_eq_some_iff.1 h
  show (w.heap.modify g _)[g]? = _
  rw [Array.getElem?_eq_getElem (by simpa using hlt), Array.getElem_modify_self, h']
  rfl
theorem turned_set5 {w : World} {g : Nat} {t : TypeId} {z0 z1 z2 z3 z4 : Int} (v0 v1 v2 v3 v4 : Int) (h : w.heap[g]? = some (.cells #[.int .u64 z0, .int .u64 z1, .int .u64 z2, .int .u64 z3, .int .u64 z4] t)) :
    Turned w (((((w.setCell ⟨g, 0, none⟩ (.int .u64 v0)).setCell ⟨g, 1, none⟩ (.int .u64 v1)).setCell ⟨g, 2, none⟩ (.int .u64 v2)).setCell ⟨g, 3, none⟩ (.int .u64 v3)).setCell ⟨g, 4, none⟩ (.int .u64 v4)) g (.cells #[.int .u64 v0, .int .u64 v1, .int .u64 v2, .int .u64 v3, .int .u64 v4] t) := by
  have b : Below g w (((((w.setCell ⟨g, 0, none⟩ (.int .u64 v0)).setCell ⟨g, 1, none⟩ (.int .u64 v1)).setCell ⟨g, 2, none⟩ (.int .u64 v2)).setCell ⟨g, 3, none⟩ (.int .u64 v3)).setCell ⟨g, 4, none⟩ (.int .u64 v4)) :=
    (((((Below.refl g w).setCell (Nat.le_refl _) _).setCell (Nat.le_refl _) _).setCell (Nat.le_refl _) _).setCell (Nat.le_refl _) _).setCell (Nat.le_refl _) _
  refine ⟨b.os, b.tape, b.output, by simp, fun k hk => ?_, ?_⟩
  · rw [Below.heap_setCell _ _ _ k hk, Below.heap_setCell _ _ _ k hk, Below.heap_setCell _ _ _ k hk, Below.heap_setCell _ _ _ k hk, Below.heap_setCell _ _ _ k hk]
  · exact (set_here5 4 _ (set_here5 3 _ (set_here5 2 _ (set_here5 1 _ (set_here5 0 _ h))))).trans (by simp)

set_option maxRecDepth 100000 in
set_option maxHeartbeats 8000000 in
theorem inv_fe (x : L5) (hx : x.Tm) : ∃ z : L5, z.Tm ∧ Hid (z.num % (P25 : Int) = x.num ^ (P25 - 2) % (P25 : Int)) ∧ ∀ w : World, Calls Tryd.prog 22 #[.agg #[.int .u64 x.l0, .int .u64 x.l1, .int .u64 x.l2, .int .u64 x.l3, .int .u64 x.l4]] w fun e w' => e = .returned (.agg #[.int .u64 z.l0, .int .u64 z.l1, .int .u64 z.l2, .int .u64 z.l3, .int .u64 z.l4]) ∧ Below w.heap.size w w' := by
  have vx := pow_base x.num
  obtain ⟨b, hb, ub, kb⟩ := join_fe x x 2 2 hx hx (by decide) (by decide)
  have vb := pow_join x.num _ _ _ 2 1 1 5 vx vx ub (by decide +kernel)
  obtain ⟨c, hc, uc, kc⟩ := join_fe b x 1 1 hb hx (by decide) (by decide)
  have vc := pow_join x.num _ _ _ 1 5 1 11 vb vx uc (by decide +kernel)
  obtain ⟨d, hd, vd, kd⟩ := power250_fe x hx
  obtain ⟨t, ht, ut, kt⟩ := join_fe d c 5 5 hd hc (by decide) (by decide)
  have vt := pow_join x.num _ _ _ 5 (2 ^ 250 - 1) 11 (P25 - 2) vd.out vc ut (by decide +kernel)
  refine ⟨t, ht, vt, fun w => ?_⟩
  obtain ⟨x0, x1, x2, x3, x4⟩ := x
  obtain ⟨b0, b1, b2, b3, b4⟩ := b
  obtain ⟨c0, c1, c2, c3, c4⟩ := c
  obtain ⟨d0, d1, d2, d3, d4⟩ := d
  obtain ⟨t0, t1, t2, t3, t4⟩ := t
  dsimp only at kb kc kd kt ⊢
  have Qb : Hid (∀ w : World, Calls Tryd.prog 50 #[.agg #[.int .u64 x0, .int .u64 x1, .int .u64 x2, .int .u64 x3, .int .u64 x4], .int .i64 2, .agg #[.int .u64 x0, .int .u64 x1, .int .u64 x2, .int .u64 x3, .int .u64 x4]] w fun e w' => e = .returned (.agg #[.int .u64 b0, .int .u64 b1, .int .u64 b2, .int .u64 b3, .int .u64 b4]) ∧ Below w.heap.size w w') := kb
  have Qc : Hid (∀ w : World, Calls Tryd.prog 50 #[.agg #[.int .u64 b0, .int .u64 b1, .int .u64 b2, .int .u64 b3, .int .u64 b4], .int .i64 1, .agg #[.int .u64 x0, .int .u64 x1, .int .u64 x2, .int .u64 x3, .int .u64 x4]] w fun e w' => e = .returned (.agg #[.int .u64 c0, .int .u64 c1, .int .u64 c2, .int .u64 c3, .int .u64 c4]) ∧ Below w.heap.size w w') := kc
  have Qd : Hid (∀ w : World, Calls Tryd.prog 51 #[.agg #[.int .u64 x0, .int .u64 x1, .int .u64 x2, .int .u64 x3, .int .u64 x4]] w fun e w' => e = .returned (.agg #[.int .u64 d0, .int .u64 d1, .int .u64 d2, .int .u64 d3, .int .u64 d4]) ∧ Below w.heap.size w w') := kd
  have Qt : Hid (∀ w : World, Calls Tryd.prog 50 #[.agg #[.int .u64 d0, .int .u64 d1, .int .u64 d2, .int .u64 d3, .int .u64 d4], .int .i64 5, .agg #[.int .u64 c0, .int .u64 c1, .int .u64 c2, .int .u64 c3, .int .u64 c4]] w fun e w' => e = .returned (.agg #[.int .u64 t0, .int .u64 t1, .int .u64 t2, .int .u64 t3, .int .u64 t4]) ∧ Below w.heap.size w w') := kt
  clear hx vx hb ub kb vb hc uc kc vc hd vd kd ht ut kt vt
  go_enter Tryd.func22, Tryd.ntmps22
  go_wp2_with fail
  refine wp_cut (fun V => Bl5 V w.heap.size x0 x1 x2 x3 x4 ∧ Bl5 V (w.heap.size + 1) 0 0 0 0 0 ∧ Below w.heap.size w V) ⟨?_, ?_, ?_⟩ ?_
  · (repeat (first | refine Bl5.drew ?_ | refine Bl5.drewN ?_ _ | (refine Bl5.new _ _ _ _ _ _ _ _ ?_; simp; done) | refine Bl5.alloc ?_ _))
  · (repeat (first | refine Bl5.drew ?_ | refine Bl5.drewN ?_ _ | (refine Bl5.new _ _ _ _ _ _ _ _ ?_; simp; done) | refine Bl5.alloc ?_ _))
  · (repeat (first | exact Below.refl _ _ | refine Below.drew ?_ | refine below_drewN ?_ _ | refine Below.alloc ?_ (by simp <;> omega) _ | refine Below.setCell ?_ (by simp <;> omega) _))
  rintro v1 ⟨k0, k1, k2⟩
  have X_1 : Hid (Bl5 v1 w.heap.size x0 x1 x2 x3 x4) := k0
  have R_1 : Hid (Bl5 v1 (w.heap.size + 1) 0 0 0 0 0) := k1
  have G_1 : Hid (Below w.heap.size w v1) := k2
  clear k0 k1 k2
  refine wp_region_grow (ob := (fun k => if k = 5 then some (.cells #[.int .u64 0, .int .u64 0, .int .u64 0, .int .u64 0, .int .u64 0] 24) else none)) (st := (fun k => if k = 6 then some (5, .cells #[.int .u64 c0, .int .u64 c1, .int .u64 c2, .int .u64 c3, .int .u64 c4] 24) else none)) (by kernel_rfl) ?_
  simp only [List.size_toArray, List.length_cons, List.length_nil, Nat.reduceAdd, Array.replicate_succ, Array.replicate_zero, List.push_toArray, List.nil_append, List.cons_append]
  refine g_first 0 _ (.agg #[.int .u64 x0, .int .u64 x1, .int .u64 x2, .int .u64 x3, .int .u64 x4]) rfl rfl rfl (by kernel_rfl) (by kernel_rfl) (by kernel_rfl) ?_ ?_
  · refine Or.inl ⟨by rfl, fun w' hw' => ?_⟩
    obtain ⟨t0, t1, t2, t3, t4, t5, t6⟩ := X_1.out.below hw'
    unfold Oper.quietAt
    go_simp
  try simp only [List.getElem_toArray, List.getElem_cons_zero, List.getElem_cons_succ, Act.put, List.setIfInBounds_toArray, List.set_cons_zero, List.set_cons_succ]
  refine g_first 1 _ (.agg #[.int .u64 x0, .int .u64 x1, .int .u64 x2, .int .u64 x3, .int .u64 x4]) rfl rfl rfl (by kernel_rfl) (by kernel_rfl) (by kernel_rfl) ?_ ?_
  · refine Or.inl ⟨by rfl, fun w' hw' => ?_⟩
    obtain ⟨t0, t1, t2, t3, t4, t5, t6⟩ := X_1.out.below hw'
    unfold Oper.quietAt
    go_simp
  try simp only [List.getElem_toArray, List.getElem_cons_zero, List.getElem_cons_succ, Act.put, List.setIfInBounds_toArray, List.set_cons_zero, List.set_cons_succ]
  refine g_first 2 _ (.agg #[.int .u64 b0, .int .u64 b1, .int .u64 b2, .int .u64 b3, .int .u64 b4]) rfl rfl rfl (by kernel_rfl) (by kernel_rfl) (by kernel_rfl) ?_ ?_
  · refine Or.inl ⟨by rfl, fun w' hw' => ?_⟩
    refine quiet_call (by go_simp) (Qb.out w')
  try simp only [List.getElem_toArray, List.getElem_cons_zero, List.getElem_cons_succ, Act.put, List.setIfInBounds_toArray, List.set_cons_zero, List.set_cons_succ]
  refine g_first 3 _ (.agg #[.int .u64 x0, .int .u64 x1, .int .u64 x2, .int .u64 x3, .int .u64 x4]) rfl rfl rfl (by kernel_rfl) (by kernel_rfl) (by kernel_rfl) ?_ ?_
  · refine Or.inl ⟨by rfl, fun w' hw' => ?_⟩
    obtain ⟨t0, t1, t2, t3, t4, t5, t6⟩ := X_1.out.below hw'
    unfold Oper.quietAt
    go_simp
  try simp only [List.getElem_toArray, List.getElem_cons_zero, List.getElem_cons_succ, Act.put, List.setIfInBounds_toArray, List.set_cons_zero, List.set_cons_succ]
  refine g_first 4 _ (.agg #[.int .u64 c0, .int .u64 c1, .int .u64 c2, .int .u64 c3, .int .u64 c4]) rfl rfl rfl (by kernel_rfl) (by kernel_rfl) (by kernel_rfl) ?_ ?_
  · refine Or.inl ⟨by rfl, fun w' hw' => ?_⟩
    refine quiet_call (by go_simp) (Qc.out w')
  try simp only [List.getElem_toArray, List.getElem_cons_zero, List.getElem_cons_succ, Act.put, List.setIfInBounds_toArray, List.set_cons_zero, List.set_cons_succ]
  refine g_make 5 _ (.cells #[.int .u64 0, .int .u64 0, .int .u64 0, .int .u64 0, .int .u64 0] 24) (fun k => k == 5) rfl rfl rfl rfl ?_ ?_ (by kernel_rfl) (by kernel_rfl) (by kernel_rfl) (by kernel_rfl) (fun gc => ?_)
  · intro a w
    go_simp
  · intro j hj
    simp only [beq_iff_eq] at hj
    subst hj
    left; simp
  try simp only [List.getElem_toArray, List.getElem_cons_zero, List.getElem_cons_succ, Act.put, List.setIfInBounds_toArray, List.set_cons_zero, List.set_cons_succ]
  refine g_store 6 5 _ (.cells #[.int .u64 c0, .int .u64 c1, .int .u64 c2, .int .u64 c3, .int .u64 c4] 24) gc (.cells #[.int .u64 0, .int .u64 0, .int .u64 0, .int .u64 0, .int .u64 0] 24) (fun k => false) rfl rfl rfl rfl ?_ (by kernel_rfl) (by kernel_rfl) (by kernel_rfl) (by kernel_rfl) (by simp [upd]) ?_ ?_
  · intro j hj
    simp at hj
  · intro w' hh
    obtain ⟨k0, k1, k2, k3, k4, k5, k6⟩ := bl5_of_heap hh
    refine ⟨(((((w'.setCell ⟨gc, 0, none⟩ (.int .u64 c0)).setCell ⟨gc, 1, none⟩ (.int .u64 c1)).setCell ⟨gc, 2, none⟩ (.int .u64 c2)).setCell ⟨gc, 3, none⟩ (.int .u64 c3)).setCell ⟨gc, 4, none⟩ (.int .u64 c4)), ?_, turned_set5 _ _ _ _ _ hh⟩
    clear hh
    go_simp
  try simp only [List.getElem_toArray, List.getElem_cons_zero, List.getElem_cons_succ, Act.put, List.setIfInBounds_toArray, List.set_cons_zero, List.set_cons_succ]
  refine ⟨by kernel_rfl, fun v2 hV => ?_⟩
  have own := hV.own 5 _ (by simp [upd]; rfl)
  have g := hV.bel
  have C_2 : Hid (Bl5 v2 gc c0 c1 c2 c3 c4) := bl5_of_heap own.2.2
  have nbCX : ¬ (gc = w.heap.size) := by have h1 := own.1; have h2 := X_1.out.lt; dsimp only at h1; omega
  have nbCR : ¬ (gc = (w.heap.size + 1)) := by have h1 := own.1; have h2 := R_1.out.lt; dsimp only at h1; omega
  have X_2 : Hid (Bl5 v2 w.heap.size x0 x1 x2 x3 x4) := X_1.out.below g
  have R_2 : Hid (Bl5 v2 (w.heap.size + 1) 0 0 0 0 0) := R_1.out.below g
  have G_2 : Hid (Below w.heap.size w v2) := G_1.out.trans (g.mono G_1.out.size)
  clear own hV g X_1 R_1 G_1
  go_wp2_with fail
  have K : v2.drew.cell? ⟨w.heap.size, 0, none⟩ = some (.int .u64 x0) ∧ v2.drew.cell? ⟨w.heap.size, 1, none⟩ = some (.int .u64 x1) ∧ v2.drew.cell? ⟨w.heap.size, 2, none⟩ = some (.int .u64 x2) ∧ v2.drew.cell? ⟨w.heap.size, 3, none⟩ = some (.int .u64 x3) ∧ v2.drew.cell? ⟨w.heap.size, 4, none⟩ = some (.int .u64 x4) ∧ v2.drew.cell? ⟨gc, 0, none⟩ = some (.int .u64 c0) ∧ v2.drew.cell? ⟨gc, 1, none⟩ = some (.int .u64 c1) ∧ v2.drew.cell? ⟨gc, 2, none⟩ = some (.int .u64 c2) ∧ v2.drew.cell? ⟨gc, 3, none⟩ = some (.int .u64 c3) ∧ v2.drew.cell? ⟨gc, 4, none⟩ = some (.int .u64 c4) := ⟨X_2.out.drew.c0, X_2.out.drew.c1, X_2.out.drew.c2, X_2.out.drew.c3, X_2.out.drew.c4, C_2.out.drew.c0, C_2.out.drew.c1, C_2.out.drew.c2, C_2.out.drew.c3, C_2.out.drew.c4⟩
  have X_2' : Hid (Bl5 v2.drew w.heap.size x0 x1 x2 x3 x4) := X_2.out.drew
  have R_2' : Hid (Bl5 v2.drew (w.heap.size + 1) 0 0 0 0 0) := R_2.out.drew
  have C_2' : Hid (Bl5 v2.drew gc c0 c1 c2 c3 c4) := C_2.out.drew
  have G_2' : Hid (Below w.heap.size w v2.drew) := G_2.out.drew
  have neX : ¬ ((w.heap.size + 1) = w.heap.size) := by omega
  have neX' : ¬ (w.heap.size = (w.heap.size + 1)) := by omega
  have neC : ¬ ((w.heap.size + 1) = gc) := by omega
  have neC' : ¬ (gc = (w.heap.size + 1)) := by omega
  go_wp2_with fail
  go_region_held3 (fun w' => w'.cell? ⟨w.heap.size, 0, none⟩ = some (.int .u64 x0) ∧ w'.cell? ⟨w.heap.size, 1, none⟩ = some (.int .u64 x1) ∧ w'.cell? ⟨w.heap.size, 2, none⟩ = some (.int .u64 x2) ∧ w'.cell? ⟨w.heap.size, 3, none⟩ = some (.int .u64 x3) ∧ w'.cell? ⟨w.heap.size, 4, none⟩ = some (.int .u64 x4) ∧ w'.cell? ⟨gc, 0, none⟩ = some (.int .u64 c0) ∧ w'.cell? ⟨gc, 1, none⟩ = some (.int .u64 c1) ∧ w'.cell? ⟨gc, 2, none⟩ = some (.int .u64 c2) ∧ w'.cell? ⟨gc, 3, none⟩ = some (.int .u64 c3) ∧ w'.cell? ⟨gc, 4, none⟩ = some (.int .u64 c4)) (first | with_reducible assumption | go_keep)
    (first
      | (go_at_call 50; have gg := G_3; clear gg; (refine (Qt.out _).mono ?_); (rintro e v4 ⟨rfl, g⟩; have X_4 : Hid (Bl5 v4 w.heap.size x0 x1 x2 x3 x4) := X_3.out.below g; have R_4 : Hid (Bl5 v4 (w.heap.size + 1) 0 0 0 0 0) := R_3.out.below g; have C_4 : Hid (Bl5 v4 gc c0 c1 c2 c3 c4) := C_3.out.below g; have G_4 : Hid (Below w.heap.size w v4) := G_3.out.trans (g.mono G_3.out.size); clear g; clear K; have K : v4.cell? ⟨w.heap.size, 0, none⟩ = some (.int .u64 x0) ∧ v4.cell? ⟨w.heap.size, 1, none⟩ = some (.int .u64 x1) ∧ v4.cell? ⟨w.heap.size, 2, none⟩ = some (.int .u64 x2) ∧ v4.cell? ⟨w.heap.size, 3, none⟩ = some (.int .u64 x3) ∧ v4.cell? ⟨w.heap.size, 4, none⟩ = some (.int .u64 x4) ∧ v4.cell? ⟨gc, 0, none⟩ = some (.int .u64 c0) ∧ v4.cell? ⟨gc, 1, none⟩ = some (.int .u64 c1) ∧ v4.cell? ⟨gc, 2, none⟩ = some (.int .u64 c2) ∧ v4.cell? ⟨gc, 3, none⟩ = some (.int .u64 c3) ∧ v4.cell? ⟨gc, 4, none⟩ = some (.int .u64 c4) := ⟨X_4.out.c0, X_4.out.c1, X_4.out.c2, X_4.out.c3, X_4.out.c4, C_4.out.c0, C_4.out.c1, C_4.out.c2, C_4.out.c3, C_4.out.c4⟩; obtain ⟨stl, st0, st1, st2, st3, st4, stf⟩ := R_4.out))
      | (go_at_call 51; have gg := G_2'; clear gg; (refine (Qd.out _).mono ?_); (rintro e v3 ⟨rfl, g⟩; have X_3 : Hid (Bl5 v3 w.heap.size x0 x1 x2 x3 x4) := X_2'.out.below g; have R_3 : Hid (Bl5 v3 (w.heap.size + 1) 0 0 0 0 0) := R_2'.out.below g; have C_3 : Hid (Bl5 v3 gc c0 c1 c2 c3 c4) := C_2'.out.below g; have G_3 : Hid (Below w.heap.size w v3) := G_2'.out.trans (g.mono G_2'.out.size); clear g; clear K; have K : v3.cell? ⟨w.heap.size, 0, none⟩ = some (.int .u64 x0) ∧ v3.cell? ⟨w.heap.size, 1, none⟩ = some (.int .u64 x1) ∧ v3.cell? ⟨w.heap.size, 2, none⟩ = some (.int .u64 x2) ∧ v3.cell? ⟨w.heap.size, 3, none⟩ = some (.int .u64 x3) ∧ v3.cell? ⟨w.heap.size, 4, none⟩ = some (.int .u64 x4) ∧ v3.cell? ⟨gc, 0, none⟩ = some (.int .u64 c0) ∧ v3.cell? ⟨gc, 1, none⟩ = some (.int .u64 c1) ∧ v3.cell? ⟨gc, 2, none⟩ = some (.int .u64 c2) ∧ v3.cell? ⟨gc, 3, none⟩ = some (.int .u64 c3) ∧ v3.cell? ⟨gc, 4, none⟩ = some (.int .u64 c4) := ⟨X_3.out.c0, X_3.out.c1, X_3.out.c2, X_3.out.c3, X_3.out.c4, C_3.out.c0, C_3.out.c1, C_3.out.c2, C_3.out.c3, C_3.out.c4⟩))
      | fail)
  clear K neX neX' neC neC'
  go_wp2_with fail
  refine body_cut (fun W => Bl5 W (w.heap.size + 1) t0 t1 t2 t3 t4 ∧ Below w.heap.size w W) ⟨R_4.out.set t0 t1 t2 t3 t4, ?_⟩ ?_
  · iterate 5 (refine Below.setCell ?_ (by simp <;> omega) _)
    exact G_4.out
  · rintro W ⟨⟨rl, r0, r1, r2, r3, r4, rf⟩, hb⟩
    exact bodyPost_ret (v := .agg #[.int .u64 t0, .int .u64 t1, .int .u64 t2, .int .u64 t3, .int .u64 t4]) (by simp [results, Tryd.results22, go_sem, r0, r1, r2, r3, r4]) rfl ⟨rfl, hb⟩

end Go.Proofs.YtnebpleplogfeaaDoor
