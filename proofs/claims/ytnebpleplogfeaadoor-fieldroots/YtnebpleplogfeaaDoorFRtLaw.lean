/-
  The walk of the law FieldRoots: for any two elements it returns true and changes no memory that was there, where the package's variables are as the program lays them. Conditions: as each theorem says.
-/
import Derived.Test.YtnebpleplogfeaaDoorFO
namespace Go.Proofs.YtnebpleplogfeaaDoor
open Go.RowKit
set_option linter.unusedVariables false
set_option linter.unusedSimpArgs false

attribute [local go_sem] ext_cell ext_frozen
theorem evn_lt (n : Nat) (h : n < P25) : evn n < P25 := by
  unfold evn
  split
  · exact Nat.mod_lt _ P25_pos
  · exact h
theorem rootN_lt (a : Nat) : rootN a < P25 := by
  unfold rootN
  split
  · exact evn_lt _ (rt1_lt a)
  · split
    · exact evn_lt _ (rt2_lt a)
    · exact P25_pos
theorem even_shl4 (z : Int) (h : Wd z) : bits .and .u64 (IntKind.u64.wrap (z * 2)) 1 = 0 := by
  unfold Wd at h
  obtain ⟨n, rfl⟩ := Int.eq_ofNat_of_zero_le h.1
  have e : IntKind.u64.wrap ((n : Int) * 2) = ((n * 2 % 18446744073709551616 : Nat) : Int) := by rw [IntKind.wrap_u64]; omega
  rw [e, and1_nat _ (Nat.mod_lt _ (by decide))]
  omega
set_option maxRecDepth 100000 in
set_option maxHeartbeats 16000000 in
theorem frt_eq (x y : L5) (hx : x.Wds) (hy : y.Wds) (tx : x.Tm) (ty : y.Tm) (hxy : x.nn = y.nn) (w : World) (hg : Gl w) : Calls Tryd.prog 5 #[.agg #[.int .u64 x.l0, .int .u64 x.l1, .int .u64 x.l2, .int .u64 x.l3, .int .u64 x.l4], .agg #[.int .u64 y.l0, .int .u64 y.l1, .int .u64 y.l2, .int .u64 y.l3, .int .u64 y.l4]] w fun e w' => e = .returned (.bool true) ∧ Below w.heap.size w w' := by
  have HG : Hid (Gl w) := hg
  have kw : Hid (∀ W, Gl W → Calls Tryd.prog 8 #[] W fun e w' => e = .returned (.bool true) ∧ Below W.heap.size W w') := fun W h => awake4_any W h
  have kt' : ∀ W g, Els W g 2 (pickL x y y) → Calls Tryd.prog 9 #[.slice (some ⟨g, 0, none⟩) 2 2] W fun e w' => e = .returned (.bool true) ∧ Below W.heap.size W w' := by
    intro W g h
    refine tame_any (pickL x y y) 2 g (by omega) (fun i hi => ?_) W h true ⟨fun h i hi => ?_, fun h => rfl⟩
    · rcases (show i = 0 ∨ i = 1 by omega) with rfl | rfl
      · exact hx
      · exact hy
    · rcases (show i = 0 ∨ i = 1 by omega) with rfl | rfl
      · exact tx
      · exact ty
  have HE : Hid (∀ W : World, Els (W.alloc (.cells #[.int .u64 x.l0, .int .u64 x.l1, .int .u64 x.l2, .int .u64 x.l3, .int .u64 x.l4, .int .u64 y.l0, .int .u64 y.l1, .int .u64 y.l2, .int .u64 y.l3, .int .u64 y.l4] 24)) W.heap.size 2 (pickL x y y)) := fun W => els_two W x y
  have gl := hg.lt
  obtain ⟨r, hr, er, kr⟩ := root_fe x y tx ty
  have cr := code_rat x.nn_lt y.nn_lt
  rw [cr.1] at kr
  rw [cr.2] at er
  have hlt : ratN x.nn y.nn < P25 := by
    unfold ratN
    split
    · exact P25_pos
    · exact rootN_lt _
  have vr : r.nn = ratN x.nn y.nn := nn_low er hlt
  have ir := fun v w h => is_yes r hr.tm _ vr v w h
  have ox := of_nn x tx
  have oy := of_nn y ty
  have kR := fun u v w h h' => ratioD_num x.nn y.nn u v w h h' x.nn_lt y.nn_lt
  have p1 : (x.num % (P25 : Int) % 2 = 1) ↔ (x.nn % 2 = 1) := by rw [← x.nn_eq]; omega
  have p2 : (x.num % (P25 : Int) = y.num % (P25 : Int)) ↔ (x.nn = y.nn) := by rw [← x.nn_eq, ← y.nn_eq]; omega
  have kN := fun w => negative_fe x tx (decide (x.nn % 2 = 1)) (decide_eq_decide.2 p1.symm) w
  have kO := fun v w h => oddD_num x.nn v w h (Nat.lt_trans x.nn_lt P25_lt22)
  have kS := fun w => same_fe x y tx ty (decide (x.nn = y.nn)) (decide_eq_decide.2 p2.symm) w
  have kC := fun u v w h h' => cmp_num x.nn y.nn u v w h h' 22 (Nat.lt_trans x.nn_lt P25_lt22) (Nat.lt_trans y.nn_lt P25_lt22) (by omega)
  have k1 := fun w => select_yes 1 x y tx ty (by decide) w
  have k2 := fun w => select_no (IntKind.u64.wrap (y.l0 * 2)) x y tx ty (even_shl4 _ hy.1) w
  have E1 := eql5 x.l0 x.l1 x.l2 x.l3 x.l4
  have E2 := eql5 y.l0 y.l1 y.l2 y.l3 y.l4
  rw [decide_eq_true hxy] at kS
  have ho : ord (x.nn : Int) (y.nn : Int) = 0 := (ord_zero _ _).2 hxy
  generalize x.nn = X at *
  generalize y.nn = Y at *
  generalize ratN X Y = Q at *
  generalize ratOk X Y = c at *
  generalize decide (X % 2 = 1) = b at *
  rw [ho] at kC
  clear hg cr er hr hlt vr p1 p2 hx hy tx ty hxy
  obtain ⟨x0, x1, x2, x3, x4⟩ := x
  obtain ⟨y0, y1, y2, y3, y4⟩ := y
  obtain ⟨r0, r1, r2, r3, r4⟩ := r
  dsimp only at kt' kr ir ox oy kN kS k1 k2 E1 E2 HE ⊢
  have Kr : Hid (∀ w : World, Gl w → Calls Tryd.prog 24 #[.agg #[.int .u64 x0, .int .u64 x1, .int .u64 x2, .int .u64 x3, .int .u64 x4], .agg #[.int .u64 y0, .int .u64 y1, .int .u64 y2, .int .u64 y3, .int .u64 y4]] w fun e w' => e = .returned (.tuple #[.agg #[.int .u64 r0, .int .u64 r1, .int .u64 r2, .int .u64 r3, .int .u64 r4], .bool c]) ∧ Below w.heap.size w w') := kr
  have Ir : Hid (∀ v w, Num w v Q → Calls Tryd.prog 11 #[.agg #[.int .u64 r0, .int .u64 r1, .int .u64 r2, .int .u64 r3, .int .u64 r4], v] w fun e w' => e = .returned (.bool true) ∧ Below w.heap.size w w') := ir
  have Ox : Hid (∀ w, Calls Tryd.prog 10 #[.agg #[.int .u64 x0, .int .u64 x1, .int .u64 x2, .int .u64 x3, .int .u64 x4]] w fun e w' => ∃ v, e = .returned v ∧ Num w' v X ∧ Below w.heap.size w w') := ox
  have Oy : Hid (∀ w, Calls Tryd.prog 10 #[.agg #[.int .u64 y0, .int .u64 y1, .int .u64 y2, .int .u64 y3, .int .u64 y4]] w fun e w' => ∃ v, e = .returned v ∧ Num w' v Y ∧ Below w.heap.size w w') := oy
  have KR : Hid (∀ u v w, Num w u X → Num w v Y → Calls Tryd.prog 25 #[u, v] w fun e w' => ∃ v, e = .returned (.tuple #[v, .bool c]) ∧ Num w' v Q ∧ Below w.heap.size w w') := kR
  have KN : Hid (∀ w : World, Calls Tryd.prog 26 #[.agg #[.int .u64 x0, .int .u64 x1, .int .u64 x2, .int .u64 x3, .int .u64 x4]] w fun e w' => e = .returned (.bool b) ∧ Below w.heap.size w w') := kN
  have KO : Hid (∀ v w, Num w v X → Calls Tryd.prog 27 #[v] w fun e w' => e = .returned (.bool b) ∧ Below w.heap.size w w') := kO
  have KS : Hid (∀ w : World, Calls Tryd.prog 28 #[.agg #[.int .u64 x0, .int .u64 x1, .int .u64 x2, .int .u64 x3, .int .u64 x4], .agg #[.int .u64 y0, .int .u64 y1, .int .u64 y2, .int .u64 y3, .int .u64 y4]] w fun e w' => e = .returned (.bool true) ∧ Below w.heap.size w w') := kS
  have KC : Hid (∀ u v w, Num w u X → Num w v Y → Calls Tryd.prog 29 #[u, v] w fun e w' => e = .returned (.int .i64 0) ∧ Below w.heap.size w w') := kC
  have K1 : Hid (∀ w : World, Calls Tryd.prog 30 #[.int .u64 1, .agg #[.int .u64 x0, .int .u64 x1, .int .u64 x2, .int .u64 x3, .int .u64 x4], .agg #[.int .u64 y0, .int .u64 y1, .int .u64 y2, .int .u64 y3, .int .u64 y4]] w fun e w' => e = .returned (.agg #[.int .u64 x0, .int .u64 x1, .int .u64 x2, .int .u64 x3, .int .u64 x4]) ∧ Below w.heap.size w w') := k1
  have K2 : Hid (∀ w : World, Calls Tryd.prog 30 #[.int .u64 (IntKind.u64.wrap (y0 * 2)), .agg #[.int .u64 x0, .int .u64 x1, .int .u64 x2, .int .u64 x3, .int .u64 x4], .agg #[.int .u64 y0, .int .u64 y1, .int .u64 y2, .int .u64 y3, .int .u64 y4]] w fun e w' => e = .returned (.agg #[.int .u64 y0, .int .u64 y1, .int .u64 y2, .int .u64 y3, .int .u64 y4]) ∧ Below w.heap.size w w') := k2
  have Kt : Hid (∀ W g, Els W g 2 (pickL ⟨x0, x1, x2, x3, x4⟩ ⟨y0, y1, y2, y3, y4⟩ ⟨y0, y1, y2, y3, y4⟩) → Calls Tryd.prog 9 #[.slice (some ⟨g, 0, none⟩) 2 2] W fun e w' => e = .returned (.bool true) ∧ Below W.heap.size W w') := kt'
  clear kr ir ox oy kR kN kO kS kC k1 k2 kt'
  go_enter Tryd.func5, Tryd.ntmps5
  go_wp2_with fail
  refine calls_at (fun V => Bl5 V w.heap.size x0 x1 x2 x3 x4 ∧ Bl5 V (w.heap.size + 1) y0 y1 y2 y3 y4 ∧ Gl V ∧ Below w.heap.size w V) ⟨?_, ?_, ?_, ?_⟩ ?_
  · (repeat (first | refine Bl5.drew ?_ | refine Bl5.drewN ?_ _ | (refine Bl5.new _ _ _ _ _ _ _ _ ?_; simp; done) | refine Bl5.alloc ?_ _))
  · (repeat (first | refine Bl5.drew ?_ | refine Bl5.drewN ?_ _ | (refine Bl5.new _ _ _ _ _ _ _ _ ?_; simp; done) | refine Bl5.alloc ?_ _))
  · refine Gl.grown HG.out ?_
    (repeat (first | exact Below.refl _ _ | refine Below.drew ?_ | refine below_drewN ?_ _ | refine Below.alloc ?_ (by simp <;> omega) _))
  · (repeat (first | exact Below.refl _ _ | refine Below.drew ?_ | refine below_drewN ?_ _ | refine Below.alloc ?_ (by simp <;> omega) _ | refine Below.setCell ?_ (by simp <;> omega) _))
  rintro v1 ⟨k0, k1, k2, k3⟩
  have A_1 : Hid (Bl5 v1 w.heap.size x0 x1 x2 x3 x4) := k0
  have B_1 : Hid (Bl5 v1 (w.heap.size + 1) y0 y1 y2 y3 y4) := k1
  have Z_1 : Hid (Gl v1) := k2
  have G_1 : Hid (Below w.heap.size w v1) := k3
  clear k0 k1 k2 k3
  refine (kw.out _ Z_1.out).mono ?_
  rintro e v2 ⟨rfl, g⟩
  have A_2 : Hid (Bl5 v2 w.heap.size x0 x1 x2 x3 x4) := A_1.out.below g
  have B_2 : Hid (Bl5 v2 (w.heap.size + 1) y0 y1 y2 y3 y4) := B_1.out.below g
  have Z_2 : Hid (Gl v2) := Z_1.out.grown g
  have G_2 : Hid (Below w.heap.size w v2) := G_1.out.trans (g.mono G_1.out.size)
  clear A_1 B_1 Z_1 G_1 g
  obtain ⟨cal, ca0, ca1, ca2, ca3, ca4, caf⟩ := A_2.out
  obtain ⟨cbl, cb0, cb1, cb2, cb3, cb4, cbf⟩ := B_2.out
  go_wp2_with fail
  clear cal ca0 ca1 ca2 ca3 ca4 caf cbl cb0 cb1 cb2 cb3 cb4 cbf
  refine calls_at (fun V => Els V v2.heap.size 2 (pickL ⟨x0, x1, x2, x3, x4⟩ ⟨y0, y1, y2, y3, y4⟩ ⟨y0, y1, y2, y3, y4⟩) ∧ Bl5 V w.heap.size x0 x1 x2 x3 x4 ∧ Bl5 V (w.heap.size + 1) y0 y1 y2 y3 y4 ∧ Gl V ∧ Below w.heap.size w V) ⟨HE.out v2, A_2.out.alloc _, B_2.out.alloc _, Z_2.out.grown ((Below.refl _ _).alloc (Nat.le_refl _) _), G_2.out.alloc G_2.out.size _⟩ ?_
  rintro v3 ⟨hE, hA, hB, hZ, hG⟩
  have A_3 : Hid (Bl5 v3 w.heap.size x0 x1 x2 x3 x4) := hA
  have B_3 : Hid (Bl5 v3 (w.heap.size + 1) y0 y1 y2 y3 y4) := hB
  have Z_3 : Hid (Gl v3) := hZ
  have G_3 : Hid (Below w.heap.size w v3) := hG
  have hE' : Hid (Els v3 v2.heap.size 2 (pickL ⟨x0, x1, x2, x3, x4⟩ ⟨y0, y1, y2, y3, y4⟩ ⟨y0, y1, y2, y3, y4⟩)) := hE
  clear hE hA hB hZ hG A_2 B_2 Z_2 G_2
  refine (Kt.out _ _ hE'.out).mono ?_
  rintro e v4 ⟨rfl, g⟩
  have A_4 : Hid (Bl5 v4 w.heap.size x0 x1 x2 x3 x4) := A_3.out.below g
  have B_4 : Hid (Bl5 v4 (w.heap.size + 1) y0 y1 y2 y3 y4) := B_3.out.below g
  have Z_4 : Hid (Gl v4) := Z_3.out.grown g
  have G_4 : Hid (Below w.heap.size w v4) := G_3.out.trans (g.mono G_3.out.size)
  clear A_3 B_3 Z_3 G_3 g
  clear hE'
  go_wp2_with fail
  have K : v4.drew.cell? ⟨w.heap.size, 0, none⟩ = some (.int .u64 x0) ∧ v4.drew.cell? ⟨w.heap.size, 1, none⟩ = some (.int .u64 x1) ∧ v4.drew.cell? ⟨w.heap.size, 2, none⟩ = some (.int .u64 x2) ∧ v4.drew.cell? ⟨w.heap.size, 3, none⟩ = some (.int .u64 x3) ∧ v4.drew.cell? ⟨w.heap.size, 4, none⟩ = some (.int .u64 x4) ∧ v4.drew.cell? ⟨(w.heap.size + 1), 0, none⟩ = some (.int .u64 y0) ∧ v4.drew.cell? ⟨(w.heap.size + 1), 1, none⟩ = some (.int .u64 y1) ∧ v4.drew.cell? ⟨(w.heap.size + 1), 2, none⟩ = some (.int .u64 y2) ∧ v4.drew.cell? ⟨(w.heap.size + 1), 3, none⟩ = some (.int .u64 y3) ∧ v4.drew.cell? ⟨(w.heap.size + 1), 4, none⟩ = some (.int .u64 y4) := ⟨A_4.out.drew.c0, A_4.out.drew.c1, A_4.out.drew.c2, A_4.out.drew.c3, A_4.out.drew.c4, B_4.out.drew.c0, B_4.out.drew.c1, B_4.out.drew.c2, B_4.out.drew.c3, B_4.out.drew.c4⟩
  have A_4' : Hid (Bl5 v4.drew w.heap.size x0 x1 x2 x3 x4) := A_4.out.drew
  have B_4' : Hid (Bl5 v4.drew (w.heap.size + 1) y0 y1 y2 y3 y4) := B_4.out.drew
  have Z_4' : Hid (Gl v4.drew) := Z_4.out.grown (Below.refl _ _).drew
  have G_4' : Hid (Below w.heap.size w v4.drew) := G_4.out.drew
  go_wp2_with fail
  go_region_held3 (fun w' => w'.cell? ⟨w.heap.size, 0, none⟩ = some (.int .u64 x0) ∧ w'.cell? ⟨w.heap.size, 1, none⟩ = some (.int .u64 x1) ∧ w'.cell? ⟨w.heap.size, 2, none⟩ = some (.int .u64 x2) ∧ w'.cell? ⟨w.heap.size, 3, none⟩ = some (.int .u64 x3) ∧ w'.cell? ⟨w.heap.size, 4, none⟩ = some (.int .u64 x4) ∧ w'.cell? ⟨(w.heap.size + 1), 0, none⟩ = some (.int .u64 y0) ∧ w'.cell? ⟨(w.heap.size + 1), 1, none⟩ = some (.int .u64 y1) ∧ w'.cell? ⟨(w.heap.size + 1), 2, none⟩ = some (.int .u64 y2) ∧ w'.cell? ⟨(w.heap.size + 1), 3, none⟩ = some (.int .u64 y3) ∧ w'.cell? ⟨(w.heap.size + 1), 4, none⟩ = some (.int .u64 y4)) (first | with_reducible assumption | go_keep)
    (first
      | (go_at_call 10; have gg := G_5; clear gg; (refine (Oy.out _).mono ?_); (rintro e v6 ⟨v, rfl, hn, g⟩; obtain ⟨Wa, Wc, Wd, rfl⟩ := hn.shape; have W_6 : Hid (Num v6 (.slice Wa Wc Wd) (Y)) := hn; clear hn; have A_6 : Hid (Bl5 v6 w.heap.size x0 x1 x2 x3 x4) := A_5.out.below g; have B_6 : Hid (Bl5 v6 (w.heap.size + 1) y0 y1 y2 y3 y4) := B_5.out.below g; have U_6 : Hid (Num v6 (.slice Ua Uc Ud) (X)) := U_5.out.below g; have Z_6 : Hid (Gl v6) := Z_5.out.grown g; have G_6 : Hid (Below w.heap.size w v6) := G_5.out.trans (g.mono G_5.out.size); clear g; clear K; have K : v6.cell? ⟨w.heap.size, 0, none⟩ = some (.int .u64 x0) ∧ v6.cell? ⟨w.heap.size, 1, none⟩ = some (.int .u64 x1) ∧ v6.cell? ⟨w.heap.size, 2, none⟩ = some (.int .u64 x2) ∧ v6.cell? ⟨w.heap.size, 3, none⟩ = some (.int .u64 x3) ∧ v6.cell? ⟨w.heap.size, 4, none⟩ = some (.int .u64 x4) ∧ v6.cell? ⟨(w.heap.size + 1), 0, none⟩ = some (.int .u64 y0) ∧ v6.cell? ⟨(w.heap.size + 1), 1, none⟩ = some (.int .u64 y1) ∧ v6.cell? ⟨(w.heap.size + 1), 2, none⟩ = some (.int .u64 y2) ∧ v6.cell? ⟨(w.heap.size + 1), 3, none⟩ = some (.int .u64 y3) ∧ v6.cell? ⟨(w.heap.size + 1), 4, none⟩ = some (.int .u64 y4) := ⟨A_6.out.c0, A_6.out.c1, A_6.out.c2, A_6.out.c3, A_6.out.c4, B_6.out.c0, B_6.out.c1, B_6.out.c2, B_6.out.c3, B_6.out.c4⟩))
      | (go_at_call 10; have gg := G_4'; clear gg; (refine (Ox.out _).mono ?_); (rintro e v5 ⟨v, rfl, hn, g⟩; obtain ⟨Ua, Uc, Ud, rfl⟩ := hn.shape; have U_5 : Hid (Num v5 (.slice Ua Uc Ud) (X)) := hn; clear hn; have A_5 : Hid (Bl5 v5 w.heap.size x0 x1 x2 x3 x4) := A_4'.out.below g; have B_5 : Hid (Bl5 v5 (w.heap.size + 1) y0 y1 y2 y3 y4) := B_4'.out.below g; have Z_5 : Hid (Gl v5) := Z_4'.out.grown g; have G_5 : Hid (Below w.heap.size w v5) := G_4'.out.trans (g.mono G_4'.out.size); clear g; clear K; have K : v5.cell? ⟨w.heap.size, 0, none⟩ = some (.int .u64 x0) ∧ v5.cell? ⟨w.heap.size, 1, none⟩ = some (.int .u64 x1) ∧ v5.cell? ⟨w.heap.size, 2, none⟩ = some (.int .u64 x2) ∧ v5.cell? ⟨w.heap.size, 3, none⟩ = some (.int .u64 x3) ∧ v5.cell? ⟨w.heap.size, 4, none⟩ = some (.int .u64 x4) ∧ v5.cell? ⟨(w.heap.size + 1), 0, none⟩ = some (.int .u64 y0) ∧ v5.cell? ⟨(w.heap.size + 1), 1, none⟩ = some (.int .u64 y1) ∧ v5.cell? ⟨(w.heap.size + 1), 2, none⟩ = some (.int .u64 y2) ∧ v5.cell? ⟨(w.heap.size + 1), 3, none⟩ = some (.int .u64 y3) ∧ v5.cell? ⟨(w.heap.size + 1), 4, none⟩ = some (.int .u64 y4) := ⟨A_5.out.c0, A_5.out.c1, A_5.out.c2, A_5.out.c3, A_5.out.c4, B_5.out.c0, B_5.out.c1, B_5.out.c2, B_5.out.c3, B_5.out.c4⟩))
      | fail)
  clear K 
  obtain ⟨cal, ca0, ca1, ca2, ca3, ca4, caf⟩ := A_6.out
  obtain ⟨cbl, cb0, cb1, cb2, cb3, cb4, cbf⟩ := B_6.out
  go_wp2_with fail
  refine (Kr.out _ Z_6.out).mono ?_
  rintro e v7 ⟨rfl, g⟩
  clear cal ca0 ca1 ca2 ca3 ca4 caf cbl cb0 cb1 cb2 cb3 cb4 cbf
  have A_7 : Hid (Bl5 v7 w.heap.size x0 x1 x2 x3 x4) := A_6.out.below g
  have B_7 : Hid (Bl5 v7 (w.heap.size + 1) y0 y1 y2 y3 y4) := B_6.out.below g
  have U_7 : Hid (Num v7 (.slice Ua Uc Ud) (X)) := U_6.out.below g
  have W_7 : Hid (Num v7 (.slice Wa Wc Wd) (Y)) := W_6.out.below g
  have Z_7 : Hid (Gl v7) := Z_6.out.grown g
  have G_7 : Hid (Below w.heap.size w v7) := G_6.out.trans (g.mono G_6.out.size)
  clear A_6 B_6 U_6 W_6 Z_6 G_6 g
  go_wp2_with fail
  have szR : w.heap.size ≤ v7.heap.size := G_7.out.size
  have nbRA : ¬ (v7.heap.size = w.heap.size) := by have := A_7.out.lt; omega
  have nbRB : ¬ (v7.heap.size = (w.heap.size + 1)) := by have := B_7.out.lt; omega
  refine calls_at (fun V => Bl5 V w.heap.size x0 x1 x2 x3 x4 ∧ Bl5 V (w.heap.size + 1) y0 y1 y2 y3 y4 ∧ Num V (.slice Ua Uc Ud) (X) ∧ Num V (.slice Wa Wc Wd) (Y) ∧ Gl V ∧ Bl5 V v7.heap.size r0 r1 r2 r3 r4 ∧ Below w.heap.size w V) ⟨A_7.out.alloc _, B_7.out.alloc _, U_7.out.below ((Below.refl _ _).alloc (Nat.le_refl _) _), W_7.out.below ((Below.refl _ _).alloc (Nat.le_refl _) _), Z_7.out.grown ((Below.refl _ _).alloc (Nat.le_refl _) _), Bl5.new v7 _ _ _ _ _ _ _ rfl, G_7.out.alloc G_7.out.size _⟩ ?_
  rintro v8 ⟨k0, k1, k2, k3, k4, k5, k6⟩
  have A_8 : Hid (Bl5 v8 w.heap.size x0 x1 x2 x3 x4) := k0
  have B_8 : Hid (Bl5 v8 (w.heap.size + 1) y0 y1 y2 y3 y4) := k1
  have U_8 : Hid (Num v8 (.slice Ua Uc Ud) (X)) := k2
  have W_8 : Hid (Num v8 (.slice Wa Wc Wd) (Y)) := k3
  have Z_8 : Hid (Gl v8) := k4
  have R_8 : Hid (Bl5 v8 v7.heap.size r0 r1 r2 r3 r4) := k5
  have G_8 : Hid (Below w.heap.size w v8) := k6
  clear k0 k1 k2 k3 k4 k5 k6 A_7 B_7 U_7 W_7 Z_7 G_7
  refine (KR.out _ _ _ U_8.out W_8.out).mono ?_
  rintro e v9 ⟨v, rfl, hn, g⟩
  obtain ⟨Ta, Tc, Td, rfl⟩ := hn.shape
  have T_9 : Hid (Num v9 (.slice Ta Tc Td) (Q)) := hn
  have A_9 : Hid (Bl5 v9 w.heap.size x0 x1 x2 x3 x4) := A_8.out.below g
  have B_9 : Hid (Bl5 v9 (w.heap.size + 1) y0 y1 y2 y3 y4) := B_8.out.below g
  have R_9 : Hid (Bl5 v9 v7.heap.size r0 r1 r2 r3 r4) := R_8.out.below g
  have U_9 : Hid (Num v9 (.slice Ua Uc Ud) (X)) := U_8.out.below g
  have W_9 : Hid (Num v9 (.slice Wa Wc Wd) (Y)) := W_8.out.below g
  have Z_9 : Hid (Gl v9) := Z_8.out.grown g
  have G_9 : Hid (Below w.heap.size w v9) := G_8.out.trans (g.mono G_8.out.size)
  clear A_8 B_8 R_8 U_8 W_8 Z_8 G_8 g hn
  obtain ⟨cal, ca0, ca1, ca2, ca3, ca4, caf⟩ := A_9.out
  obtain ⟨cbl, cb0, cb1, cb2, cb3, cb4, cbf⟩ := B_9.out
  obtain ⟨crl, cr0, cr1, cr2, cr3, cr4, crf⟩ := R_9.out
  go_wp2_with fail
  refine wp_region_ext (by kernel_rfl) (by kernel_rfl) ?_
  repeat (go_big_quiet_step ((first
    | with_reducible exact calls_ext (Ir.out _ _ (T_9.out.below (ext_below _ _)))
    | with_reducible exact calls_ext (KN.out _)
    | with_reducible exact calls_ext (KO.out _ _ (U_9.out.below (ext_below _ _)))
    | with_reducible exact calls_ext (KS.out _)
    | with_reducible exact calls_ext (KC.out _ _ _ (U_9.out.below (ext_below _ _)) (W_9.out.below (ext_below _ _)))
    | with_reducible exact calls_ext (K1.out _)
    | with_reducible exact calls_ext (K2.out _)
    | fail)))
  refine wpQuiet_nil ?_
  intro W1 hw
  obtain ⟨m, rfl⟩ := hw
  have g := ext_below v9 m
  obtain ⟨v10, hW⟩ : ∃ V, ext v9 m = V := ⟨_, rfl⟩
  rw [hW] at g ⊢
  clear hW
  clear cal ca0 ca1 ca2 ca3 ca4 caf cbl cb0 cb1 cb2 cb3 cb4 cbf crl cr0 cr1 cr2 cr3 cr4 crf
  have A_10 : Hid (Bl5 v10 w.heap.size x0 x1 x2 x3 x4) := A_9.out.below g
  have B_10 : Hid (Bl5 v10 (w.heap.size + 1) y0 y1 y2 y3 y4) := B_9.out.below g
  have R_10 : Hid (Bl5 v10 v7.heap.size r0 r1 r2 r3 r4) := R_9.out.below g
  have U_10 : Hid (Num v10 (.slice Ua Uc Ud) (X)) := U_9.out.below g
  have W_10 : Hid (Num v10 (.slice Wa Wc Wd) (Y)) := W_9.out.below g
  have T_10 : Hid (Num v10 (.slice Ta Tc Td) (Q)) := T_9.out.below g
  have Z_10 : Hid (Gl v10) := Z_9.out.grown g
  have G_10 : Hid (Below w.heap.size w v10) := G_9.out.trans (g.mono G_9.out.size)
  clear A_9 B_9 R_9 U_9 W_9 T_9 Z_9 G_9 g
  go_wp2_with fail
  go_ret
  exact ⟨rfl, G_10.out⟩

set_option maxRecDepth 100000 in
set_option maxHeartbeats 16000000 in
theorem frt_ne (x y : L5) (hx : x.Wds) (hy : y.Wds) (tx : x.Tm) (ty : y.Tm) (hxy : ¬ x.nn = y.nn) (w : World) (hg : Gl w) : Calls Tryd.prog 5 #[.agg #[.int .u64 x.l0, .int .u64 x.l1, .int .u64 x.l2, .int .u64 x.l3, .int .u64 x.l4], .agg #[.int .u64 y.l0, .int .u64 y.l1, .int .u64 y.l2, .int .u64 y.l3, .int .u64 y.l4]] w fun e w' => e = .returned (.bool true) ∧ Below w.heap.size w w' := by
  have HG : Hid (Gl w) := hg
  have kw : Hid (∀ W, Gl W → Calls Tryd.prog 8 #[] W fun e w' => e = .returned (.bool true) ∧ Below W.heap.size W w') := fun W h => awake4_any W h
  have kt' : ∀ W g, Els W g 2 (pickL x y y) → Calls Tryd.prog 9 #[.slice (some ⟨g, 0, none⟩) 2 2] W fun e w' => e = .returned (.bool true) ∧ Below W.heap.size W w' := by
    intro W g h
    refine tame_any (pickL x y y) 2 g (by omega) (fun i hi => ?_) W h true ⟨fun h i hi => ?_, fun h => rfl⟩
    · rcases (show i = 0 ∨ i = 1 by omega) with rfl | rfl
      · exact hx
      · exact hy
    · rcases (show i = 0 ∨ i = 1 by omega) with rfl | rfl
      · exact tx
      · exact ty
  have HE : Hid (∀ W : World, Els (W.alloc (.cells #[.int .u64 x.l0, .int .u64 x.l1, .int .u64 x.l2, .int .u64 x.l3, .int .u64 x.l4, .int .u64 y.l0, .int .u64 y.l1, .int .u64 y.l2, .int .u64 y.l3, .int .u64 y.l4] 24)) W.heap.size 2 (pickL x y y)) := fun W => els_two W x y
  have gl := hg.lt
  obtain ⟨r, hr, er, kr⟩ := root_fe x y tx ty
  have cr := code_rat x.nn_lt y.nn_lt
  rw [cr.1] at kr
  rw [cr.2] at er
  have hlt : ratN x.nn y.nn < P25 := by
    unfold ratN
    split
    · exact P25_pos
    · exact rootN_lt _
  have vr : r.nn = ratN x.nn y.nn := nn_low er hlt
  have ir := fun v w h => is_yes r hr.tm _ vr v w h
  have ox := of_nn x tx
  have oy := of_nn y ty
  have kR := fun u v w h h' => ratioD_num x.nn y.nn u v w h h' x.nn_lt y.nn_lt
  have p1 : (x.num % (P25 : Int) % 2 = 1) ↔ (x.nn % 2 = 1) := by rw [← x.nn_eq]; omega
  have p2 : (x.num % (P25 : Int) = y.num % (P25 : Int)) ↔ (x.nn = y.nn) := by rw [← x.nn_eq, ← y.nn_eq]; omega
  have kN := fun w => negative_fe x tx (decide (x.nn % 2 = 1)) (decide_eq_decide.2 p1.symm) w
  have kO := fun v w h => oddD_num x.nn v w h (Nat.lt_trans x.nn_lt P25_lt22)
  have kS := fun w => same_fe x y tx ty (decide (x.nn = y.nn)) (decide_eq_decide.2 p2.symm) w
  have kC := fun u v w h h' => cmp_num x.nn y.nn u v w h h' 22 (Nat.lt_trans x.nn_lt P25_lt22) (Nat.lt_trans y.nn_lt P25_lt22) (by omega)
  have k1 := fun w => select_yes 1 x y tx ty (by decide) w
  have k2 := fun w => select_no (IntKind.u64.wrap (y.l0 * 2)) x y tx ty (even_shl4 _ hy.1) w
  have E1 := eql5 x.l0 x.l1 x.l2 x.l3 x.l4
  have E2 := eql5 y.l0 y.l1 y.l2 y.l3 y.l4
  rw [decide_eq_false hxy] at kS
  obtain ⟨od, hod⟩ : ∃ o, ord (x.nn : Int) (y.nn : Int) = o := ⟨_, rfl⟩
  have ho : od ≠ 0 := by rw [← hod]; exact fun h => hxy ((ord_zero _ _).1 h)
  have hd1 : decide (od = 0) = false := decide_eq_false ho
  have hd2 : (od == 0) = false := by simp [ho]
  have hd3 : (od = 0) = False := eq_false ho
  generalize x.nn = X at *
  generalize y.nn = Y at *
  generalize ratN X Y = Q at *
  generalize ratOk X Y = c at *
  generalize decide (X % 2 = 1) = b at *
  rw [hod] at kC
  clear hg cr er hr hlt vr p1 p2 hx hy tx ty hxy hod
  obtain ⟨x0, x1, x2, x3, x4⟩ := x
  obtain ⟨y0, y1, y2, y3, y4⟩ := y
  obtain ⟨r0, r1, r2, r3, r4⟩ := r
  dsimp only at kt' kr ir ox oy kN kS k1 k2 E1 E2 HE ⊢
  have Kr : Hid (∀ w : World, Gl w → Calls Tryd.prog 24 #[.agg #[.int .u64 x0, .int .u64 x1, .int .u64 x2, .int .u64 x3, .int .u64 x4], .agg #[.int .u64 y0, .int .u64 y1, .int .u64 y2, .int .u64 y3, .int .u64 y4]] w fun e w' => e = .returned (.tuple #[.agg #[.int .u64 r0, .int .u64 r1, .int .u64 r2, .int .u64 r3, .int .u64 r4], .bool c]) ∧ Below w.heap.size w w') := kr
  have Ir : Hid (∀ v w, Num w v Q → Calls Tryd.prog 11 #[.agg #[.int .u64 r0, .int .u64 r1, .int .u64 r2, .int .u64 r3, .int .u64 r4], v] w fun e w' => e = .returned (.bool true) ∧ Below w.heap.size w w') := ir
  have Ox : Hid (∀ w, Calls Tryd.prog 10 #[.agg #[.int .u64 x0, .int .u64 x1, .int .u64 x2, .int .u64 x3, .int .u64 x4]] w fun e w' => ∃ v, e = .returned v ∧ Num w' v X ∧ Below w.heap.size w w') := ox
  have Oy : Hid (∀ w, Calls Tryd.prog 10 #[.agg #[.int .u64 y0, .int .u64 y1, .int .u64 y2, .int .u64 y3, .int .u64 y4]] w fun e w' => ∃ v, e = .returned v ∧ Num w' v Y ∧ Below w.heap.size w w') := oy
  have KR : Hid (∀ u v w, Num w u X → Num w v Y → Calls Tryd.prog 25 #[u, v] w fun e w' => ∃ v, e = .returned (.tuple #[v, .bool c]) ∧ Num w' v Q ∧ Below w.heap.size w w') := kR
  have KN : Hid (∀ w : World, Calls Tryd.prog 26 #[.agg #[.int .u64 x0, .int .u64 x1, .int .u64 x2, .int .u64 x3, .int .u64 x4]] w fun e w' => e = .returned (.bool b) ∧ Below w.heap.size w w') := kN
  have KO : Hid (∀ v w, Num w v X → Calls Tryd.prog 27 #[v] w fun e w' => e = .returned (.bool b) ∧ Below w.heap.size w w') := kO
  have KS : Hid (∀ w : World, Calls Tryd.prog 28 #[.agg #[.int .u64 x0, .int .u64 x1, .int .u64 x2, .int .u64 x3, .int .u64 x4], .agg #[.int .u64 y0, .int .u64 y1, .int .u64 y2, .int .u64 y3, .int .u64 y4]] w fun e w' => e = .returned (.bool false) ∧ Below w.heap.size w w') := kS
  have KC : Hid (∀ u v w, Num w u X → Num w v Y → Calls Tryd.prog 29 #[u, v] w fun e w' => e = .returned (.int .i64 od) ∧ Below w.heap.size w w') := kC
  have K1 : Hid (∀ w : World, Calls Tryd.prog 30 #[.int .u64 1, .agg #[.int .u64 x0, .int .u64 x1, .int .u64 x2, .int .u64 x3, .int .u64 x4], .agg #[.int .u64 y0, .int .u64 y1, .int .u64 y2, .int .u64 y3, .int .u64 y4]] w fun e w' => e = .returned (.agg #[.int .u64 x0, .int .u64 x1, .int .u64 x2, .int .u64 x3, .int .u64 x4]) ∧ Below w.heap.size w w') := k1
  have K2 : Hid (∀ w : World, Calls Tryd.prog 30 #[.int .u64 (IntKind.u64.wrap (y0 * 2)), .agg #[.int .u64 x0, .int .u64 x1, .int .u64 x2, .int .u64 x3, .int .u64 x4], .agg #[.int .u64 y0, .int .u64 y1, .int .u64 y2, .int .u64 y3, .int .u64 y4]] w fun e w' => e = .returned (.agg #[.int .u64 y0, .int .u64 y1, .int .u64 y2, .int .u64 y3, .int .u64 y4]) ∧ Below w.heap.size w w') := k2
  have Kt : Hid (∀ W g, Els W g 2 (pickL ⟨x0, x1, x2, x3, x4⟩ ⟨y0, y1, y2, y3, y4⟩ ⟨y0, y1, y2, y3, y4⟩) → Calls Tryd.prog 9 #[.slice (some ⟨g, 0, none⟩) 2 2] W fun e w' => e = .returned (.bool true) ∧ Below W.heap.size W w') := kt'
  clear kr ir ox oy kR kN kO kS kC k1 k2 kt'
  go_enter Tryd.func5, Tryd.ntmps5
  go_wp2_with fail
  refine calls_at (fun V => Bl5 V w.heap.size x0 x1 x2 x3 x4 ∧ Bl5 V (w.heap.size + 1) y0 y1 y2 y3 y4 ∧ Gl V ∧ Below w.heap.size w V) ⟨?_, ?_, ?_, ?_⟩ ?_
  · (repeat (first | refine Bl5.drew ?_ | refine Bl5.drewN ?_ _ | (refine Bl5.new _ _ _ _ _ _ _ _ ?_; simp; done) | refine Bl5.alloc ?_ _))
  · (repeat (first | refine Bl5.drew ?_ | refine Bl5.drewN ?_ _ | (refine Bl5.new _ _ _ _ _ _ _ _ ?_; simp; done) | refine Bl5.alloc ?_ _))
  · refine Gl.grown HG.out ?_
    (repeat (first | exact Below.refl _ _ | refine Below.drew ?_ | refine below_drewN ?_ _ | refine Below.alloc ?_ (by simp <;> omega) _))
  · (repeat (first | exact Below.refl _ _ | refine Below.drew ?_ | refine below_drewN ?_ _ | refine Below.alloc ?_ (by simp <;> omega) _ | refine Below.setCell ?_ (by simp <;> omega) _))
  rintro v1 ⟨k0, k1, k2, k3⟩
  have A_1 : Hid (Bl5 v1 w.heap.size x0 x1 x2 x3 x4) := k0
  have B_1 : Hid (Bl5 v1 (w.heap.size + 1) y0 y1 y2 y3 y4) := k1
  have Z_1 : Hid (Gl v1) := k2
  have G_1 : Hid (Below w.heap.size w v1) := k3
  clear k0 k1 k2 k3
  refine (kw.out _ Z_1.out).mono ?_
  rintro e v2 ⟨rfl, g⟩
  have A_2 : Hid (Bl5 v2 w.heap.size x0 x1 x2 x3 x4) := A_1.out.below g
  have B_2 : Hid (Bl5 v2 (w.heap.size + 1) y0 y1 y2 y3 y4) := B_1.out.below g
  have Z_2 : Hid (Gl v2) := Z_1.out.grown g
  have G_2 : Hid (Below w.heap.size w v2) := G_1.out.trans (g.mono G_1.out.size)
  clear A_1 B_1 Z_1 G_1 g
  obtain ⟨cal, ca0, ca1, ca2, ca3, ca4, caf⟩ := A_2.out
  obtain ⟨cbl, cb0, cb1, cb2, cb3, cb4, cbf⟩ := B_2.out
  go_wp2_with fail
  clear cal ca0 ca1 ca2 ca3 ca4 caf cbl cb0 cb1 cb2 cb3 cb4 cbf
  refine calls_at (fun V => Els V v2.heap.size 2 (pickL ⟨x0, x1, x2, x3, x4⟩ ⟨y0, y1, y2, y3, y4⟩ ⟨y0, y1, y2, y3, y4⟩) ∧ Bl5 V w.heap.size x0 x1 x2 x3 x4 ∧ Bl5 V (w.heap.size + 1) y0 y1 y2 y3 y4 ∧ Gl V ∧ Below w.heap.size w V) ⟨HE.out v2, A_2.out.alloc _, B_2.out.alloc _, Z_2.out.grown ((Below.refl _ _).alloc (Nat.le_refl _) _), G_2.out.alloc G_2.out.size _⟩ ?_
  rintro v3 ⟨hE, hA, hB, hZ, hG⟩
  have A_3 : Hid (Bl5 v3 w.heap.size x0 x1 x2 x3 x4) := hA
  have B_3 : Hid (Bl5 v3 (w.heap.size + 1) y0 y1 y2 y3 y4) := hB
  have Z_3 : Hid (Gl v3) := hZ
  have G_3 : Hid (Below w.heap.size w v3) := hG
  have hE' : Hid (Els v3 v2.heap.size 2 (pickL ⟨x0, x1, x2, x3, x4⟩ ⟨y0, y1, y2, y3, y4⟩ ⟨y0, y1, y2, y3, y4⟩)) := hE
  clear hE hA hB hZ hG A_2 B_2 Z_2 G_2
  refine (Kt.out _ _ hE'.out).mono ?_
  rintro e v4 ⟨rfl, g⟩
  have A_4 : Hid (Bl5 v4 w.heap.size x0 x1 x2 x3 x4) := A_3.out.below g
  have B_4 : Hid (Bl5 v4 (w.heap.size + 1) y0 y1 y2 y3 y4) := B_3.out.below g
  have Z_4 : Hid (Gl v4) := Z_3.out.grown g
  have G_4 : Hid (Below w.heap.size w v4) := G_3.out.trans (g.mono G_3.out.size)
  clear A_3 B_3 Z_3 G_3 g
  clear hE'
  go_wp2_with fail
  have K : v4.drew.cell? ⟨w.heap.size, 0, none⟩ = some (.int .u64 x0) ∧ v4.drew.cell? ⟨w.heap.size, 1, none⟩ = some (.int .u64 x1) ∧ v4.drew.cell? ⟨w.heap.size, 2, none⟩ = some (.int .u64 x2) ∧ v4.drew.cell? ⟨w.heap.size, 3, none⟩ = some (.int .u64 x3) ∧ v4.drew.cell? ⟨w.heap.size, 4, none⟩ = some (.int .u64 x4) ∧ v4.drew.cell? ⟨(w.heap.size + 1), 0, none⟩ = some (.int .u64 y0) ∧ v4.drew.cell? ⟨(w.heap.size + 1), 1, none⟩ = some (.int .u64 y1) ∧ v4.drew.cell? ⟨(w.heap.size + 1), 2, none⟩ = some (.int .u64 y2) ∧ v4.drew.cell? ⟨(w.heap.size + 1), 3, none⟩ = some (.int .u64 y3) ∧ v4.drew.cell? ⟨(w.heap.size + 1), 4, none⟩ = some (.int .u64 y4) := ⟨A_4.out.drew.c0, A_4.out.drew.c1, A_4.out.drew.c2, A_4.out.drew.c3, A_4.out.drew.c4, B_4.out.drew.c0, B_4.out.drew.c1, B_4.out.drew.c2, B_4.out.drew.c3, B_4.out.drew.c4⟩
  have A_4' : Hid (Bl5 v4.drew w.heap.size x0 x1 x2 x3 x4) := A_4.out.drew
  have B_4' : Hid (Bl5 v4.drew (w.heap.size + 1) y0 y1 y2 y3 y4) := B_4.out.drew
  have Z_4' : Hid (Gl v4.drew) := Z_4.out.grown (Below.refl _ _).drew
  have G_4' : Hid (Below w.heap.size w v4.drew) := G_4.out.drew
  go_wp2_with fail
  go_region_held3 (fun w' => w'.cell? ⟨w.heap.size, 0, none⟩ = some (.int .u64 x0) ∧ w'.cell? ⟨w.heap.size, 1, none⟩ = some (.int .u64 x1) ∧ w'.cell? ⟨w.heap.size, 2, none⟩ = some (.int .u64 x2) ∧ w'.cell? ⟨w.heap.size, 3, none⟩ = some (.int .u64 x3) ∧ w'.cell? ⟨w.heap.size, 4, none⟩ = some (.int .u64 x4) ∧ w'.cell? ⟨(w.heap.size + 1), 0, none⟩ = some (.int .u64 y0) ∧ w'.cell? ⟨(w.heap.size + 1), 1, none⟩ = some (.int .u64 y1) ∧ w'.cell? ⟨(w.heap.size + 1), 2, none⟩ = some (.int .u64 y2) ∧ w'.cell? ⟨(w.heap.size + 1), 3, none⟩ = some (.int .u64 y3) ∧ w'.cell? ⟨(w.heap.size + 1), 4, none⟩ = some (.int .u64 y4)) (first | with_reducible assumption | go_keep)
    (first
      | (go_at_call 10; have gg := G_5; clear gg; (refine (Oy.out _).mono ?_); (rintro e v6 ⟨v, rfl, hn, g⟩; obtain ⟨Wa, Wc, Wd, rfl⟩ := hn.shape; have W_6 : Hid (Num v6 (.slice Wa Wc Wd) (Y)) := hn; clear hn; have A_6 : Hid (Bl5 v6 w.heap.size x0 x1 x2 x3 x4) := A_5.out.below g; have B_6 : Hid (Bl5 v6 (w.heap.size + 1) y0 y1 y2 y3 y4) := B_5.out.below g; have U_6 : Hid (Num v6 (.slice Ua Uc Ud) (X)) := U_5.out.below g; have Z_6 : Hid (Gl v6) := Z_5.out.grown g; have G_6 : Hid (Below w.heap.size w v6) := G_5.out.trans (g.mono G_5.out.size); clear g; clear K; have K : v6.cell? ⟨w.heap.size, 0, none⟩ = some (.int .u64 x0) ∧ v6.cell? ⟨w.heap.size, 1, none⟩ = some (.int .u64 x1) ∧ v6.cell? ⟨w.heap.size, 2, none⟩ = some (.int .u64 x2) ∧ v6.cell? ⟨w.heap.size, 3, none⟩ = some (.int .u64 x3) ∧ v6.cell? ⟨w.heap.size, 4, none⟩ = some (.int .u64 x4) ∧ v6.cell? ⟨(w.heap.size + 1), 0, none⟩ = some (.int .u64 y0) ∧ v6.cell? ⟨(w.heap.size + 1), 1, none⟩ = some (.int .u64 y1) ∧ v6.cell? ⟨(w.heap.size + 1), 2, none⟩ = some (.int .u64 y2) ∧ v6.cell? ⟨(w.heap.size + 1), 3, none⟩ = some (.int .u64 y3) ∧ v6.cell? ⟨(w.heap.size + 1), 4, none⟩ = some (.int .u64 y4) := ⟨A_6.out.c0, A_6.out.c1, A_6.out.c2, A_6.out.c3, A_6.out.c4, B_6.out.c0, B_6.out.c1, B_6.out.c2, B_6.out.c3, B_6.out.c4⟩))
      | (go_at_call 10; have gg := G_4'; clear gg; (refine (Ox.out _).mono ?_); (rintro e v5 ⟨v, rfl, hn, g⟩; obtain ⟨Ua, Uc, Ud, rfl⟩ := hn.shape; have U_5 : Hid (Num v5 (.slice Ua Uc Ud) (X)) := hn; clear hn; have A_5 : Hid (Bl5 v5 w.heap.size x0 x1 x2 x3 x4) := A_4'.out.below g; have B_5 : Hid (Bl5 v5 (w.heap.size + 1) y0 y1 y2 y3 y4) := B_4'.out.below g; have Z_5 : Hid (Gl v5) := Z_4'.out.grown g; have G_5 : Hid (Below w.heap.size w v5) := G_4'.out.trans (g.mono G_4'.out.size); clear g; clear K; have K : v5.cell? ⟨w.heap.size, 0, none⟩ = some (.int .u64 x0) ∧ v5.cell? ⟨w.heap.size, 1, none⟩ = some (.int .u64 x1) ∧ v5.cell? ⟨w.heap.size, 2, none⟩ = some (.int .u64 x2) ∧ v5.cell? ⟨w.heap.size, 3, none⟩ = some (.int .u64 x3) ∧ v5.cell? ⟨w.heap.size, 4, none⟩ = some (.int .u64 x4) ∧ v5.cell? ⟨(w.heap.size + 1), 0, none⟩ = some (.int .u64 y0) ∧ v5.cell? ⟨(w.heap.size + 1), 1, none⟩ = some (.int .u64 y1) ∧ v5.cell? ⟨(w.heap.size + 1), 2, none⟩ = some (.int .u64 y2) ∧ v5.cell? ⟨(w.heap.size + 1), 3, none⟩ = some (.int .u64 y3) ∧ v5.cell? ⟨(w.heap.size + 1), 4, none⟩ = some (.int .u64 y4) := ⟨A_5.out.c0, A_5.out.c1, A_5.out.c2, A_5.out.c3, A_5.out.c4, B_5.out.c0, B_5.out.c1, B_5.out.c2, B_5.out.c3, B_5.out.c4⟩))
      | fail)
  clear K 
  obtain ⟨cal, ca0, ca1, ca2, ca3, ca4, caf⟩ := A_6.out
  obtain ⟨cbl, cb0, cb1, cb2, cb3, cb4, cbf⟩ := B_6.out
  go_wp2_with fail
  refine (Kr.out _ Z_6.out).mono ?_
  rintro e v7 ⟨rfl, g⟩
  clear cal ca0 ca1 ca2 ca3 ca4 caf cbl cb0 cb1 cb2 cb3 cb4 cbf
  have A_7 : Hid (Bl5 v7 w.heap.size x0 x1 x2 x3 x4) := A_6.out.below g
  have B_7 : Hid (Bl5 v7 (w.heap.size + 1) y0 y1 y2 y3 y4) := B_6.out.below g
  have U_7 : Hid (Num v7 (.slice Ua Uc Ud) (X)) := U_6.out.below g
  have W_7 : Hid (Num v7 (.slice Wa Wc Wd) (Y)) := W_6.out.below g
  have Z_7 : Hid (Gl v7) := Z_6.out.grown g
  have G_7 : Hid (Below w.heap.size w v7) := G_6.out.trans (g.mono G_6.out.size)
  clear A_6 B_6 U_6 W_6 Z_6 G_6 g
  go_wp2_with fail
  have szR : w.heap.size ≤ v7.heap.size := G_7.out.size
  have nbRA : ¬ (v7.heap.size = w.heap.size) := by have := A_7.out.lt; omega
  have nbRB : ¬ (v7.heap.size = (w.heap.size + 1)) := by have := B_7.out.lt; omega
  refine calls_at (fun V => Bl5 V w.heap.size x0 x1 x2 x3 x4 ∧ Bl5 V (w.heap.size + 1) y0 y1 y2 y3 y4 ∧ Num V (.slice Ua Uc Ud) (X) ∧ Num V (.slice Wa Wc Wd) (Y) ∧ Gl V ∧ Bl5 V v7.heap.size r0 r1 r2 r3 r4 ∧ Below w.heap.size w V) ⟨A_7.out.alloc _, B_7.out.alloc _, U_7.out.below ((Below.refl _ _).alloc (Nat.le_refl _) _), W_7.out.below ((Below.refl _ _).alloc (Nat.le_refl _) _), Z_7.out.grown ((Below.refl _ _).alloc (Nat.le_refl _) _), Bl5.new v7 _ _ _ _ _ _ _ rfl, G_7.out.alloc G_7.out.size _⟩ ?_
  rintro v8 ⟨k0, k1, k2, k3, k4, k5, k6⟩
  have A_8 : Hid (Bl5 v8 w.heap.size x0 x1 x2 x3 x4) := k0
  have B_8 : Hid (Bl5 v8 (w.heap.size + 1) y0 y1 y2 y3 y4) := k1
  have U_8 : Hid (Num v8 (.slice Ua Uc Ud) (X)) := k2
  have W_8 : Hid (Num v8 (.slice Wa Wc Wd) (Y)) := k3
  have Z_8 : Hid (Gl v8) := k4
  have R_8 : Hid (Bl5 v8 v7.heap.size r0 r1 r2 r3 r4) := k5
  have G_8 : Hid (Below w.heap.size w v8) := k6
  clear k0 k1 k2 k3 k4 k5 k6 A_7 B_7 U_7 W_7 Z_7 G_7
  refine (KR.out _ _ _ U_8.out W_8.out).mono ?_
  rintro e v9 ⟨v, rfl, hn, g⟩
  obtain ⟨Ta, Tc, Td, rfl⟩ := hn.shape
  have T_9 : Hid (Num v9 (.slice Ta Tc Td) (Q)) := hn
  have A_9 : Hid (Bl5 v9 w.heap.size x0 x1 x2 x3 x4) := A_8.out.below g
  have B_9 : Hid (Bl5 v9 (w.heap.size + 1) y0 y1 y2 y3 y4) := B_8.out.below g
  have R_9 : Hid (Bl5 v9 v7.heap.size r0 r1 r2 r3 r4) := R_8.out.below g
  have U_9 : Hid (Num v9 (.slice Ua Uc Ud) (X)) := U_8.out.below g
  have W_9 : Hid (Num v9 (.slice Wa Wc Wd) (Y)) := W_8.out.below g
  have Z_9 : Hid (Gl v9) := Z_8.out.grown g
  have G_9 : Hid (Below w.heap.size w v9) := G_8.out.trans (g.mono G_8.out.size)
  clear A_8 B_8 R_8 U_8 W_8 Z_8 G_8 g hn
  obtain ⟨cal, ca0, ca1, ca2, ca3, ca4, caf⟩ := A_9.out
  obtain ⟨cbl, cb0, cb1, cb2, cb3, cb4, cbf⟩ := B_9.out
  obtain ⟨crl, cr0, cr1, cr2, cr3, cr4, crf⟩ := R_9.out
  go_wp2_with fail
  refine wp_region_ext (by kernel_rfl) (by kernel_rfl) ?_
  repeat (go_big_quiet_step ((first
    | with_reducible exact calls_ext (Ir.out _ _ (T_9.out.below (ext_below _ _)))
    | with_reducible exact calls_ext (KN.out _)
    | with_reducible exact calls_ext (KO.out _ _ (U_9.out.below (ext_below _ _)))
    | with_reducible exact calls_ext (KS.out _)
    | with_reducible exact calls_ext (KC.out _ _ _ (U_9.out.below (ext_below _ _)) (W_9.out.below (ext_below _ _)))
    | with_reducible exact calls_ext (K1.out _)
    | with_reducible exact calls_ext (K2.out _)
    | fail)))
  refine wpQuiet_nil ?_
  intro W1 hw
  obtain ⟨m, rfl⟩ := hw
  have g := ext_below v9 m
  obtain ⟨v10, hW⟩ : ∃ V, ext v9 m = V := ⟨_, rfl⟩
  rw [hW] at g ⊢
  clear hW
  clear cal ca0 ca1 ca2 ca3 ca4 caf cbl cb0 cb1 cb2 cb3 cb4 cbf crl cr0 cr1 cr2 cr3 cr4 crf
  have A_10 : Hid (Bl5 v10 w.heap.size x0 x1 x2 x3 x4) := A_9.out.below g
  have B_10 : Hid (Bl5 v10 (w.heap.size + 1) y0 y1 y2 y3 y4) := B_9.out.below g
  have R_10 : Hid (Bl5 v10 v7.heap.size r0 r1 r2 r3 r4) := R_9.out.below g
  have U_10 : Hid (Num v10 (.slice Ua Uc Ud) (X)) := U_9.out.below g
  have W_10 : Hid (Num v10 (.slice Wa Wc Wd) (Y)) := W_9.out.below g
  have T_10 : Hid (Num v10 (.slice Ta Tc Td) (Q)) := T_9.out.below g
  have Z_10 : Hid (Gl v10) := Z_9.out.grown g
  have G_10 : Hid (Below w.heap.size w v10) := G_9.out.trans (g.mono G_9.out.size)
  clear A_9 B_9 R_9 U_9 W_9 T_9 Z_9 G_9 g
  go_wp2_with fail
  go_ret
  exact ⟨rfl, G_10.out⟩

set_option maxRecDepth 100000 in
set_option maxHeartbeats 16000000 in
theorem frt_any (x y : L5) (hx : x.Wds) (hy : y.Wds) (w : World) (hg : Gl w) : Calls Tryd.prog 5 #[.agg #[.int .u64 x.l0, .int .u64 x.l1, .int .u64 x.l2, .int .u64 x.l3, .int .u64 x.l4], .agg #[.int .u64 y.l0, .int .u64 y.l1, .int .u64 y.l2, .int .u64 y.l3, .int .u64 y.l4]] w fun e w' => e = .returned (.bool true) ∧ Below w.heap.size w w' := by
  by_cases ht : x.Tm ∧ y.Tm
  · by_cases h : x.nn = y.nn
    · exact frt_eq x y hx hy ht.1 ht.2 h w hg
    · exact frt_ne x y hx hy ht.1 ht.2 h w hg
  · have HG : Hid (Gl w) := hg
    have kw : Hid (∀ W, Gl W → Calls Tryd.prog 8 #[] W fun e w' => e = .returned (.bool true) ∧ Below W.heap.size W w') := fun W h => awake4_any W h
    have kt' : ∀ W g, Els W g 2 (pickL x y y) → Calls Tryd.prog 9 #[.slice (some ⟨g, 0, none⟩) 2 2] W fun e w' => e = .returned (.bool false) ∧ Below W.heap.size W w' := by
      intro W g h
      refine tame_any (pickL x y y) 2 g (by omega) (fun i hi => ?_) W h false ⟨fun h => by simp at h, fun h => absurd ⟨h 0 (by omega), h 1 (by omega)⟩ ht⟩
      rcases (show i = 0 ∨ i = 1 by omega) with rfl | rfl
      · exact hx
      · exact hy
    have HE : Hid (∀ W : World, Els (W.alloc (.cells #[.int .u64 x.l0, .int .u64 x.l1, .int .u64 x.l2, .int .u64 x.l3, .int .u64 x.l4, .int .u64 y.l0, .int .u64 y.l1, .int .u64 y.l2, .int .u64 y.l3, .int .u64 y.l4] 24)) W.heap.size 2 (pickL x y y)) := fun W => els_two W x y
    have gl := hg.lt
    clear hg ht hx hy
    obtain ⟨x0, x1, x2, x3, x4⟩ := x
    obtain ⟨y0, y1, y2, y3, y4⟩ := y
    dsimp only at kt' HE ⊢
    have Kt : Hid (∀ W g, Els W g 2 (pickL ⟨x0, x1, x2, x3, x4⟩ ⟨y0, y1, y2, y3, y4⟩ ⟨y0, y1, y2, y3, y4⟩) → Calls Tryd.prog 9 #[.slice (some ⟨g, 0, none⟩) 2 2] W fun e w' => e = .returned (.bool false) ∧ Below W.heap.size W w') := kt'
    clear kt'
    go_enter Tryd.func5, Tryd.ntmps5
    go_wp2_with fail
    refine calls_at (fun V => Bl5 V w.heap.size x0 x1 x2 x3 x4 ∧ Bl5 V (w.heap.size + 1) y0 y1 y2 y3 y4 ∧ Gl V ∧ Below w.heap.size w V) ⟨?_, ?_, ?_, ?_⟩ ?_
    · (repeat (first | refine Bl5.drew ?_ | refine Bl5.drewN ?_ _ | (refine Bl5.new _ _ _ _ _ _ _ _ ?_; simp; done) | refine Bl5.alloc ?_ _))
    · (repeat (first | refine Bl5.drew ?_ | refine Bl5.drewN ?_ _ | (refine Bl5.new _ _ _ _ _ _ _ _ ?_; simp; done) | refine Bl5.alloc ?_ _))
    · refine Gl.grown HG.out ?_
      (repeat (first | exact Below.refl _ _ | refine Below.drew ?_ | refine below_drewN ?_ _ | refine Below.alloc ?_ (by simp <;> omega) _))
    · (repeat (first | exact Below.refl _ _ | refine Below.drew ?_ | refine below_drewN ?_ _ | refine Below.alloc ?_ (by simp <;> omega) _ | refine Below.setCell ?_ (by simp <;> omega) _))
    rintro v1 ⟨k0, k1, k2, k3⟩
    have A_1 : Hid (Bl5 v1 w.heap.size x0 x1 x2 x3 x4) := k0
    have B_1 : Hid (Bl5 v1 (w.heap.size + 1) y0 y1 y2 y3 y4) := k1
    have Z_1 : Hid (Gl v1) := k2
    have G_1 : Hid (Below w.heap.size w v1) := k3
    clear k0 k1 k2 k3
    refine (kw.out _ Z_1.out).mono ?_
    rintro e v2 ⟨rfl, g⟩
    have A_2 : Hid (Bl5 v2 w.heap.size x0 x1 x2 x3 x4) := A_1.out.below g
    have B_2 : Hid (Bl5 v2 (w.heap.size + 1) y0 y1 y2 y3 y4) := B_1.out.below g
    have Z_2 : Hid (Gl v2) := Z_1.out.grown g
    have G_2 : Hid (Below w.heap.size w v2) := G_1.out.trans (g.mono G_1.out.size)
    clear A_1 B_1 Z_1 G_1 g
    obtain ⟨cal, ca0, ca1, ca2, ca3, ca4, caf⟩ := A_2.out
    obtain ⟨cbl, cb0, cb1, cb2, cb3, cb4, cbf⟩ := B_2.out
    go_wp2_with fail
    clear cal ca0 ca1 ca2 ca3 ca4 caf cbl cb0 cb1 cb2 cb3 cb4 cbf
    refine calls_at (fun V => Els V v2.heap.size 2 (pickL ⟨x0, x1, x2, x3, x4⟩ ⟨y0, y1, y2, y3, y4⟩ ⟨y0, y1, y2, y3, y4⟩) ∧ Bl5 V w.heap.size x0 x1 x2 x3 x4 ∧ Bl5 V (w.heap.size + 1) y0 y1 y2 y3 y4 ∧ Gl V ∧ Below w.heap.size w V) ⟨HE.out v2, A_2.out.alloc _, B_2.out.alloc _, Z_2.out.grown ((Below.refl _ _).alloc (Nat.le_refl _) _), G_2.out.alloc G_2.out.size _⟩ ?_
    rintro v3 ⟨hE, hA, hB, hZ, hG⟩
    have A_3 : Hid (Bl5 v3 w.heap.size x0 x1 x2 x3 x4) := hA
    have B_3 : Hid (Bl5 v3 (w.heap.size + 1) y0 y1 y2 y3 y4) := hB
    have Z_3 : Hid (Gl v3) := hZ
    have G_3 : Hid (Below w.heap.size w v3) := hG
    have hE' : Hid (Els v3 v2.heap.size 2 (pickL ⟨x0, x1, x2, x3, x4⟩ ⟨y0, y1, y2, y3, y4⟩ ⟨y0, y1, y2, y3, y4⟩)) := hE
    clear hE hA hB hZ hG A_2 B_2 Z_2 G_2
    refine (Kt.out _ _ hE'.out).mono ?_
    rintro e v4 ⟨rfl, g⟩
    have A_4 : Hid (Bl5 v4 w.heap.size x0 x1 x2 x3 x4) := A_3.out.below g
    have B_4 : Hid (Bl5 v4 (w.heap.size + 1) y0 y1 y2 y3 y4) := B_3.out.below g
    have Z_4 : Hid (Gl v4) := Z_3.out.grown g
    have G_4 : Hid (Below w.heap.size w v4) := G_3.out.trans (g.mono G_3.out.size)
    clear A_3 B_3 Z_3 G_3 g
    clear hE'
    go_wp2_with fail
    go_ret
    exact ⟨rfl, G_4.out⟩

end Go.Proofs.YtnebpleplogfeaaDoor
