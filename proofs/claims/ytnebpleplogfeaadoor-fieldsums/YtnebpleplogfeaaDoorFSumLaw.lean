/-
  The walk of the law FieldSums: for any two elements and any number it returns true and changes no memory that was there, where the package's variables are as the program lays them. Conditions: as each theorem says.
-/
import Derived.Test.YtnebpleplogfeaaDoorFO
namespace Go.Proofs.YtnebpleplogfeaaDoor
open Go.RowKit
set_option linter.unusedVariables false
set_option linter.unusedSimpArgs false

set_option maxRecDepth 100000 in
set_option maxHeartbeats 16000000 in
theorem fsums_any (x y : L5) (hx : x.Wds) (hy : y.Wds) (n : Nat) (hn : n < 4294967296) (w : World) (hg : Gl w) : Calls Tryd.prog 3 #[.agg #[.int .u64 x.l0, .int .u64 x.l1, .int .u64 x.l2, .int .u64 x.l3, .int .u64 x.l4], .agg #[.int .u64 y.l0, .int .u64 y.l1, .int .u64 y.l2, .int .u64 y.l3, .int .u64 y.l4], .int .u32 (n : Int)] w fun e w' => e = .returned (.bool true) ∧ Below w.heap.size w w' := by
  have HG : Hid (Gl w) := hg
  have kw : Hid (∀ W, Gl W → Calls Tryd.prog 8 #[] W fun e w' => e = .returned (.bool true) ∧ Below W.heap.size W w') := fun W h => awake4_any W h
  have kt : Hid (∀ b, (b = true ↔ (x.Tm ∧ y.Tm)) → ∀ W g, Els W g 2 (pickL x y y) → Calls Tryd.prog 9 #[.slice (some ⟨g, 0, none⟩) 2 2] W fun e w' => e = .returned (.bool b) ∧ Below W.heap.size W w') := by
    intro b hb W g h
    refine tame_any (pickL x y y) 2 g (by omega) (fun i hi => ?_) W h b ⟨fun h i hi => ?_, fun h => hb.2 ⟨h 0 (by omega), h 1 (by omega)⟩⟩
    · rcases (show i = 0 ∨ i = 1 by omega) with rfl | rfl
      · exact hx
      · exact hy
    · rcases (show i = 0 ∨ i = 1 by omega) with rfl | rfl
      · exact (hb.1 h).1
      · exact (hb.1 h).2
  have HE : Hid (∀ W : World, Els (W.alloc (.cells #[.int .u64 x.l0, .int .u64 x.l1, .int .u64 x.l2, .int .u64 x.l3, .int .u64 x.l4, .int .u64 y.l0, .int .u64 y.l1, .int .u64 y.l2, .int .u64 y.l3, .int .u64 y.l4] 24)) W.heap.size 2 (pickL x y y)) := fun W => els_two W x y
  have gl := hg.lt
  clear hg
  by_cases ht : x.Tm ∧ y.Tm
  · have kt' := kt.out true ⟨fun _ => ht, fun _ => rfl⟩
    obtain ⟨tx, ty⟩ := ht
    obtain ⟨p, hp, ep, kp⟩ := add_fe x y tx ty
    obtain ⟨q, hq, eq, kq⟩ := sub_fe x y tx ty
    obtain ⟨r, hr, er, kr⟩ := neg_fe x tx
    obtain ⟨s, hs, es, ks⟩ := mul_fe x y tx ty
    have vp := nn_add x y p ep.out
    have vq := nn_sub x y q eq.out
    have vr : r.nn = (0 + P25 - x.nn) % P25 := by rw [Nat.zero_add]; exact nn_neg x r er.out
    have vs := nn_mul x y s es.out
    have ip := fun v w h => is_yes p hp _ vp v w h
    have iq := fun v w h => is_yes q hq _ vq v w h
    have ir := fun v w h => is_yes r hr _ vr v w h
    have is' := fun v w h => is_yes s hs _ vs v w h
    have hnP : n < P25 := Nat.lt_trans hn (by decide +kernel)
    have in' := fun v w h => is_yes ⟨(n : Int), 0, 0, 0, 0⟩ (tm_small n (by omega)) n (nn_small n hnP) v w h
    have ox := of_nn x tx
    have oy := of_nn y ty
    have bx := nn_lt11 x
    have by' := nn_lt11 y
    have lx := x.nn_lt
    have ly := y.nn_lt
    generalize x.nn = X at *
    generalize y.nn = Y at *
    have dp : Hid (∀ u v w, Num w u X → Num w v Y → Calls Tryd.prog 13 #[u, v] w fun e w' => ∃ r, e = .returned r ∧ Num w' r ((X + Y) % P25) ∧ Below w.heap.size w w') := fun u v w h h' => addD_num X Y u v w h h' bx by'
    have dq : Hid (∀ u v w, Num w u X → Num w v Y → Calls Tryd.prog 15 #[u, v] w fun e w' => ∃ r, e = .returned r ∧ Num w' r ((X + P25 - Y) % P25) ∧ Below w.heap.size w w') := fun u v w h h' => subD_num X Y u v w h h' bx (by omega)
    have dr : Hid (∀ v w, Num w v X → Calls Tryd.prog 15 #[.slice none 0 0, v] w fun e w' => ∃ r, e = .returned r ∧ Num w' r ((0 + P25 - X) % P25) ∧ Below w.heap.size w w') := fun v w h => subD_num 0 X _ v w (num_none w) h (by decide +kernel) (by omega)
    have ds : Hid (∀ u v w, Num w u X → Num w v Y → Calls Tryd.prog 18 #[u, v] w fun e w' => ∃ r, e = .returned r ∧ Num w' r (X * Y % P25) ∧ Below w.heap.size w w') := fun u v w h h' => mulD_num X Y u v w h h' bx by'
    have dn : Hid (∀ w, Calls Tryd.prog 20 #[.int .i64 (n : Int)] w fun e w' => ∃ r, e = .returned r ∧ Num w' r n ∧ Below w.heap.size w w') := fun w => int_any n (by omega) w
    have kn : Hid (∀ w, Calls Tryd.prog 19 #[.int .u32 (n : Int)] w fun e w' => e = .returned (.agg #[.int .u64 (n : Int), .int .u64 0, .int .u64 0, .int .u64 0, .int .u64 0]) ∧ Below w.heap.size w w') := fun w => small_fe n hn w
    have wn : IntKind.i64.wrap (n : Int) = (n : Int) := wrapI _ (by omega) (by omega)
    generalize hNp : (X + Y) % P25 = Np at *
    generalize hNq : (X + P25 - Y) % P25 = Nq at *
    generalize hNr : (0 + P25 - X) % P25 = Nr at *
    generalize hNs : X * Y % P25 = Ns at *
    clear hNp hNq hNr hNs vp vq vr vs ep eq er es tx ty lx ly bx by' hp hq hr hs hnP kt hx hy hn
    obtain ⟨x0, x1, x2, x3, x4⟩ := x
    obtain ⟨y0, y1, y2, y3, y4⟩ := y
    obtain ⟨p0, p1, p2, p3, p4⟩ := p
    obtain ⟨q0, q1, q2, q3, q4⟩ := q
    obtain ⟨r0, r1, r2, r3, r4⟩ := r
    obtain ⟨s0, s1, s2, s3, s4⟩ := s
    dsimp only at kt' kp kq kr ks ip iq ir is' in' ox oy HE ⊢
    have Kp : Hid (∀ w : World, Calls Tryd.prog 12 #[.agg #[.int .u64 x0, .int .u64 x1, .int .u64 x2, .int .u64 x3, .int .u64 x4], .agg #[.int .u64 y0, .int .u64 y1, .int .u64 y2, .int .u64 y3, .int .u64 y4]] w fun e w' => e = .returned (.agg #[.int .u64 p0, .int .u64 p1, .int .u64 p2, .int .u64 p3, .int .u64 p4]) ∧ Below w.heap.size w w') := kp
    have Kq : Hid (∀ w : World, Gl w → Calls Tryd.prog 14 #[.agg #[.int .u64 x0, .int .u64 x1, .int .u64 x2, .int .u64 x3, .int .u64 x4], .agg #[.int .u64 y0, .int .u64 y1, .int .u64 y2, .int .u64 y3, .int .u64 y4]] w fun e w' => e = .returned (.agg #[.int .u64 q0, .int .u64 q1, .int .u64 q2, .int .u64 q3, .int .u64 q4]) ∧ Below w.heap.size w w') := kq
    have Kr : Hid (∀ w : World, Gl w → Calls Tryd.prog 16 #[.agg #[.int .u64 x0, .int .u64 x1, .int .u64 x2, .int .u64 x3, .int .u64 x4]] w fun e w' => e = .returned (.agg #[.int .u64 r0, .int .u64 r1, .int .u64 r2, .int .u64 r3, .int .u64 r4]) ∧ Below w.heap.size w w') := kr
    have Ks : Hid (∀ w : World, Calls Tryd.prog 17 #[.agg #[.int .u64 x0, .int .u64 x1, .int .u64 x2, .int .u64 x3, .int .u64 x4], .agg #[.int .u64 y0, .int .u64 y1, .int .u64 y2, .int .u64 y3, .int .u64 y4]] w fun e w' => e = .returned (.agg #[.int .u64 s0, .int .u64 s1, .int .u64 s2, .int .u64 s3, .int .u64 s4]) ∧ Below w.heap.size w w') := ks
    have Ip : Hid (∀ v w, Num w v Np → Calls Tryd.prog 11 #[.agg #[.int .u64 p0, .int .u64 p1, .int .u64 p2, .int .u64 p3, .int .u64 p4], v] w fun e w' => e = .returned (.bool true) ∧ Below w.heap.size w w') := ip
    have Iq : Hid (∀ v w, Num w v Nq → Calls Tryd.prog 11 #[.agg #[.int .u64 q0, .int .u64 q1, .int .u64 q2, .int .u64 q3, .int .u64 q4], v] w fun e w' => e = .returned (.bool true) ∧ Below w.heap.size w w') := iq
    have Ir : Hid (∀ v w, Num w v Nr → Calls Tryd.prog 11 #[.agg #[.int .u64 r0, .int .u64 r1, .int .u64 r2, .int .u64 r3, .int .u64 r4], v] w fun e w' => e = .returned (.bool true) ∧ Below w.heap.size w w') := ir
    have Is : Hid (∀ v w, Num w v Ns → Calls Tryd.prog 11 #[.agg #[.int .u64 s0, .int .u64 s1, .int .u64 s2, .int .u64 s3, .int .u64 s4], v] w fun e w' => e = .returned (.bool true) ∧ Below w.heap.size w w') := is'
    have In : Hid (∀ v w, Num w v n → Calls Tryd.prog 11 #[.agg #[.int .u64 (n : Int), .int .u64 0, .int .u64 0, .int .u64 0, .int .u64 0], v] w fun e w' => e = .returned (.bool true) ∧ Below w.heap.size w w') := in'
    have Ox : Hid (∀ w, Calls Tryd.prog 10 #[.agg #[.int .u64 x0, .int .u64 x1, .int .u64 x2, .int .u64 x3, .int .u64 x4]] w fun e w' => ∃ v, e = .returned v ∧ Num w' v X ∧ Below w.heap.size w w') := ox
    have Oy : Hid (∀ w, Calls Tryd.prog 10 #[.agg #[.int .u64 y0, .int .u64 y1, .int .u64 y2, .int .u64 y3, .int .u64 y4]] w fun e w' => ∃ v, e = .returned v ∧ Num w' v Y ∧ Below w.heap.size w w') := oy
    have Kt : Hid (∀ W g, Els W g 2 (pickL ⟨x0, x1, x2, x3, x4⟩ ⟨y0, y1, y2, y3, y4⟩ ⟨y0, y1, y2, y3, y4⟩) → Calls Tryd.prog 9 #[.slice (some ⟨g, 0, none⟩) 2 2] W fun e w' => e = .returned (.bool true) ∧ Below W.heap.size W w') := kt'
    clear kp kq kr ks ip iq ir is' in' ox oy kt'
    go_enter Tryd.func3, Tryd.ntmps3
    go_wp2_with fail
    refine calls_at (fun V => Bl5 V w.heap.size x0 x1 x2 x3 x4 ∧ Bl5 V (w.heap.size + 1) y0 y1 y2 y3 y4 ∧ Gl V ∧ Below w.heap.size w V) ⟨?_, ?_, ?_, ?_⟩ ?_
    · (repeat (first | refine Bl5.drew ?_ | refine Bl5.drewN ?_ _ | (refine Bl5.new _ _ _ _ _ _ _ _ ?_; simp; done) | refine Bl5.alloc ?_ _))
    · (repeat (first | refine Bl5.drew ?_ | refine Bl5.drewN ?_ _ | (refine Bl5.new _ _ _ _ _ _ _ _ ?_; simp; done) | refine Bl5.alloc ?_ _))
    · refine Gl.grown HG.out ?_
      (repeat (first | exact Below.refl _ _ | refine Below.drew ?_ | refine below_drewN ?_ _ | refine Below.alloc ?_ (by simp <;> omega) _))
    · (repeat (first | exact Below.refl _ _ | refine Below.drew ?_ | refine below_drewN ?_ _ | refine Below.alloc ?_ (by simp <;> omega) _ | refine Below.setCell ?_ (by simp <;> omega) _))
    rintro v1 ⟨k0, k1, k2, k3⟩
    have A_1 : Hid (Bl5 v1 w.heap.size x0 x1 x2 x3 x4) := k0
    have B_1 : Hid (Bl5 v1 (w.heap.size + 1) y0 y1 y2 y3 y4) := k1
    have Z_1 : Hid (Gl v1) := k2
    have G_1 : Hid (Below w.heap.size w v1) := k3
    clear k0 k1 k2 k3
    refine (kw.out _ Z_1.out).mono ?_
    rintro e v2 ⟨rfl, g⟩
    have A_2 : Hid (Bl5 v2 w.heap.size x0 x1 x2 x3 x4) := A_1.out.below g
    have B_2 : Hid (Bl5 v2 (w.heap.size + 1) y0 y1 y2 y3 y4) := B_1.out.below g
    have Z_2 : Hid (Gl v2) := Z_1.out.grown g
    have G_2 : Hid (Below w.heap.size w v2) := G_1.out.trans (g.mono G_1.out.size)
    clear A_1 B_1 Z_1 G_1 g
    obtain ⟨cal, ca0, ca1, ca2, ca3, ca4, caf⟩ := A_2.out
    obtain ⟨cbl, cb0, cb1, cb2, cb3, cb4, cbf⟩ := B_2.out
    go_wp2_with fail
    clear cal ca0 ca1 ca2 ca3 ca4 caf cbl cb0 cb1 cb2 cb3 cb4 cbf
    refine calls_at (fun V => Els V v2.heap.size 2 (pickL ⟨x0, x1, x2, x3, x4⟩ ⟨y0, y1, y2, y3, y4⟩ ⟨y0, y1, y2, y3, y4⟩) ∧ Bl5 V w.heap.size x0 x1 x2 x3 x4 ∧ Bl5 V (w.heap.size + 1) y0 y1 y2 y3 y4 ∧ Gl V ∧ Below w.heap.size w V) ⟨HE.out v2, A_2.out.alloc _, B_2.out.alloc _, Z_2.out.grown ((Below.refl _ _).alloc (Nat.le_refl _) _), G_2.out.alloc G_2.out.size _⟩ ?_
    rintro v3 ⟨hE, hA, hB, hZ, hG⟩
    have A_3 : Hid (Bl5 v3 w.heap.size x0 x1 x2 x3 x4) := hA
    have B_3 : Hid (Bl5 v3 (w.heap.size + 1) y0 y1 y2 y3 y4) := hB
    have Z_3 : Hid (Gl v3) := hZ
    have G_3 : Hid (Below w.heap.size w v3) := hG
    have hE' : Hid (Els v3 v2.heap.size 2 (pickL ⟨x0, x1, x2, x3, x4⟩ ⟨y0, y1, y2, y3, y4⟩ ⟨y0, y1, y2, y3, y4⟩)) := hE
    clear hE hA hB hZ hG A_2 B_2 Z_2 G_2
    refine (Kt.out _ _ hE'.out).mono ?_
    rintro e v4 ⟨rfl, g⟩
    have A_4 : Hid (Bl5 v4 w.heap.size x0 x1 x2 x3 x4) := A_3.out.below g
    have B_4 : Hid (Bl5 v4 (w.heap.size + 1) y0 y1 y2 y3 y4) := B_3.out.below g
    have Z_4 : Hid (Gl v4) := Z_3.out.grown g
    have G_4 : Hid (Below w.heap.size w v4) := G_3.out.trans (g.mono G_3.out.size)
    clear A_3 B_3 Z_3 G_3 g
    clear hE'
    go_wp2_with fail
    have K : v4.drew.cell? ⟨w.heap.size, 0, none⟩ = some (.int .u64 x0) ∧ v4.drew.cell? ⟨w.heap.size, 1, none⟩ = some (.int .u64 x1) ∧ v4.drew.cell? ⟨w.heap.size, 2, none⟩ = some (.int .u64 x2) ∧ v4.drew.cell? ⟨w.heap.size, 3, none⟩ = some (.int .u64 x3) ∧ v4.drew.cell? ⟨w.heap.size, 4, none⟩ = some (.int .u64 x4) ∧ v4.drew.cell? ⟨(w.heap.size + 1), 0, none⟩ = some (.int .u64 y0) ∧ v4.drew.cell? ⟨(w.heap.size + 1), 1, none⟩ = some (.int .u64 y1) ∧ v4.drew.cell? ⟨(w.heap.size + 1), 2, none⟩ = some (.int .u64 y2) ∧ v4.drew.cell? ⟨(w.heap.size + 1), 3, none⟩ = some (.int .u64 y3) ∧ v4.drew.cell? ⟨(w.heap.size + 1), 4, none⟩ = some (.int .u64 y4) := ⟨A_4.out.drew.c0, A_4.out.drew.c1, A_4.out.drew.c2, A_4.out.drew.c3, A_4.out.drew.c4, B_4.out.drew.c0, B_4.out.drew.c1, B_4.out.drew.c2, B_4.out.drew.c3, B_4.out.drew.c4⟩
    have A_4' : Hid (Bl5 v4.drew w.heap.size x0 x1 x2 x3 x4) := A_4.out.drew
    have B_4' : Hid (Bl5 v4.drew (w.heap.size + 1) y0 y1 y2 y3 y4) := B_4.out.drew
    have Z_4' : Hid (Gl v4.drew) := Z_4.out.grown (Below.refl _ _).drew
    have G_4' : Hid (Below w.heap.size w v4.drew) := G_4.out.drew
    go_wp2_with fail
    go_region_held3 (fun w' => w'.cell? ⟨w.heap.size, 0, none⟩ = some (.int .u64 x0) ∧ w'.cell? ⟨w.heap.size, 1, none⟩ = some (.int .u64 x1) ∧ w'.cell? ⟨w.heap.size, 2, none⟩ = some (.int .u64 x2) ∧ w'.cell? ⟨w.heap.size, 3, none⟩ = some (.int .u64 x3) ∧ w'.cell? ⟨w.heap.size, 4, none⟩ = some (.int .u64 x4) ∧ w'.cell? ⟨(w.heap.size + 1), 0, none⟩ = some (.int .u64 y0) ∧ w'.cell? ⟨(w.heap.size + 1), 1, none⟩ = some (.int .u64 y1) ∧ w'.cell? ⟨(w.heap.size + 1), 2, none⟩ = some (.int .u64 y2) ∧ w'.cell? ⟨(w.heap.size + 1), 3, none⟩ = some (.int .u64 y3) ∧ w'.cell? ⟨(w.heap.size + 1), 4, none⟩ = some (.int .u64 y4)) (first | with_reducible assumption | go_keep)
      (first
        | (go_at_call 10; have gg := G_5; clear gg; (refine (Oy.out _).mono ?_); (rintro e v6 ⟨v, rfl, hn, g⟩; obtain ⟨Wa, Wc, Wd, rfl⟩ := hn.shape; have W_6 : Hid (Num v6 (.slice Wa Wc Wd) (Y)) := hn; clear hn; have A_6 : Hid (Bl5 v6 w.heap.size x0 x1 x2 x3 x4) := A_5.out.below g; have B_6 : Hid (Bl5 v6 (w.heap.size + 1) y0 y1 y2 y3 y4) := B_5.out.below g; have U_6 : Hid (Num v6 (.slice Ua Uc Ud) (X)) := U_5.out.below g; have Z_6 : Hid (Gl v6) := Z_5.out.grown g; have G_6 : Hid (Below w.heap.size w v6) := G_5.out.trans (g.mono G_5.out.size); clear g; clear K; have K : v6.cell? ⟨w.heap.size, 0, none⟩ = some (.int .u64 x0) ∧ v6.cell? ⟨w.heap.size, 1, none⟩ = some (.int .u64 x1) ∧ v6.cell? ⟨w.heap.size, 2, none⟩ = some (.int .u64 x2) ∧ v6.cell? ⟨w.heap.size, 3, none⟩ = some (.int .u64 x3) ∧ v6.cell? ⟨w.heap.size, 4, none⟩ = some (.int .u64 x4) ∧ v6.cell? ⟨(w.heap.size + 1), 0, none⟩ = some (.int .u64 y0) ∧ v6.cell? ⟨(w.heap.size + 1), 1, none⟩ = some (.int .u64 y1) ∧ v6.cell? ⟨(w.heap.size + 1), 2, none⟩ = some (.int .u64 y2) ∧ v6.cell? ⟨(w.heap.size + 1), 3, none⟩ = some (.int .u64 y3) ∧ v6.cell? ⟨(w.heap.size + 1), 4, none⟩ = some (.int .u64 y4) := ⟨A_6.out.c0, A_6.out.c1, A_6.out.c2, A_6.out.c3, A_6.out.c4, B_6.out.c0, B_6.out.c1, B_6.out.c2, B_6.out.c3, B_6.out.c4⟩))
        | (go_at_call 10; have gg := G_4'; clear gg; (refine (Ox.out _).mono ?_); (rintro e v5 ⟨v, rfl, hn, g⟩; obtain ⟨Ua, Uc, Ud, rfl⟩ := hn.shape; have U_5 : Hid (Num v5 (.slice Ua Uc Ud) (X)) := hn; clear hn; have A_5 : Hid (Bl5 v5 w.heap.size x0 x1 x2 x3 x4) := A_4'.out.below g; have B_5 : Hid (Bl5 v5 (w.heap.size + 1) y0 y1 y2 y3 y4) := B_4'.out.below g; have Z_5 : Hid (Gl v5) := Z_4'.out.grown g; have G_5 : Hid (Below w.heap.size w v5) := G_4'.out.trans (g.mono G_4'.out.size); clear g; clear K; have K : v5.cell? ⟨w.heap.size, 0, none⟩ = some (.int .u64 x0) ∧ v5.cell? ⟨w.heap.size, 1, none⟩ = some (.int .u64 x1) ∧ v5.cell? ⟨w.heap.size, 2, none⟩ = some (.int .u64 x2) ∧ v5.cell? ⟨w.heap.size, 3, none⟩ = some (.int .u64 x3) ∧ v5.cell? ⟨w.heap.size, 4, none⟩ = some (.int .u64 x4) ∧ v5.cell? ⟨(w.heap.size + 1), 0, none⟩ = some (.int .u64 y0) ∧ v5.cell? ⟨(w.heap.size + 1), 1, none⟩ = some (.int .u64 y1) ∧ v5.cell? ⟨(w.heap.size + 1), 2, none⟩ = some (.int .u64 y2) ∧ v5.cell? ⟨(w.heap.size + 1), 3, none⟩ = some (.int .u64 y3) ∧ v5.cell? ⟨(w.heap.size + 1), 4, none⟩ = some (.int .u64 y4) := ⟨A_5.out.c0, A_5.out.c1, A_5.out.c2, A_5.out.c3, A_5.out.c4, B_5.out.c0, B_5.out.c1, B_5.out.c2, B_5.out.c3, B_5.out.c4⟩))
        | fail)
    clear K 
    obtain ⟨cal, ca0, ca1, ca2, ca3, ca4, caf⟩ := A_6.out
    obtain ⟨cbl, cb0, cb1, cb2, cb3, cb4, cbf⟩ := B_6.out
    go_wp2_with fail
    refine (Kp.out _).mono ?_
    rintro e v7 ⟨rfl, g⟩
    clear cal ca0 ca1 ca2 ca3 ca4 caf cbl cb0 cb1 cb2 cb3 cb4 cbf
    have A_7 : Hid (Bl5 v7 w.heap.size x0 x1 x2 x3 x4) := A_6.out.below g
    have B_7 : Hid (Bl5 v7 (w.heap.size + 1) y0 y1 y2 y3 y4) := B_6.out.below g
    have U_7 : Hid (Num v7 (.slice Ua Uc Ud) (X)) := U_6.out.below g
    have W_7 : Hid (Num v7 (.slice Wa Wc Wd) (Y)) := W_6.out.below g
    have Z_7 : Hid (Gl v7) := Z_6.out.grown g
    have G_7 : Hid (Below w.heap.size w v7) := G_6.out.trans (g.mono G_6.out.size)
    clear A_6 B_6 U_6 W_6 Z_6 G_6 g
    go_wp2_with fail
    refine (dp.out _ _ _ U_7.out W_7.out).mono ?_
    rintro e v8 ⟨v, rfl, hn, g⟩
    obtain ⟨Ta, Tc, Td, rfl⟩ := hn.shape
    have T_8 : Hid (Num v8 (.slice Ta Tc Td) (Np)) := hn
    have A_8 : Hid (Bl5 v8 w.heap.size x0 x1 x2 x3 x4) := A_7.out.below g
    have B_8 : Hid (Bl5 v8 (w.heap.size + 1) y0 y1 y2 y3 y4) := B_7.out.below g
    have U_8 : Hid (Num v8 (.slice Ua Uc Ud) (X)) := U_7.out.below g
    have W_8 : Hid (Num v8 (.slice Wa Wc Wd) (Y)) := W_7.out.below g
    have Z_8 : Hid (Gl v8) := Z_7.out.grown g
    have G_8 : Hid (Below w.heap.size w v8) := G_7.out.trans (g.mono G_7.out.size)
    clear A_7 B_7 U_7 W_7 Z_7 G_7 g hn
    go_wp2_with fail
    refine (Ip.out _ _ T_8.out).mono ?_
    rintro e v9 ⟨rfl, g⟩
    have A_9 : Hid (Bl5 v9 w.heap.size x0 x1 x2 x3 x4) := A_8.out.below g
    have B_9 : Hid (Bl5 v9 (w.heap.size + 1) y0 y1 y2 y3 y4) := B_8.out.below g
    have U_9 : Hid (Num v9 (.slice Ua Uc Ud) (X)) := U_8.out.below g
    have W_9 : Hid (Num v9 (.slice Wa Wc Wd) (Y)) := W_8.out.below g
    have Z_9 : Hid (Gl v9) := Z_8.out.grown g
    have G_9 : Hid (Below w.heap.size w v9) := G_8.out.trans (g.mono G_8.out.size)
    clear A_8 B_8 U_8 W_8 T_8 Z_8 G_8 g
    obtain ⟨cal, ca0, ca1, ca2, ca3, ca4, caf⟩ := A_9.out
    obtain ⟨cbl, cb0, cb1, cb2, cb3, cb4, cbf⟩ := B_9.out
    go_wp2_with fail
    refine (Kq.out _ Z_9.out).mono ?_
    rintro e v10 ⟨rfl, g⟩
    clear cal ca0 ca1 ca2 ca3 ca4 caf cbl cb0 cb1 cb2 cb3 cb4 cbf
    have A_10 : Hid (Bl5 v10 w.heap.size x0 x1 x2 x3 x4) := A_9.out.below g
    have B_10 : Hid (Bl5 v10 (w.heap.size + 1) y0 y1 y2 y3 y4) := B_9.out.below g
    have U_10 : Hid (Num v10 (.slice Ua Uc Ud) (X)) := U_9.out.below g
    have W_10 : Hid (Num v10 (.slice Wa Wc Wd) (Y)) := W_9.out.below g
    have Z_10 : Hid (Gl v10) := Z_9.out.grown g
    have G_10 : Hid (Below w.heap.size w v10) := G_9.out.trans (g.mono G_9.out.size)
    clear A_9 B_9 U_9 W_9 Z_9 G_9 g
    go_wp2_with fail
    refine (dq.out _ _ _ U_10.out W_10.out).mono ?_
    rintro e v11 ⟨v, rfl, hn, g⟩
    obtain ⟨Ta, Tc, Td, rfl⟩ := hn.shape
    have T_11 : Hid (Num v11 (.slice Ta Tc Td) (Nq)) := hn
    have A_11 : Hid (Bl5 v11 w.heap.size x0 x1 x2 x3 x4) := A_10.out.below g
    have B_11 : Hid (Bl5 v11 (w.heap.size + 1) y0 y1 y2 y3 y4) := B_10.out.below g
    have U_11 : Hid (Num v11 (.slice Ua Uc Ud) (X)) := U_10.out.below g
    have W_11 : Hid (Num v11 (.slice Wa Wc Wd) (Y)) := W_10.out.below g
    have Z_11 : Hid (Gl v11) := Z_10.out.grown g
    have G_11 : Hid (Below w.heap.size w v11) := G_10.out.trans (g.mono G_10.out.size)
    clear A_10 B_10 U_10 W_10 Z_10 G_10 g hn
    go_wp2_with fail
    refine (Iq.out _ _ T_11.out).mono ?_
    rintro e v12 ⟨rfl, g⟩
    have A_12 : Hid (Bl5 v12 w.heap.size x0 x1 x2 x3 x4) := A_11.out.below g
    have B_12 : Hid (Bl5 v12 (w.heap.size + 1) y0 y1 y2 y3 y4) := B_11.out.below g
    have U_12 : Hid (Num v12 (.slice Ua Uc Ud) (X)) := U_11.out.below g
    have W_12 : Hid (Num v12 (.slice Wa Wc Wd) (Y)) := W_11.out.below g
    have Z_12 : Hid (Gl v12) := Z_11.out.grown g
    have G_12 : Hid (Below w.heap.size w v12) := G_11.out.trans (g.mono G_11.out.size)
    clear A_11 B_11 U_11 W_11 T_11 Z_11 G_11 g
    obtain ⟨cal, ca0, ca1, ca2, ca3, ca4, caf⟩ := A_12.out
    go_wp2_with fail
    refine (Kr.out _ Z_12.out).mono ?_
    rintro e v13 ⟨rfl, g⟩
    clear cal ca0 ca1 ca2 ca3 ca4 caf
    have A_13 : Hid (Bl5 v13 w.heap.size x0 x1 x2 x3 x4) := A_12.out.below g
    have B_13 : Hid (Bl5 v13 (w.heap.size + 1) y0 y1 y2 y3 y4) := B_12.out.below g
    have U_13 : Hid (Num v13 (.slice Ua Uc Ud) (X)) := U_12.out.below g
    have W_13 : Hid (Num v13 (.slice Wa Wc Wd) (Y)) := W_12.out.below g
    have Z_13 : Hid (Gl v13) := Z_12.out.grown g
    have G_13 : Hid (Below w.heap.size w v13) := G_12.out.trans (g.mono G_12.out.size)
    clear A_12 B_12 U_12 W_12 Z_12 G_12 g
    go_wp2_with fail
    refine (dr.out _ _ U_13.out).mono ?_
    rintro e v14 ⟨v, rfl, hn, g⟩
    obtain ⟨Ta, Tc, Td, rfl⟩ := hn.shape
    have T_14 : Hid (Num v14 (.slice Ta Tc Td) (Nr)) := hn
    have A_14 : Hid (Bl5 v14 w.heap.size x0 x1 x2 x3 x4) := A_13.out.below g
    have B_14 : Hid (Bl5 v14 (w.heap.size + 1) y0 y1 y2 y3 y4) := B_13.out.below g
    have U_14 : Hid (Num v14 (.slice Ua Uc Ud) (X)) := U_13.out.below g
    have W_14 : Hid (Num v14 (.slice Wa Wc Wd) (Y)) := W_13.out.below g
    have Z_14 : Hid (Gl v14) := Z_13.out.grown g
    have G_14 : Hid (Below w.heap.size w v14) := G_13.out.trans (g.mono G_13.out.size)
    clear A_13 B_13 U_13 W_13 Z_13 G_13 g hn
    go_wp2_with fail
    refine (Ir.out _ _ T_14.out).mono ?_
    rintro e v15 ⟨rfl, g⟩
    have A_15 : Hid (Bl5 v15 w.heap.size x0 x1 x2 x3 x4) := A_14.out.below g
    have B_15 : Hid (Bl5 v15 (w.heap.size + 1) y0 y1 y2 y3 y4) := B_14.out.below g
    have U_15 : Hid (Num v15 (.slice Ua Uc Ud) (X)) := U_14.out.below g
    have W_15 : Hid (Num v15 (.slice Wa Wc Wd) (Y)) := W_14.out.below g
    have Z_15 : Hid (Gl v15) := Z_14.out.grown g
    have G_15 : Hid (Below w.heap.size w v15) := G_14.out.trans (g.mono G_14.out.size)
    clear A_14 B_14 U_14 W_14 T_14 Z_14 G_14 g
    obtain ⟨cal, ca0, ca1, ca2, ca3, ca4, caf⟩ := A_15.out
    obtain ⟨cbl, cb0, cb1, cb2, cb3, cb4, cbf⟩ := B_15.out
    go_wp2_with fail
    refine (Ks.out _).mono ?_
    rintro e v16 ⟨rfl, g⟩
    clear cal ca0 ca1 ca2 ca3 ca4 caf cbl cb0 cb1 cb2 cb3 cb4 cbf
    have A_16 : Hid (Bl5 v16 w.heap.size x0 x1 x2 x3 x4) := A_15.out.below g
    have B_16 : Hid (Bl5 v16 (w.heap.size + 1) y0 y1 y2 y3 y4) := B_15.out.below g
    have U_16 : Hid (Num v16 (.slice Ua Uc Ud) (X)) := U_15.out.below g
    have W_16 : Hid (Num v16 (.slice Wa Wc Wd) (Y)) := W_15.out.below g
    have Z_16 : Hid (Gl v16) := Z_15.out.grown g
    have G_16 : Hid (Below w.heap.size w v16) := G_15.out.trans (g.mono G_15.out.size)
    clear A_15 B_15 U_15 W_15 Z_15 G_15 g
    go_wp2_with fail
    refine (ds.out _ _ _ U_16.out W_16.out).mono ?_
    rintro e v17 ⟨v, rfl, hn, g⟩
    obtain ⟨Ta, Tc, Td, rfl⟩ := hn.shape
    have T_17 : Hid (Num v17 (.slice Ta Tc Td) (Ns)) := hn
    have A_17 : Hid (Bl5 v17 w.heap.size x0 x1 x2 x3 x4) := A_16.out.below g
    have B_17 : Hid (Bl5 v17 (w.heap.size + 1) y0 y1 y2 y3 y4) := B_16.out.below g
    have U_17 : Hid (Num v17 (.slice Ua Uc Ud) (X)) := U_16.out.below g
    have W_17 : Hid (Num v17 (.slice Wa Wc Wd) (Y)) := W_16.out.below g
    have Z_17 : Hid (Gl v17) := Z_16.out.grown g
    have G_17 : Hid (Below w.heap.size w v17) := G_16.out.trans (g.mono G_16.out.size)
    clear A_16 B_16 U_16 W_16 Z_16 G_16 g hn
    go_wp2_with fail
    refine (Is.out _ _ T_17.out).mono ?_
    rintro e v18 ⟨rfl, g⟩
    have A_18 : Hid (Bl5 v18 w.heap.size x0 x1 x2 x3 x4) := A_17.out.below g
    have B_18 : Hid (Bl5 v18 (w.heap.size + 1) y0 y1 y2 y3 y4) := B_17.out.below g
    have U_18 : Hid (Num v18 (.slice Ua Uc Ud) (X)) := U_17.out.below g
    have W_18 : Hid (Num v18 (.slice Wa Wc Wd) (Y)) := W_17.out.below g
    have Z_18 : Hid (Gl v18) := Z_17.out.grown g
    have G_18 : Hid (Below w.heap.size w v18) := G_17.out.trans (g.mono G_17.out.size)
    clear A_17 B_17 U_17 W_17 T_17 Z_17 G_17 g
    go_wp2_with fail
    refine (kn.out _).mono ?_
    rintro e v19 ⟨rfl, g⟩
    have A_19 : Hid (Bl5 v19 w.heap.size x0 x1 x2 x3 x4) := A_18.out.below g
    have B_19 : Hid (Bl5 v19 (w.heap.size + 1) y0 y1 y2 y3 y4) := B_18.out.below g
    have U_19 : Hid (Num v19 (.slice Ua Uc Ud) (X)) := U_18.out.below g
    have W_19 : Hid (Num v19 (.slice Wa Wc Wd) (Y)) := W_18.out.below g
    have Z_19 : Hid (Gl v19) := Z_18.out.grown g
    have G_19 : Hid (Below w.heap.size w v19) := G_18.out.trans (g.mono G_18.out.size)
    clear A_18 B_18 U_18 W_18 Z_18 G_18 g
    go_wp2_with fail
    refine (dn.out _).mono ?_
    rintro e v20 ⟨v, rfl, hn, g⟩
    obtain ⟨Ta, Tc, Td, rfl⟩ := hn.shape
    have T_20 : Hid (Num v20 (.slice Ta Tc Td) (n)) := hn
    have A_20 : Hid (Bl5 v20 w.heap.size x0 x1 x2 x3 x4) := A_19.out.below g
    have B_20 : Hid (Bl5 v20 (w.heap.size + 1) y0 y1 y2 y3 y4) := B_19.out.below g
    have U_20 : Hid (Num v20 (.slice Ua Uc Ud) (X)) := U_19.out.below g
    have W_20 : Hid (Num v20 (.slice Wa Wc Wd) (Y)) := W_19.out.below g
    have Z_20 : Hid (Gl v20) := Z_19.out.grown g
    have G_20 : Hid (Below w.heap.size w v20) := G_19.out.trans (g.mono G_19.out.size)
    clear A_19 B_19 U_19 W_19 Z_19 G_19 g hn
    go_wp2_with fail
    refine (In.out _ _ T_20.out).mono ?_
    rintro e v21 ⟨rfl, g⟩
    have A_21 : Hid (Bl5 v21 w.heap.size x0 x1 x2 x3 x4) := A_20.out.below g
    have B_21 : Hid (Bl5 v21 (w.heap.size + 1) y0 y1 y2 y3 y4) := B_20.out.below g
    have U_21 : Hid (Num v21 (.slice Ua Uc Ud) (X)) := U_20.out.below g
    have W_21 : Hid (Num v21 (.slice Wa Wc Wd) (Y)) := W_20.out.below g
    have Z_21 : Hid (Gl v21) := Z_20.out.grown g
    have G_21 : Hid (Below w.heap.size w v21) := G_20.out.trans (g.mono G_20.out.size)
    clear A_20 B_20 U_20 W_20 T_20 Z_20 G_20 g
    go_wp2_with fail
    go_ret
    exact ⟨rfl, G_21.out⟩
  · have kt' := kt.out false ⟨fun h => by simp at h, fun h => absurd h ht⟩
    clear kt ht hx hy hn
    obtain ⟨x0, x1, x2, x3, x4⟩ := x
    obtain ⟨y0, y1, y2, y3, y4⟩ := y
    dsimp only at kt' HE ⊢
    have Kt : Hid (∀ W g, Els W g 2 (pickL ⟨x0, x1, x2, x3, x4⟩ ⟨y0, y1, y2, y3, y4⟩ ⟨y0, y1, y2, y3, y4⟩) → Calls Tryd.prog 9 #[.slice (some ⟨g, 0, none⟩) 2 2] W fun e w' => e = .returned (.bool false) ∧ Below W.heap.size W w') := kt'
    clear kt'
    go_enter Tryd.func3, Tryd.ntmps3
    go_wp2_with fail
    refine calls_at (fun V => Bl5 V w.heap.size x0 x1 x2 x3 x4 ∧ Bl5 V (w.heap.size + 1) y0 y1 y2 y3 y4 ∧ Gl V ∧ Below w.heap.size w V) ⟨?_, ?_, ?_, ?_⟩ ?_
    · (repeat (first | refine Bl5.drew ?_ | refine Bl5.drewN ?_ _ | (refine Bl5.new _ _ _ _ _ _ _ _ ?_; simp; done) | refine Bl5.alloc ?_ _))
    · (repeat (first | refine Bl5.drew ?_ | refine Bl5.drewN ?_ _ | (refine Bl5.new _ _ _ _ _ _ _ _ ?_; simp; done) | refine Bl5.alloc ?_ _))
    · refine Gl.grown HG.out ?_
      (repeat (first | exact Below.refl _ _ | refine Below.drew ?_ | refine below_drewN ?_ _ | refine Below.alloc ?_ (by simp <;> omega) _))
    · (repeat (first | exact Below.refl _ _ | refine Below.drew ?_ | refine below_drewN ?_ _ | refine Below.alloc ?_ (by simp <;> omega) _ | refine Below.setCell ?_ (by simp <;> omega) _))
    rintro v1 ⟨k0, k1, k2, k3⟩
    have A_1 : Hid (Bl5 v1 w.heap.size x0 x1 x2 x3 x4) := k0
    have B_1 : Hid (Bl5 v1 (w.heap.size + 1) y0 y1 y2 y3 y4) := k1
    have Z_1 : Hid (Gl v1) := k2
    have G_1 : Hid (Below w.heap.size w v1) := k3
    clear k0 k1 k2 k3
    refine (kw.out _ Z_1.out).mono ?_
    rintro e v2 ⟨rfl, g⟩
    have A_2 : Hid (Bl5 v2 w.heap.size x0 x1 x2 x3 x4) := A_1.out.below g
    have B_2 : Hid (Bl5 v2 (w.heap.size + 1) y0 y1 y2 y3 y4) := B_1.out.below g
    have Z_2 : Hid (Gl v2) := Z_1.out.grown g
    have G_2 : Hid (Below w.heap.size w v2) := G_1.out.trans (g.mono G_1.out.size)
    clear A_1 B_1 Z_1 G_1 g
    obtain ⟨cal, ca0, ca1, ca2, ca3, ca4, caf⟩ := A_2.out
    obtain ⟨cbl, cb0, cb1, cb2, cb3, cb4, cbf⟩ := B_2.out
    go_wp2_with fail
    clear cal ca0 ca1 ca2 ca3 ca4 caf cbl cb0 cb1 cb2 cb3 cb4 cbf
    refine calls_at (fun V => Els V v2.heap.size 2 (pickL ⟨x0, x1, x2, x3, x4⟩ ⟨y0, y1, y2, y3, y4⟩ ⟨y0, y1, y2, y3, y4⟩) ∧ Bl5 V w.heap.size x0 x1 x2 x3 x4 ∧ Bl5 V (w.heap.size + 1) y0 y1 y2 y3 y4 ∧ Gl V ∧ Below w.heap.size w V) ⟨HE.out v2, A_2.out.alloc _, B_2.out.alloc _, Z_2.out.grown ((Below.refl _ _).alloc (Nat.le_refl _) _), G_2.out.alloc G_2.out.size _⟩ ?_
    rintro v3 ⟨hE, hA, hB, hZ, hG⟩
    have A_3 : Hid (Bl5 v3 w.heap.size x0 x1 x2 x3 x4) := hA
    have B_3 : Hid (Bl5 v3 (w.heap.size + 1) y0 y1 y2 y3 y4) := hB
    have Z_3 : Hid (Gl v3) := hZ
    have G_3 : Hid (Below w.heap.size w v3) := hG
    have hE' : Hid (Els v3 v2.heap.size 2 (pickL ⟨x0, x1, x2, x3, x4⟩ ⟨y0, y1, y2, y3, y4⟩ ⟨y0, y1, y2, y3, y4⟩)) := hE
    clear hE hA hB hZ hG A_2 B_2 Z_2 G_2
    refine (Kt.out _ _ hE'.out).mono ?_
    rintro e v4 ⟨rfl, g⟩
    have A_4 : Hid (Bl5 v4 w.heap.size x0 x1 x2 x3 x4) := A_3.out.below g
    have B_4 : Hid (Bl5 v4 (w.heap.size + 1) y0 y1 y2 y3 y4) := B_3.out.below g
    have Z_4 : Hid (Gl v4) := Z_3.out.grown g
    have G_4 : Hid (Below w.heap.size w v4) := G_3.out.trans (g.mono G_3.out.size)
    clear A_3 B_3 Z_3 G_3 g
    clear hE'
    go_wp2_with fail
    go_ret
    exact ⟨rfl, G_4.out⟩

end Go.Proofs.YtnebpleplogfeaaDoor
