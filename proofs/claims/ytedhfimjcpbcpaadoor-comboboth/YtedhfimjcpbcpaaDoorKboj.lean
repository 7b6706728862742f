/-
  The contracts of the document's own Add of layer 10. Conditions: as each theorem says.
-/
import Derived.Test.YtedhfimjcpbcpaaDoorKboi
import Derived.Test.YtedhfimjcpbcpaaDoorKboe
import Derived.Test.YtedhfimjcpbcpaaDoorKboh
import Derived.Test.YtedhfimjcpbcpaaDoorKboc
namespace Go.Proofs.YtedhfimjcpbcpaaDoor.Ed
open Go.RowKit
set_option linter.unusedVariables false
set_option linter.unusedSimpArgs false

theorem _root_.Go.Proofs.YtedhfimjcpbcpaaDoor.Num.oth10 {b : Nat} {w W : World} {v : Value} {N : Nat} (h : Num w v N) (ho : Oth b w W) (hv : Off b v) : Num W v N := by
  obtain ⟨l, h1, h2, h3, h4⟩ := h
  exact ⟨l, SK.oth (k := .i64) h1 ho hv, h2, h3, h4⟩
/-- A number's digits don't lie in a block that holds none. -/
theorem off_none {T : TypeId} {W : World} {b : Nat} {L : List Value} (hA : At T W b L) (hL : ∀ v ∈ L, ∀ z, v ≠ .int .i64 z) {v : Value} {N : Nat} (h : Num W v N) : Off b v := by
  intro a n c e hn x hx hb
  obtain ⟨l, h1, -, -, -⟩ := h
  have hs : SK .i64 W v l := h1
  rw [e] at hs
  obtain ⟨b', o, e2, -, -, hcell⟩ := hs.at (by omega)
  rw [e2] at hx
  cases hx
  simp only at hb
  subst hb
  have h0 := hcell 0 (by omega)
  rw [hA.cell] at h0
  exact hL _ (List.mem_of_getElem? h0) _ rfl
theorem no_ints (a b c : Option Addr) (n1 n2 n3 c1 c2 c3 : Nat) (t : Bool) : ∀ v ∈ [Value.slice a n1 c1, .slice b n2 c2, .slice c n3 c3, .bool t], ∀ z, v ≠ .int .i64 z := by
  intro v hv z
  simp only [List.mem_cons, List.not_mem_nil, or_false] at hv
  rcases hv with rfl | rfl | rfl | rfl <;> simp

set_option maxRecDepth 100000 in
set_option maxHeartbeats 8000000 in
theorem addD_pt (X1 Y1 Z1 X2 Y2 Z2 z zz xx yy s e m p c1 c2 c f X3 ga ha Y3 Z3 : Nat) (vx1 vy1 vz1 vx2 vy2 vz2 vd : Value) (t1 t2 : Bool) (w : World)
    (hx1 : Num w vx1 X1) (hy1 : Num w vy1 Y1) (hz1 : Num w vz1 Z1) (hx2 : Num w vx2 X2) (hy2 : Num w vy2 Y2) (hz2 : Num w vz2 Z2) (hd : Num w vd D25)
    (lx1 : X1 < P25) (ly1 : Y1 < P25) (lz1 : Z1 < P25) (lx2 : X2 < P25) (ly2 : Y2 < P25) (lz2 : Z2 < P25)
    (q_z : Z1 * Z2 % P25 = z) (q_zz : z * z % P25 = zz) (q_xx : X1 * X2 % P25 = xx) (q_yy : Y1 * Y2 % P25 = yy) (q_s : xx * yy % P25 = s) (q_e : D25 * s % P25 = e) (q_m : (zz + P25 - e) % P25 = m) (q_p : (zz + e) % P25 = p) (q_c1 : X1 * Y2 % P25 = c1) (q_c2 : Y1 * X2 % P25 = c2) (q_c : (c1 + c2) % P25 = c) (q_f : z * c % P25 = f) (q_X3 : f * m % P25 = X3) (q_ga : (yy + xx) % P25 = ga) (q_ha : z * ga % P25 = ha) (q_Y3 : ha * p % P25 = Y3) (q_Z3 : m * p % P25 = Z3) :
    Calls Tryd.prog 19 #[.agg #[vx1, vy1, vz1, .bool t1], .agg #[vx2, vy2, vz2, .bool t2], vd] w fun e w' => ∃ v1 v2 v3, e = .returned (.agg #[v1, v2, v3, .bool true]) ∧ Num w' v1 X3 ∧ Num w' v2 Y3 ∧ Num w' v3 Z3 ∧ Below w.heap.size w w' := by
  have E_z : Hid (Z1 * Z2 % P25 = z) := q_z
  have L_z : Hid (z < P25) := by rw [← q_z]; exact mod_P _
  have E_zz : Hid (z * z % P25 = zz) := q_zz
  have L_zz : Hid (zz < P25) := by rw [← q_zz]; exact mod_P _
  have E_xx : Hid (X1 * X2 % P25 = xx) := q_xx
  have L_xx : Hid (xx < P25) := by rw [← q_xx]; exact mod_P _
  have E_yy : Hid (Y1 * Y2 % P25 = yy) := q_yy
  have L_yy : Hid (yy < P25) := by rw [← q_yy]; exact mod_P _
  have E_s : Hid (xx * yy % P25 = s) := q_s
  have L_s : Hid (s < P25) := by rw [← q_s]; exact mod_P _
  have E_e : Hid (D25 * s % P25 = e) := q_e
  have L_e : Hid (e < P25) := by rw [← q_e]; exact mod_P _
  have E_m : Hid ((zz + P25 - e) % P25 = m) := q_m
  have L_m : Hid (m < P25) := by rw [← q_m]; exact mod_P _
  have E_p : Hid ((zz + e) % P25 = p) := q_p
  have L_p : Hid (p < P25) := by rw [← q_p]; exact mod_P _
  have E_c1 : Hid (X1 * Y2 % P25 = c1) := q_c1
  have L_c1 : Hid (c1 < P25) := by rw [← q_c1]; exact mod_P _
  have E_c2 : Hid (Y1 * X2 % P25 = c2) := q_c2
  have L_c2 : Hid (c2 < P25) := by rw [← q_c2]; exact mod_P _
  have E_c : Hid ((c1 + c2) % P25 = c) := q_c
  have L_c : Hid (c < P25) := by rw [← q_c]; exact mod_P _
  have E_f : Hid (z * c % P25 = f) := q_f
  have L_f : Hid (f < P25) := by rw [← q_f]; exact mod_P _
  have E_X3 : Hid (f * m % P25 = X3) := q_X3
  have L_X3 : Hid (X3 < P25) := by rw [← q_X3]; exact mod_P _
  have E_ga : Hid ((yy + xx) % P25 = ga) := q_ga
  have L_ga : Hid (ga < P25) := by rw [← q_ga]; exact mod_P _
  have E_ha : Hid (z * ga % P25 = ha) := q_ha
  have L_ha : Hid (ha < P25) := by rw [← q_ha]; exact mod_P _
  have E_Y3 : Hid (ha * p % P25 = Y3) := q_Y3
  have L_Y3 : Hid (Y3 < P25) := by rw [← q_Y3]; exact mod_P _
  have E_Z3 : Hid (m * p % P25 = Z3) := q_Z3
  have L_Z3 : Hid (Z3 < P25) := by rw [← q_Z3]; exact mod_P _
  have L_X1 : Hid (X1 < P25) := lx1
  obtain ⟨ax1, nx1, cx1, rfl⟩ := hx1.shape
  have L_Y1 : Hid (Y1 < P25) := ly1
  obtain ⟨ay1, ny1, cy1, rfl⟩ := hy1.shape
  have L_Z1 : Hid (Z1 < P25) := lz1
  obtain ⟨az1, nz1, cz1, rfl⟩ := hz1.shape
  have L_X2 : Hid (X2 < P25) := lx2
  obtain ⟨ax2, nx2, cx2, rfl⟩ := hx2.shape
  have L_Y2 : Hid (Y2 < P25) := ly2
  obtain ⟨ay2, ny2, cy2, rfl⟩ := hy2.shape
  have L_Z2 : Hid (Z2 < P25) := lz2
  obtain ⟨az2, nz2, cz2, rfl⟩ := hz2.shape
  obtain ⟨ad, nd, cd, rfl⟩ := hd.shape
  have kM : Hid (∀ (A B C : Nat) v v' W, A < P25 → B < P25 → A * B % P25 = C → Num W v A → Num W v' B → Calls Tryd.prog 47 #[v, v'] W fun e w' => ∃ u, e = .returned u ∧ Num w' u C ∧ Below W.heap.size W w') := fun A B C v v' W h1 h2 h3 h4 h5 => by rw [← h3]; exact mulD_num A B v v' W h4 h5 (lt11 h1) (lt11 h2)
  have kA : Hid (∀ (A B C : Nat) v v' W, A < P25 → B < P25 → (A + B) % P25 = C → Num W v A → Num W v' B → Calls Tryd.prog 50 #[v, v'] W fun e w' => ∃ u, e = .returned u ∧ Num w' u C ∧ Below W.heap.size W w') := fun A B C v v' W h1 h2 h3 h4 h5 => by rw [← h3]; exact addD_num A B v v' W h4 h5 (lt11 h1) (lt11 h2)
  have kS : Hid (∀ (A B C : Nat) v v' W, A < P25 → B < P25 → (A + P25 - B) % P25 = C → Num W v A → Num W v' B → Calls Tryd.prog 49 #[v, v'] W fun e w' => ∃ u, e = .returned u ∧ Num w' u C ∧ Below W.heap.size W w') := fun A B C v v' W h1 h2 h3 h4 h5 => by rw [← h3]; exact subD_num A B v v' W h4 h5 (lt11 h1) (by omega)
  have L_D : Hid (D25 < P25) := by unfold Hid; decide +kernel
  obtain ⟨w0, hw0⟩ : ∃ V, Hid ((((w.alloc (.cells #[.slice ax1 nx1 cx1, .slice ay1 ny1 cy1, .slice az1 nz1 cz1, .bool t1] 37)).alloc (.cells #[.slice ax2 nx2 cx2, .slice ay2 ny2 cy2, .slice az2 nz2 cz2, .bool t2] 37)).alloc (.cells #[.slice none 0 0, .slice none 0 0, .slice none 0 0, .bool false] 37)) = V) := ⟨_, rfl⟩
  have g0 : Below w.heap.size w w0 := by rw [← hw0.out]; exact (((Below.refl _ _).alloc (Nat.le_refl _) _).alloc (by simp) _).alloc (by simp; omega) _
  have G_0 : Hid (Below w.heap.size w w0) := g0
  have A_0 : Hid (At 37 w0 w.heap.size [.slice ax1 nx1 cx1, .slice ay1 ny1 cy1, .slice az1 nz1 cz1, .bool t1]) := by unfold Hid; rw [← hw0.out]; exact ((at_new 37 w [.slice ax1 nx1 cx1, .slice ay1 ny1 cy1, .slice az1 nz1 cz1, .bool t1]).below ((Below.refl _ _).alloc (Nat.le_refl _) _)).below ((Below.refl _ _).alloc (Nat.le_refl _) _)
  have B_0 : Hid (At 37 w0 (w.heap.size + 1) [.slice ax2 nx2 cx2, .slice ay2 ny2 cy2, .slice az2 nz2 cz2, .bool t2]) := by
    unfold Hid; rw [← hw0.out]
    have h := (at_new 37 (w.alloc (.cells #[.slice ax1 nx1 cx1, .slice ay1 ny1 cy1, .slice az1 nz1 cz1, .bool t1] 37)) [.slice ax2 nx2 cx2, .slice ay2 ny2 cy2, .slice az2 nz2 cz2, .bool t2]).below (W' := ((w.alloc (.cells #[.slice ax1 nx1 cx1, .slice ay1 ny1 cy1, .slice az1 nz1 cz1, .bool t1] 37)).alloc (.cells #[.slice ax2 nx2 cx2, .slice ay2 ny2 cy2, .slice az2 nz2 cz2, .bool t2] 37)).alloc (.cells #[.slice none 0 0, .slice none 0 0, .slice none 0 0, .bool false] 37)) ((Below.refl _ _).alloc (Nat.le_refl _) _)
    rwa [World.size_alloc] at h
  have C_0 : Hid (At 37 w0 (w.heap.size + 1 + 1) [.slice none 0 0, .slice none 0 0, .slice none 0 0, .bool false]) := by
    unfold Hid; rw [← hw0.out]
    have h := at_new 37 ((w.alloc (.cells #[.slice ax1 nx1 cx1, .slice ay1 ny1 cy1, .slice az1 nz1 cz1, .bool t1] 37)).alloc (.cells #[.slice ax2 nx2 cx2, .slice ay2 ny2 cy2, .slice az2 nz2 cz2, .bool t2] 37)) [.slice none 0 0, .slice none 0 0, .slice none 0 0, .bool false]
    rwa [World.size_alloc, World.size_alloc] at h
  have X1_0 : Hid (Num w0 (.slice ax1 nx1 cx1) X1) := hx1.below g0
  have Y1_0 : Hid (Num w0 (.slice ay1 ny1 cy1) Y1) := hy1.below g0
  have Z1_0 : Hid (Num w0 (.slice az1 nz1 cz1) Z1) := hz1.below g0
  have X2_0 : Hid (Num w0 (.slice ax2 nx2 cx2) X2) := hx2.below g0
  have Y2_0 : Hid (Num w0 (.slice ay2 ny2 cy2) Y2) := hy2.below g0
  have Z2_0 : Hid (Num w0 (.slice az2 nz2 cz2) Z2) := hz2.below g0
  have VD_0 : Hid (Num w0 (.slice ad nd cd) D25) := hd.below g0
  clear hx1 hy1 hz1 hx2 hy2 hz2 hd lx1 ly1 lz1 lx2 ly2 lz2 g0 q_z q_zz q_xx q_yy q_s q_e q_m q_p q_c1 q_c2 q_c q_f q_X3 q_ga q_ha q_Y3 q_Z3
  go_enter Tryd.func19, Tryd.ntmps19
  go_upto_region 1 with fail
  rw [hw0.out]
  clear hw0
  have cA0 := A_0.out.cell 0
  have cA1 := A_0.out.cell 1
  have cA2 := A_0.out.cell 2
  have cB0 := B_0.out.cell 0
  have cB1 := B_0.out.cell 1
  have cB2 := B_0.out.cell 2
  simp only [List.getElem?_cons_zero, List.getElem?_cons_succ] at cA0 cA1 cA2 cB0 cB1 cB2
  go_wp2_with fail
  refine (kM.out Z1 Z2 z _ _ _ L_Z1.out L_Z2.out E_z.out Z1_0.out Z2_0.out).mono ?_
  rintro e w1 ⟨v, rfl, hn, g⟩
  obtain ⟨Ea, Ec, Ed, rfl⟩ := hn.shape
  have E_1 : Hid (Num w1 (.slice Ea Ec Ed) (z)) := hn
  have X1_1 := hold (X1_0.out.below g)
  have Y1_1 := hold (Y1_0.out.below g)
  have Z1_1 := hold (Z1_0.out.below g)
  have X2_1 := hold (X2_0.out.below g)
  have Y2_1 := hold (Y2_0.out.below g)
  have Z2_1 := hold (Z2_0.out.below g)
  have VD_1 := hold (VD_0.out.below g)
  have A_1 := hold (A_0.out.below g)
  have B_1 := hold (B_0.out.below g)
  have C_1 := hold (C_0.out.below g)
  have G_1 := hold (G_0.out.trans (g.mono G_0.out.size))
  clear X1_0 Y1_0 Z1_0 X2_0 Y2_0 Z2_0 VD_0 A_0 B_0 C_0 G_0 hn g
  clear cA0 cA1 cA2 cB0 cB1 cB2
  go_wp2_with fail
  refine (kM.out z z zz _ _ _ L_z.out L_z.out E_zz.out E_1.out E_1.out).mono ?_
  rintro e w2 ⟨v, rfl, hn, g⟩
  obtain ⟨Fa, Fc, Fd, rfl⟩ := hn.shape
  have F_2 : Hid (Num w2 (.slice Fa Fc Fd) (zz)) := hn
  have X1_2 := hold (X1_1.out.below g)
  have Y1_2 := hold (Y1_1.out.below g)
  have Z1_2 := hold (Z1_1.out.below g)
  have X2_2 := hold (X2_1.out.below g)
  have Y2_2 := hold (Y2_1.out.below g)
  have Z2_2 := hold (Z2_1.out.below g)
  have VD_2 := hold (VD_1.out.below g)
  have A_2 := hold (A_1.out.below g)
  have B_2 := hold (B_1.out.below g)
  have C_2 := hold (C_1.out.below g)
  have E_2 := hold (E_1.out.below g)
  have G_2 := hold (G_1.out.trans (g.mono G_1.out.size))
  clear X1_1 Y1_1 Z1_1 X2_1 Y2_1 Z2_1 VD_1 A_1 B_1 C_1 E_1 G_1 hn g
  have cA0 := A_2.out.cell 0
  have cA1 := A_2.out.cell 1
  have cA2 := A_2.out.cell 2
  have cB0 := B_2.out.cell 0
  have cB1 := B_2.out.cell 1
  have cB2 := B_2.out.cell 2
  simp only [List.getElem?_cons_zero, List.getElem?_cons_succ] at cA0 cA1 cA2 cB0 cB1 cB2
  go_wp2_with fail
  refine (kM.out X1 X2 xx _ _ _ L_X1.out L_X2.out E_xx.out X1_2.out X2_2.out).mono ?_
  rintro e w3 ⟨v, rfl, hn, g⟩
  obtain ⟨Ha, Hc, Hd, rfl⟩ := hn.shape
  have H_3 : Hid (Num w3 (.slice Ha Hc Hd) (xx)) := hn
  have X1_3 := hold (X1_2.out.below g)
  have Y1_3 := hold (Y1_2.out.below g)
  have Z1_3 := hold (Z1_2.out.below g)
  have X2_3 := hold (X2_2.out.below g)
  have Y2_3 := hold (Y2_2.out.below g)
  have Z2_3 := hold (Z2_2.out.below g)
  have VD_3 := hold (VD_2.out.below g)
  have A_3 := hold (A_2.out.below g)
  have B_3 := hold (B_2.out.below g)
  have C_3 := hold (C_2.out.below g)
  have E_3 := hold (E_2.out.below g)
  have F_3 := hold (F_2.out.below g)
  have G_3 := hold (G_2.out.trans (g.mono G_2.out.size))
  clear X1_2 Y1_2 Z1_2 X2_2 Y2_2 Z2_2 VD_2 A_2 B_2 C_2 E_2 F_2 G_2 hn g
  clear cA0 cA1 cA2 cB0 cB1 cB2
  have cA0 := A_3.out.cell 0
  have cA1 := A_3.out.cell 1
  have cA2 := A_3.out.cell 2
  have cB0 := B_3.out.cell 0
  have cB1 := B_3.out.cell 1
  have cB2 := B_3.out.cell 2
  simp only [List.getElem?_cons_zero, List.getElem?_cons_succ] at cA0 cA1 cA2 cB0 cB1 cB2
  go_wp2_with fail
  refine (kM.out Y1 Y2 yy _ _ _ L_Y1.out L_Y2.out E_yy.out Y1_3.out Y2_3.out).mono ?_
  rintro e w4 ⟨v, rfl, hn, g⟩
  obtain ⟨Ia, Ic, Id, rfl⟩ := hn.shape
  have I_4 : Hid (Num w4 (.slice Ia Ic Id) (yy)) := hn
  have X1_4 := hold (X1_3.out.below g)
  have Y1_4 := hold (Y1_3.out.below g)
  have Z1_4 := hold (Z1_3.out.below g)
  have X2_4 := hold (X2_3.out.below g)
  have Y2_4 := hold (Y2_3.out.below g)
  have Z2_4 := hold (Z2_3.out.below g)
  have VD_4 := hold (VD_3.out.below g)
  have A_4 := hold (A_3.out.below g)
  have B_4 := hold (B_3.out.below g)
  have C_4 := hold (C_3.out.below g)
  have E_4 := hold (E_3.out.below g)
  have F_4 := hold (F_3.out.below g)
  have H_4 := hold (H_3.out.below g)
  have G_4 := hold (G_3.out.trans (g.mono G_3.out.size))
  clear X1_3 Y1_3 Z1_3 X2_3 Y2_3 Z2_3 VD_3 A_3 B_3 C_3 E_3 F_3 H_3 G_3 hn g
  clear cA0 cA1 cA2 cB0 cB1 cB2
  go_wp2_with fail
  refine (kM.out xx yy s _ _ _ L_xx.out L_yy.out E_s.out H_4.out I_4.out).mono ?_
  rintro e w5 ⟨v, rfl, hn, g⟩
  obtain ⟨Ja, Jc, Jd, rfl⟩ := hn.shape
  have J_5 : Hid (Num w5 (.slice Ja Jc Jd) (s)) := hn
  have X1_5 := hold (X1_4.out.below g)
  have Y1_5 := hold (Y1_4.out.below g)
  have Z1_5 := hold (Z1_4.out.below g)
  have X2_5 := hold (X2_4.out.below g)
  have Y2_5 := hold (Y2_4.out.below g)
  have Z2_5 := hold (Z2_4.out.below g)
  have VD_5 := hold (VD_4.out.below g)
  have A_5 := hold (A_4.out.below g)
  have B_5 := hold (B_4.out.below g)
  have C_5 := hold (C_4.out.below g)
  have E_5 := hold (E_4.out.below g)
  have F_5 := hold (F_4.out.below g)
  have H_5 := hold (H_4.out.below g)
  have I_5 := hold (I_4.out.below g)
  have G_5 := hold (G_4.out.trans (g.mono G_4.out.size))
  clear X1_4 Y1_4 Z1_4 X2_4 Y2_4 Z2_4 VD_4 A_4 B_4 C_4 E_4 F_4 H_4 I_4 G_4 hn g
  go_wp2_with fail
  refine (kM.out D25 s e _ _ _ L_D.out L_s.out E_e.out VD_5.out J_5.out).mono ?_
  rintro e w6 ⟨v, rfl, hn, g⟩
  obtain ⟨Ka, Kc, Kd, rfl⟩ := hn.shape
  have K_6 : Hid (Num w6 (.slice Ka Kc Kd) (e)) := hn
  have X1_6 := hold (X1_5.out.below g)
  have Y1_6 := hold (Y1_5.out.below g)
  have Z1_6 := hold (Z1_5.out.below g)
  have X2_6 := hold (X2_5.out.below g)
  have Y2_6 := hold (Y2_5.out.below g)
  have Z2_6 := hold (Z2_5.out.below g)
  have A_6 := hold (A_5.out.below g)
  have B_6 := hold (B_5.out.below g)
  have C_6 := hold (C_5.out.below g)
  have E_6 := hold (E_5.out.below g)
  have F_6 := hold (F_5.out.below g)
  have H_6 := hold (H_5.out.below g)
  have I_6 := hold (I_5.out.below g)
  have G_6 := hold (G_5.out.trans (g.mono G_5.out.size))
  clear X1_5 Y1_5 Z1_5 X2_5 Y2_5 Z2_5 VD_5 A_5 B_5 C_5 E_5 F_5 H_5 I_5 J_5 G_5 hn g
  go_wp2_with fail
  refine (kS.out zz e m _ _ _ L_zz.out L_e.out E_m.out F_6.out K_6.out).mono ?_
  rintro e w7 ⟨v, rfl, hn, g⟩
  obtain ⟨Ma, Mc, Md, rfl⟩ := hn.shape
  have M_7 : Hid (Num w7 (.slice Ma Mc Md) (m)) := hn
  have X1_7 := hold (X1_6.out.below g)
  have Y1_7 := hold (Y1_6.out.below g)
  have Z1_7 := hold (Z1_6.out.below g)
  have X2_7 := hold (X2_6.out.below g)
  have Y2_7 := hold (Y2_6.out.below g)
  have Z2_7 := hold (Z2_6.out.below g)
  have A_7 := hold (A_6.out.below g)
  have B_7 := hold (B_6.out.below g)
  have C_7 := hold (C_6.out.below g)
  have E_7 := hold (E_6.out.below g)
  have F_7 := hold (F_6.out.below g)
  have H_7 := hold (H_6.out.below g)
  have I_7 := hold (I_6.out.below g)
  have K_7 := hold (K_6.out.below g)
  have G_7 := hold (G_6.out.trans (g.mono G_6.out.size))
  clear X1_6 Y1_6 Z1_6 X2_6 Y2_6 Z2_6 A_6 B_6 C_6 E_6 F_6 H_6 I_6 K_6 G_6 hn g
  go_wp2_with fail
  refine (kA.out zz e p _ _ _ L_zz.out L_e.out E_p.out F_7.out K_7.out).mono ?_
  rintro e w8 ⟨v, rfl, hn, g⟩
  obtain ⟨Na, Nc, Nd, rfl⟩ := hn.shape
  have N_8 : Hid (Num w8 (.slice Na Nc Nd) (p)) := hn
  have X1_8 := hold (X1_7.out.below g)
  have Y1_8 := hold (Y1_7.out.below g)
  have Z1_8 := hold (Z1_7.out.below g)
  have X2_8 := hold (X2_7.out.below g)
  have Y2_8 := hold (Y2_7.out.below g)
  have Z2_8 := hold (Z2_7.out.below g)
  have A_8 := hold (A_7.out.below g)
  have B_8 := hold (B_7.out.below g)
  have C_8 := hold (C_7.out.below g)
  have E_8 := hold (E_7.out.below g)
  have H_8 := hold (H_7.out.below g)
  have I_8 := hold (I_7.out.below g)
  have M_8 := hold (M_7.out.below g)
  have G_8 := hold (G_7.out.trans (g.mono G_7.out.size))
  clear X1_7 Y1_7 Z1_7 X2_7 Y2_7 Z2_7 A_7 B_7 C_7 E_7 F_7 H_7 I_7 K_7 M_7 G_7 hn g
  go_wp2_with fail
  have KK : w8.drew.cell? ⟨w.heap.size, 0, none⟩ = some (.slice ax1 nx1 cx1) ∧ w8.drew.cell? ⟨w.heap.size, 1, none⟩ = some (.slice ay1 ny1 cy1) ∧ w8.drew.cell? ⟨w.heap.size + 1, 0, none⟩ = some (.slice ax2 nx2 cx2) ∧ w8.drew.cell? ⟨w.heap.size + 1, 1, none⟩ = some (.slice ay2 ny2 cy2) := ⟨A_8.out.cell 0, A_8.out.cell 1, B_8.out.cell 0, B_8.out.cell 1⟩
  refine wp_region_held_drew (S := fun w' => w'.cell? ⟨w.heap.size, 0, none⟩ = some (.slice ax1 nx1 cx1) ∧ w'.cell? ⟨w.heap.size, 1, none⟩ = some (.slice ay1 ny1 cy1) ∧ w'.cell? ⟨w.heap.size + 1, 0, none⟩ = some (.slice ax2 nx2 cx2) ∧ w'.cell? ⟨w.heap.size + 1, 1, none⟩ = some (.slice ay2 ny2 cy2)) (by kernel_rfl) KK (fun hHeld => ?_)
  refine h_take 0 (v := ?v0) rfl (by kernel_rfl) (by kernel_rfl) (by kernel_rfl) (fun _ _ _ h => h) (by rfl) ?hy0 (by assumption) ?_
  case hy0 =>
    intro w' hSw
    try dsimp only at hSw
    go_simp
    try with_reducible rfl
  try simp only [Act.put, List.setIfInBounds_toArray, List.set_cons_zero, List.set_cons_succ]
  refine h_take 1 (v := ?v1) rfl (by kernel_rfl) (by kernel_rfl) (by kernel_rfl) (fun _ _ _ h => h) (by rfl) ?hy1 (by assumption) ?_
  case hy1 =>
    intro w' hSw
    try dsimp only at hSw
    go_simp
    try with_reducible rfl
  try simp only [Act.put, List.setIfInBounds_toArray, List.set_cons_zero, List.set_cons_succ]
  refine h_take 2 (v := ?v2) rfl (by kernel_rfl) (by kernel_rfl) (by kernel_rfl) (fun _ _ _ h => h) (by rfl) ?hy2 (by assumption) ?_
  case hy2 =>
    intro w' hSw
    try dsimp only at hSw
    go_simp
    try with_reducible rfl
  try simp only [Act.put, List.setIfInBounds_toArray, List.set_cons_zero, List.set_cons_succ]
  refine h_take 3 (v := ?v3) rfl (by kernel_rfl) (by kernel_rfl) (by kernel_rfl) (fun _ _ _ h => h) (by rfl) ?hy3 (by assumption) ?_
  case hy3 =>
    intro w' hSw
    try dsimp only at hSw
    go_simp
    try with_reducible rfl
  try simp only [Act.put, List.setIfInBounds_toArray, List.set_cons_zero, List.set_cons_succ]
  refine h_take 5 (v := ?v5) rfl (by kernel_rfl) (by kernel_rfl) (by kernel_rfl) (fun _ _ _ h => h) (by rfl) ?hy5 (by assumption) ?_
  case hy5 =>
    intro w' hSw
    try dsimp only at hSw
    go_simp
    try with_reducible rfl
  try simp only [Act.put, List.setIfInBounds_toArray, List.set_cons_zero, List.set_cons_succ]
  refine h_take 6 (v := ?v6) rfl (by kernel_rfl) (by kernel_rfl) (by kernel_rfl) (fun _ _ _ h => h) (by rfl) ?hy6 (by assumption) ?_
  case hy6 =>
    intro w' hSw
    try dsimp only at hSw
    go_simp
    try with_reducible rfl
  try simp only [Act.put, List.setIfInBounds_toArray, List.set_cons_zero, List.set_cons_succ]
  refine h_take 7 (v := ?v7) rfl (by kernel_rfl) (by kernel_rfl) (by kernel_rfl) (fun _ _ _ h => h) (by rfl) ?hy7 (by assumption) ?_
  case hy7 =>
    intro w' hSw
    try dsimp only at hSw
    go_simp
    try with_reducible rfl
  try simp only [Act.put, List.setIfInBounds_toArray, List.set_cons_zero, List.set_cons_succ]
  refine h_take 8 (v := ?v8) rfl (by kernel_rfl) (by kernel_rfl) (by kernel_rfl) (fun _ _ _ h => h) (by rfl) ?hy8 (by assumption) ?_
  case hy8 =>
    intro w' hSw
    try dsimp only at hSw
    go_simp
    try with_reducible rfl
  try simp only [Act.put, List.setIfInBounds_toArray, List.set_cons_zero, List.set_cons_succ]
  refine h_call 4 rfl (by kernel_rfl) (by rfl) (fun Kk hK => ?_)
  go_simp
  refine (kM.out X1 Y2 c1 _ _ w8.drew L_X1.out L_Y2.out E_c1.out X1_8.out Y2_8.out).mono ?_
  rintro e w9 ⟨v, rfl, hn, g'⟩
  have g : Below w8.heap.size w8 w9 := (Below.refl _ w8).drew.trans g'
  obtain ⟨Oa, Oc, Od, rfl⟩ := hn.shape
  have O_9 : Hid (Num w9 (.slice Oa Oc Od) (c1)) := hn
  have X1_9 := hold (X1_8.out.below g)
  have Y1_9 := hold (Y1_8.out.below g)
  have Z1_9 := hold (Z1_8.out.below g)
  have X2_9 := hold (X2_8.out.below g)
  have Y2_9 := hold (Y2_8.out.below g)
  have Z2_9 := hold (Z2_8.out.below g)
  have A_9 := hold (A_8.out.below g)
  have B_9 := hold (B_8.out.below g)
  have C_9 := hold (C_8.out.below g)
  have E_9 := hold (E_8.out.below g)
  have H_9 := hold (H_8.out.below g)
  have I_9 := hold (I_8.out.below g)
  have M_9 := hold (M_8.out.below g)
  have N_9 := hold (N_8.out.below g)
  have G_9 := hold (G_8.out.trans (g.mono G_8.out.size))
  clear X1_8 Y1_8 Z1_8 X2_8 Y2_8 Z2_8 A_8 B_8 C_8 E_8 H_8 I_8 M_8 N_8 G_8 hn g g'
  have KK9 : w9.cell? ⟨w.heap.size, 0, none⟩ = some (.slice ax1 nx1 cx1) ∧ w9.cell? ⟨w.heap.size, 1, none⟩ = some (.slice ay1 ny1 cy1) ∧ w9.cell? ⟨w.heap.size + 1, 0, none⟩ = some (.slice ax2 nx2 cx2) ∧ w9.cell? ⟨w.heap.size + 1, 1, none⟩ = some (.slice ay2 ny2 cy2) := ⟨A_9.out.cell 0, A_9.out.cell 1, B_9.out.cell 0, B_9.out.cell 1⟩
  clear hHeld
  refine hK.out _ _ KK9 (fun hHeld => ?_)
  clear hK Kk
  try simp only [Act.put, List.setIfInBounds_toArray, List.set_cons_zero, List.set_cons_succ]
  refine h_call 9 rfl (by kernel_rfl) (by rfl) (fun Kk hK => ?_)
  go_simp
  refine (kM.out Y1 X2 c2 _ _ _ L_Y1.out L_X2.out E_c2.out Y1_9.out X2_9.out).mono ?_
  rintro e w10 ⟨v, rfl, hn, g'⟩
  have g : Below w9.heap.size w9 w10 := g'
  obtain ⟨Pa, Pc, Pd, rfl⟩ := hn.shape
  have P_10 : Hid (Num w10 (.slice Pa Pc Pd) (c2)) := hn
  have X1_10 := hold (X1_9.out.below g)
  have Y1_10 := hold (Y1_9.out.below g)
  have Z1_10 := hold (Z1_9.out.below g)
  have X2_10 := hold (X2_9.out.below g)
  have Y2_10 := hold (Y2_9.out.below g)
  have Z2_10 := hold (Z2_9.out.below g)
  have A_10 := hold (A_9.out.below g)
  have B_10 := hold (B_9.out.below g)
  have C_10 := hold (C_9.out.below g)
  have E_10 := hold (E_9.out.below g)
  have H_10 := hold (H_9.out.below g)
  have I_10 := hold (I_9.out.below g)
  have M_10 := hold (M_9.out.below g)
  have N_10 := hold (N_9.out.below g)
  have O_10 := hold (O_9.out.below g)
  have G_10 := hold (G_9.out.trans (g.mono G_9.out.size))
  clear X1_9 Y1_9 Z1_9 X2_9 Y2_9 Z2_9 A_9 B_9 C_9 E_9 H_9 I_9 M_9 N_9 O_9 G_9 hn g g'
  have KK10 : w10.cell? ⟨w.heap.size, 0, none⟩ = some (.slice ax1 nx1 cx1) ∧ w10.cell? ⟨w.heap.size, 1, none⟩ = some (.slice ay1 ny1 cy1) ∧ w10.cell? ⟨w.heap.size + 1, 0, none⟩ = some (.slice ax2 nx2 cx2) ∧ w10.cell? ⟨w.heap.size + 1, 1, none⟩ = some (.slice ay2 ny2 cy2) := ⟨A_10.out.cell 0, A_10.out.cell 1, B_10.out.cell 0, B_10.out.cell 1⟩
  clear hHeld
  refine hK.out _ _ KK10 (fun hHeld => ?_)
  clear hK Kk
  try simp only [Act.put, List.setIfInBounds_toArray, List.set_cons_zero, List.set_cons_succ]
  refine h_call 10 rfl (by kernel_rfl) (by rfl) (fun Kk hK => ?_)
  go_simp
  refine (kA.out c1 c2 c _ _ _ L_c1.out L_c2.out E_c.out O_10.out P_10.out).mono ?_
  rintro e w11 ⟨v, rfl, hn, g'⟩
  have g : Below w10.heap.size w10 w11 := g'
  obtain ⟨Qa, Qc, Qd, rfl⟩ := hn.shape
  have Q_11 : Hid (Num w11 (.slice Qa Qc Qd) (c)) := hn
  have X1_11 := hold (X1_10.out.below g)
  have Y1_11 := hold (Y1_10.out.below g)
  have Z1_11 := hold (Z1_10.out.below g)
  have X2_11 := hold (X2_10.out.below g)
  have Y2_11 := hold (Y2_10.out.below g)
  have Z2_11 := hold (Z2_10.out.below g)
  have A_11 := hold (A_10.out.below g)
  have B_11 := hold (B_10.out.below g)
  have C_11 := hold (C_10.out.below g)
  have E_11 := hold (E_10.out.below g)
  have H_11 := hold (H_10.out.below g)
  have I_11 := hold (I_10.out.below g)
  have M_11 := hold (M_10.out.below g)
  have N_11 := hold (N_10.out.below g)
  have O_11 := hold (O_10.out.below g)
  have P_11 := hold (P_10.out.below g)
  have G_11 := hold (G_10.out.trans (g.mono G_10.out.size))
  clear X1_10 Y1_10 Z1_10 X2_10 Y2_10 Z2_10 A_10 B_10 C_10 E_10 H_10 I_10 M_10 N_10 O_10 P_10 G_10 hn g g'
  have KK11 : w11.cell? ⟨w.heap.size, 0, none⟩ = some (.slice ax1 nx1 cx1) ∧ w11.cell? ⟨w.heap.size, 1, none⟩ = some (.slice ay1 ny1 cy1) ∧ w11.cell? ⟨w.heap.size + 1, 0, none⟩ = some (.slice ax2 nx2 cx2) ∧ w11.cell? ⟨w.heap.size + 1, 1, none⟩ = some (.slice ay2 ny2 cy2) := ⟨A_11.out.cell 0, A_11.out.cell 1, B_11.out.cell 0, B_11.out.cell 1⟩
  clear hHeld
  refine hK.out _ _ KK11 (fun hHeld => ?_)
  clear hK Kk
  try simp only [Act.put, List.setIfInBounds_toArray, List.set_cons_zero, List.set_cons_succ]
  refine h_take 11 (v := ?v11) rfl (by kernel_rfl) (by kernel_rfl) (by kernel_rfl) (fun _ _ _ h => h) (by rfl) ?hy11 (by assumption) ?_
  case hy11 =>
    intro w' hSw
    try dsimp only at hSw
    go_simp
    try with_reducible rfl
  try simp only [Act.put, List.setIfInBounds_toArray, List.set_cons_zero, List.set_cons_succ]
  refine wpAnyH_done (by kernel_rfl) ?_ _
  clear hHeld O_11 P_11 X1_11 Y1_11 Z1_11 X2_11 Y2_11 Z2_11 A_11 B_11
  go_wp2_with fail
  refine (kM.out z c f _ _ _ L_z.out L_c.out E_f.out E_11.out Q_11.out).mono ?_
  rintro e w12 ⟨v, rfl, hn, g⟩
  obtain ⟨Ra, Rc, Rd, rfl⟩ := hn.shape
  have R_12 : Hid (Num w12 (.slice Ra Rc Rd) (f)) := hn
  have C_12 := hold (C_11.out.below g)
  have E_12 := hold (E_11.out.below g)
  have H_12 := hold (H_11.out.below g)
  have I_12 := hold (I_11.out.below g)
  have M_12 := hold (M_11.out.below g)
  have N_12 := hold (N_11.out.below g)
  have G_12 := hold (G_11.out.trans (g.mono G_11.out.size))
  clear C_11 E_11 H_11 I_11 M_11 N_11 Q_11 G_11 hn g
  go_wp2_with fail
  refine (kM.out f m X3 _ _ _ L_f.out L_m.out E_X3.out R_12.out M_12.out).mono ?_
  rintro e w13 ⟨v, rfl, hn, g⟩
  obtain ⟨Ta, Tc, Td, rfl⟩ := hn.shape
  have T_13 : Hid (Num w13 (.slice Ta Tc Td) (X3)) := hn
  have C_13 := hold (C_12.out.below g)
  have E_13 := hold (E_12.out.below g)
  have H_13 := hold (H_12.out.below g)
  have I_13 := hold (I_12.out.below g)
  have M_13 := hold (M_12.out.below g)
  have N_13 := hold (N_12.out.below g)
  have G_13 := hold (G_12.out.trans (g.mono G_12.out.size))
  clear C_12 E_12 H_12 I_12 M_12 N_12 R_12 G_12 hn g
  go_wp2_with fail
  refine (kA.out yy xx ga _ _ _ L_yy.out L_xx.out E_ga.out I_13.out H_13.out).mono ?_
  rintro e w14 ⟨v, rfl, hn, g⟩
  obtain ⟨Ua, Uc, Ud, rfl⟩ := hn.shape
  have U_14 : Hid (Num w14 (.slice Ua Uc Ud) (ga)) := hn
  have C_14 := hold (C_13.out.below g)
  have E_14 := hold (E_13.out.below g)
  have M_14 := hold (M_13.out.below g)
  have N_14 := hold (N_13.out.below g)
  have T_14 := hold (T_13.out.below g)
  have G_14 := hold (G_13.out.trans (g.mono G_13.out.size))
  clear C_13 E_13 H_13 I_13 M_13 N_13 T_13 G_13 hn g
  go_wp2_with fail
  refine (kM.out z ga ha _ _ _ L_z.out L_ga.out E_ha.out E_14.out U_14.out).mono ?_
  rintro e w15 ⟨v, rfl, hn, g⟩
  obtain ⟨Va, Vc, Vd, rfl⟩ := hn.shape
  have V_15 : Hid (Num w15 (.slice Va Vc Vd) (ha)) := hn
  have C_15 := hold (C_14.out.below g)
  have M_15 := hold (M_14.out.below g)
  have N_15 := hold (N_14.out.below g)
  have T_15 := hold (T_14.out.below g)
  have G_15 := hold (G_14.out.trans (g.mono G_14.out.size))
  clear C_14 E_14 M_14 N_14 T_14 U_14 G_14 hn g
  go_wp2_with fail
  refine (kM.out ha p Y3 _ _ _ L_ha.out L_p.out E_Y3.out V_15.out N_15.out).mono ?_
  rintro e w16 ⟨v, rfl, hn, g⟩
  obtain ⟨Xa, Xc, Xd, rfl⟩ := hn.shape
  have X_16 : Hid (Num w16 (.slice Xa Xc Xd) (Y3)) := hn
  have C_16 := hold (C_15.out.below g)
  have M_16 := hold (M_15.out.below g)
  have N_16 := hold (N_15.out.below g)
  have T_16 := hold (T_15.out.below g)
  have G_16 := hold (G_15.out.trans (g.mono G_15.out.size))
  clear C_15 M_15 N_15 T_15 V_15 G_15 hn g
  go_wp2_with fail
  refine (kM.out m p Z3 _ _ _ L_m.out L_p.out E_Z3.out M_16.out N_16.out).mono ?_
  rintro e w17 ⟨v, rfl, hn, g⟩
  obtain ⟨Ya, Yc, Yd, rfl⟩ := hn.shape
  have Y_17 : Hid (Num w17 (.slice Ya Yc Yd) (Z3)) := hn
  have C_17 := hold (C_16.out.below g)
  have T_17 := hold (T_16.out.below g)
  have X_17 := hold (X_16.out.below g)
  have G_17 := hold (G_16.out.trans (g.mono G_16.out.size))
  clear C_16 M_16 N_16 T_16 X_16 G_16 hn g
  have r0 := C_17.out.cell 0
  have r1 := C_17.out.cell 1
  have r2 := C_17.out.cell 2
  have r3 := C_17.out.cell 3
  simp only [List.getElem?_cons_zero, List.getElem?_cons_succ] at r0 r1 r2 r3
  have s0 := C_17.out.free 0
  have s1 := C_17.out.free 1
  have s2 := C_17.out.free 2
  have s3 := C_17.out.free 3
  go_wp2_with fail
  clear r0 r1 r2 r3 s0 s1 s2 s3
  have o1 : Off (w.heap.size + 1 + 1) (.slice Ta Tc Td) := off_none C_17.out (no_ints _ _ _ _ _ _ _ _ _ _) T_17.out
  have o2 : Off (w.heap.size + 1 + 1) (.slice Xa Xc Xd) := off_none C_17.out (no_ints _ _ _ _ _ _ _ _ _ _) X_17.out
  have o3 : Off (w.heap.size + 1 + 1) (.slice Ya Yc Yd) := off_none C_17.out (no_ints _ _ _ _ _ _ _ _ _ _) Y_17.out
  have hF := ((((Oth.refl (w.heap.size + 1 + 1) w17).set 0 (.slice Ta Tc Td)).set 1 (.slice Xa Xc Xd)).set 2 (.slice Ya Yc Yd)).set 3 (.bool true)
  refine body_cut' (fun F => At 37 F (w.heap.size + 1 + 1) [.slice Ta Tc Td, .slice Xa Xc Xd, .slice Ya Yc Yd, .bool true] ∧ Num F (.slice Ta Tc Td) X3 ∧ Num F (.slice Xa Xc Xd) Y3 ∧ Num F (.slice Ya Yc Yd) Z3 ∧ Below w.heap.size w F)
    ⟨(((C_17.out.set 0 _).set 1 _).set 2 _).set 3 _, T_17.out.oth10 hF o1, X_17.out.oth10 hF o2, Y_17.out.oth10 hF o3, Oth.bel G_17.out hF (by omega)⟩ ?_
  rintro F ⟨hC, h1, h2, h3, hB⟩
  exact bodyPost_ret (v := .agg #[.slice Ta Tc Td, .slice Xa Xc Xd, .slice Ya Yc Yd, .bool true]) (results_mid (Tryd.results19) _ F (w.heap.size + 1 + 1) 0 [.slice Ta Tc Td, .slice Xa Xc Xd, .slice Ya Yc Yd, .bool true] _ rfl hC.range Tryd.underlying37 rfl (by kernel_rfl)) rfl ⟨_, _, _, rfl, h1, h2, h3, hB⟩
end Go.Proofs.YtedhfimjcpbcpaaDoor.Ed

/-
  The contracts of the document's own Add, Neg, Bytes of layer 10, of points of the curve. Conditions: as each theorem says.
-/
namespace Go.Proofs.YtedhfimjcpbcpaaDoor.Ed
open Go.RowKit
set_option linter.unusedVariables false
set_option linter.unusedSimpArgs false

/-- The value leads to numbers that stand for the point. -/
def Pm (W : World) (v : Value) (p : Pt) : Prop := ∃ vx vy vz X Y Z, v = .agg #[vx, vy, vz, .bool true] ∧ Num W vx X ∧ Num W vy Y ∧ Num W vz Z ∧ Rp X Y Z p
theorem Pm.below {W W' : World} {v : Value} {p : Pt} (h : Pm W v p) (hb : Below W.heap.size W W') : Pm W' v p := by
  obtain ⟨vx, vy, vz, X, Y, Z, e, h1, h2, h3, h4⟩ := h
  exact ⟨vx, vy, vz, X, Y, Z, e, h1.below hb, h2.below hb, h3.below hb, h4⟩
theorem add_pt (P Q : Pt) (v v' vd : Value) (w : World) (h : Pm w v P) (h' : Pm w v' Q) (hd : Num w vd D25) :
    Calls Tryd.prog 19 #[v, v', vd] w fun e w' => ∃ u, e = .returned u ∧ Pm w' u (P.add Q) ∧ Below w.heap.size w w' := by
  obtain ⟨vx1, vy1, vz1, X1, Y1, Z1, rfl, hx1, hy1, hz1, r1⟩ := h
  obtain ⟨vx2, vy2, vz2, X2, Y2, Z2, rfl, hx2, hy2, hz2, r2⟩ := h'
  have R1 := r1
  have R2 := r2
  obtain ⟨l1, l2, l3, -⟩ := r1
  obtain ⟨l4, l5, l6, -⟩ := r2
  refine (addD_pt X1 Y1 Z1 X2 Y2 Z2 _ _ _ _ _ _ _ _ _ _ _ _ _ _ _ _ _ vx1 vy1 vz1 vx2 vy2 vz2 vd true true w hx1 hy1 hz1 hx2 hy2 hz2 hd l1 l2 l3 l4 l5 l6 rfl rfl rfl rfl rfl rfl rfl rfl rfl rfl rfl rfl rfl rfl rfl rfl rfl).mono ?_
  rintro e w' ⟨v1, v2, v3, rfl, k1, k2, k3, g⟩
  exact ⟨_, rfl, ⟨v1, v2, v3, _, _, _, rfl, k1, k2, k3, rp_add X1 Y1 Z1 X2 Y2 Z2 _ _ _ _ _ _ _ _ _ _ _ _ _ _ _ _ _ P Q R1 R2 rfl rfl rfl rfl rfl rfl rfl rfl rfl rfl rfl rfl rfl rfl rfl rfl rfl⟩, g⟩

set_option maxRecDepth 100000 in
set_option maxHeartbeats 4000000 in
theorem zero_pt (w : World) :
    Calls Tryd.prog 24 #[] w fun e w' => ∃ u, e = .returned u ∧ Pm w' u Pt.zero ∧ Below w.heap.size w w' := by
  have C0 : Hid (At 37 (w.alloc (.cells #[.slice none 0 0, .slice none 0 0, .slice none 0 0, .bool false] 37)) w.heap.size [.slice none 0 0, .slice none 0 0, .slice none 0 0, .bool false]) := at_new 37 w [.slice none 0 0, .slice none 0 0, .slice none 0 0, .bool false]
  obtain ⟨w0, hw0⟩ : ∃ V, Hid ((w.alloc (.cells #[.slice none 0 0, .slice none 0 0, .slice none 0 0, .bool false] 37)) = V) := ⟨_, rfl⟩
  have g0 : Hid (Below w.heap.size w w0) := by unfold Hid; rw [← hw0.out]; exact (Below.refl _ _).alloc (Nat.le_refl _) _
  rw [hw0.out] at C0
  have gl : ∀ W : World, Below W.heap.size W (W.alloc (.cells #[.int .i64 1] 3)) := fun W => (Below.refl _ _).alloc (Nat.le_refl _) _
  have C2 : Hid (At 37 ((w0.alloc (.cells #[.int .i64 1] 3)).alloc (.cells #[.int .i64 1] 3)) w.heap.size [.slice none 0 0, .slice none 0 0, .slice none 0 0, .bool false]) := (C0.out.below (gl _)).below (gl _)
  have G2 : Hid (Below w.heap.size w ((w0.alloc (.cells #[.int .i64 1] 3)).alloc (.cells #[.int .i64 1] 3))) := (g0.out.trans ((gl _).mono g0.out.size)).trans ((gl _).mono (by have := g0.out.size; simp; omega))
  have Y2 : Hid (Num ((w0.alloc (.cells #[.int .i64 1] 3)).alloc (.cells #[.int .i64 1] 3)) (.slice (some ⟨w0.heap.size, 0, none⟩) 1 1) 1) := (num_lit w0 1 (by omega) (by omega)).below (gl _)
  have Z2 : Hid (Num ((w0.alloc (.cells #[.int .i64 1] 3)).alloc (.cells #[.int .i64 1] 3)) (.slice (some ⟨w0.heap.size + 1, 0, none⟩) 1 1) 1) := by
    have h := num_lit (w0.alloc (.cells #[.int .i64 1] 3)) 1 (by omega) (by omega)
    rwa [World.size_alloc] at h
  go_enter Tryd.func24, Tryd.ntmps24
  go_upto_region 1 with fail
  rw [hw0.out]
  clear hw0 g0 C0 gl
  have r0 := C2.out.cell 0
  have r1 := C2.out.cell 1
  have r2 := C2.out.cell 2
  have r3 := C2.out.cell 3
  simp only [List.getElem?_cons_zero, List.getElem?_cons_succ] at r0 r1 r2 r3
  have s0 := C2.out.free 0
  have s1 := C2.out.free 1
  have s2 := C2.out.free 2
  have s3 := C2.out.free 3
  go_wp2_with fail
  clear r0 r1 r2 r3 s0 s1 s2 s3
  obtain ⟨w2, hw2⟩ : ∃ V, Hid (((w0.alloc (.cells #[.int .i64 1] 3)).alloc (.cells #[.int .i64 1] 3)) = V) := ⟨_, rfl⟩
  rw [hw2.out] at C2 G2 Y2 Z2 ⊢
  have X2 : Num w2 (.slice none 0 0) 0 := num_none _
  have o2 : Off w.heap.size (.slice (some ⟨w0.heap.size, 0, none⟩) 1 1) := off_none C2.out (no_ints _ _ _ _ _ _ _ _ _ _) Y2.out
  have o3 : Off w.heap.size (.slice (some ⟨w0.heap.size + 1, 0, none⟩) 1 1) := off_none C2.out (no_ints _ _ _ _ _ _ _ _ _ _) Z2.out
  have hF := ((((Oth.refl w.heap.size w2).set 0 (.slice none 0 0)).set 1 (.slice (some ⟨w0.heap.size, 0, none⟩) 1 1)).set 2 (.slice (some ⟨w0.heap.size + 1, 0, none⟩) 1 1)).set 3 (.bool true)
  refine body_cut' (fun F => At 37 F w.heap.size [.slice none 0 0, .slice (some ⟨w0.heap.size, 0, none⟩) 1 1, .slice (some ⟨w0.heap.size + 1, 0, none⟩) 1 1, .bool true] ∧ Num F (.slice (some ⟨w0.heap.size, 0, none⟩) 1 1) 1 ∧ Num F (.slice (some ⟨w0.heap.size + 1, 0, none⟩) 1 1) 1 ∧ Below w.heap.size w F)
    ⟨(((C2.out.set 0 _).set 1 _).set 2 _).set 3 _, Y2.out.oth10 hF o2, Z2.out.oth10 hF o3, Oth.bel G2.out hF (Nat.le_refl _)⟩ ?_
  rintro F ⟨hC, h2, h3, hB⟩
  exact bodyPost_ret (v := .agg #[.slice none 0 0, .slice (some ⟨w0.heap.size, 0, none⟩) 1 1, .slice (some ⟨w0.heap.size + 1, 0, none⟩) 1 1, .bool true]) (results_mid (Tryd.results24) _ F w.heap.size 0 [.slice none 0 0, .slice (some ⟨w0.heap.size, 0, none⟩) 1 1, .slice (some ⟨w0.heap.size + 1, 0, none⟩) 1 1, .bool true] _ rfl hC.range Tryd.underlying37 rfl (by kernel_rfl)) rfl ⟨_, rfl, ⟨_, _, _, _, _, _, rfl, num_none _, h2, h3, rp_zero⟩, hB⟩
end Go.Proofs.YtedhfimjcpbcpaaDoor.Ed

/-
  The contracts of the document's own Same of layer 10. Conditions: as each theorem says.
-/
namespace Go.Proofs.YtedhfimjcpbcpaaDoor.Ed
open Go.RowKit
set_option linter.unusedVariables false
set_option linter.unusedSimpArgs false

set_option maxRecDepth 100000 in
set_option maxHeartbeats 8000000 in
theorem sameD_yes (X1 Y1 Z1 X2 Y2 Z2 p q r s : Nat) (vx1 vy1 vz1 vx2 vy2 vz2 : Value) (t1 t2 : Bool) (w : World)
    (hx1 : Num w vx1 X1) (hy1 : Num w vy1 Y1) (hz1 : Num w vz1 Z1) (hx2 : Num w vx2 X2) (hy2 : Num w vy2 Y2) (hz2 : Num w vz2 Z2)
    (lx1 : X1 < P25) (ly1 : Y1 < P25) (lz1 : Z1 < P25) (lx2 : X2 < P25) (ly2 : Y2 < P25) (lz2 : Z2 < P25)
    (q_p : X1 * Z2 % P25 = p) (q_q : X2 * Z1 % P25 = q) (q_r : Y1 * Z2 % P25 = r) (q_s : Y2 * Z1 % P25 = s) (hpq : p = q) :
    Calls Tryd.prog 23 #[.agg #[vx1, vy1, vz1, .bool t1], .agg #[vx2, vy2, vz2, .bool t2]] w fun e w' => e = .returned (.bool (decide (r = s))) ∧ Below w.heap.size w w' := by
  have E_p : Hid (X1 * Z2 % P25 = p) := q_p
  have L_p : Hid (p < P25) := by rw [← q_p]; exact mod_P _
  have E_q : Hid (X2 * Z1 % P25 = q) := q_q
  have L_q : Hid (q < P25) := by rw [← q_q]; exact mod_P _
  have E_r : Hid (Y1 * Z2 % P25 = r) := q_r
  have L_r : Hid (r < P25) := by rw [← q_r]; exact mod_P _
  have E_s : Hid (Y2 * Z1 % P25 = s) := q_s
  have L_s : Hid (s < P25) := by rw [← q_s]; exact mod_P _
  have L_X1 : Hid (X1 < P25) := lx1
  obtain ⟨ax1, nx1, cx1, rfl⟩ := hx1.shape
  have L_Y1 : Hid (Y1 < P25) := ly1
  obtain ⟨ay1, ny1, cy1, rfl⟩ := hy1.shape
  have L_Z1 : Hid (Z1 < P25) := lz1
  obtain ⟨az1, nz1, cz1, rfl⟩ := hz1.shape
  have L_X2 : Hid (X2 < P25) := lx2
  obtain ⟨ax2, nx2, cx2, rfl⟩ := hx2.shape
  have L_Y2 : Hid (Y2 < P25) := ly2
  obtain ⟨ay2, ny2, cy2, rfl⟩ := hy2.shape
  have L_Z2 : Hid (Z2 < P25) := lz2
  obtain ⟨az2, nz2, cz2, rfl⟩ := hz2.shape
  have kM : Hid (∀ (A B C : Nat) v v' W, A < P25 → B < P25 → A * B % P25 = C → Num W v A → Num W v' B → Calls Tryd.prog 47 #[v, v'] W fun e w' => ∃ u, e = .returned u ∧ Num w' u C ∧ Below W.heap.size W w') := fun A B C v v' W h1 h2 h3 h4 h5 => by rw [← h3]; exact mulD_num A B v v' W h4 h5 (lt11 h1) (lt11 h2)
  obtain ⟨w0, hw0⟩ : ∃ V, Hid (((w.alloc (.cells #[.slice ax1 nx1 cx1, .slice ay1 ny1 cy1, .slice az1 nz1 cz1, .bool t1] 37)).alloc (.cells #[.slice ax2 nx2 cx2, .slice ay2 ny2 cy2, .slice az2 nz2 cz2, .bool t2] 37)) = V) := ⟨_, rfl⟩
  have g0 : Below w.heap.size w w0 := by rw [← hw0.out]; exact ((Below.refl _ _).alloc (Nat.le_refl _) _).alloc (by simp) _
  have G_0 : Hid (Below w.heap.size w w0) := g0
  have A_0 : Hid (At 37 w0 w.heap.size [.slice ax1 nx1 cx1, .slice ay1 ny1 cy1, .slice az1 nz1 cz1, .bool t1]) := by unfold Hid; rw [← hw0.out]; exact (at_new 37 w [.slice ax1 nx1 cx1, .slice ay1 ny1 cy1, .slice az1 nz1 cz1, .bool t1]).below ((Below.refl _ _).alloc (Nat.le_refl _) _)
  have B_0 : Hid (At 37 w0 (w.heap.size + 1) [.slice ax2 nx2 cx2, .slice ay2 ny2 cy2, .slice az2 nz2 cz2, .bool t2]) := by
    unfold Hid; rw [← hw0.out]
    have h := at_new 37 (w.alloc (.cells #[.slice ax1 nx1 cx1, .slice ay1 ny1 cy1, .slice az1 nz1 cz1, .bool t1] 37)) [.slice ax2 nx2 cx2, .slice ay2 ny2 cy2, .slice az2 nz2 cz2, .bool t2]
    rwa [World.size_alloc] at h
  have X1_0 : Hid (Num w0 (.slice ax1 nx1 cx1) X1) := hx1.below g0
  have Y1_0 : Hid (Num w0 (.slice ay1 ny1 cy1) Y1) := hy1.below g0
  have Z1_0 : Hid (Num w0 (.slice az1 nz1 cz1) Z1) := hz1.below g0
  have X2_0 : Hid (Num w0 (.slice ax2 nx2 cx2) X2) := hx2.below g0
  have Y2_0 : Hid (Num w0 (.slice ay2 ny2 cy2) Y2) := hy2.below g0
  have Z2_0 : Hid (Num w0 (.slice az2 nz2 cz2) Z2) := hz2.below g0
  have hK0 : w0.drew.cell? ⟨w.heap.size, 0, none⟩ = some (.slice ax1 nx1 cx1) ∧ w0.drew.cell? ⟨w.heap.size, 1, none⟩ = some (.slice ay1 ny1 cy1) ∧ w0.drew.cell? ⟨w.heap.size, 2, none⟩ = some (.slice az1 nz1 cz1) ∧ w0.drew.cell? ⟨w.heap.size + 1, 0, none⟩ = some (.slice ax2 nx2 cx2) ∧ w0.drew.cell? ⟨w.heap.size + 1, 1, none⟩ = some (.slice ay2 ny2 cy2) ∧ w0.drew.cell? ⟨w.heap.size + 1, 2, none⟩ = some (.slice az2 nz2 cz2) := ⟨A_0.out.cell 0, A_0.out.cell 1, A_0.out.cell 2, B_0.out.cell 0, B_0.out.cell 1, B_0.out.cell 2⟩
  have hc1 : (ord (p : Int) (q : Int) == 0) = true := by rw [beq_iff_eq]; exact (ord_zero p q).2 hpq
  have hc2 : (ord (r : Int) (s : Int) == 0) = decide (r = s) := by
    rw [Bool.eq_iff_iff]
    simp only [beq_iff_eq, decide_eq_true_eq]
    exact ord_zero r s
  obtain ⟨T, hT⟩ : ∃ T, decide (r = s) = T := ⟨_, rfl⟩
  rw [hT] at hc2 ⊢
  clear hT
  clear hx1 hy1 hz1 hx2 hy2 hz2 lx1 ly1 lz1 lx2 ly2 lz2 g0 hpq q_p q_q q_r q_s
  go_enter Tryd.func23, Tryd.ntmps23
  go_upto_region 1 with fail
  rw [hw0.out]
  clear hw0
  refine wp_region_held_drew (S := fun w' => w'.cell? ⟨w.heap.size, 0, none⟩ = some (.slice ax1 nx1 cx1) ∧ w'.cell? ⟨w.heap.size, 1, none⟩ = some (.slice ay1 ny1 cy1) ∧ w'.cell? ⟨w.heap.size, 2, none⟩ = some (.slice az1 nz1 cz1) ∧ w'.cell? ⟨w.heap.size + 1, 0, none⟩ = some (.slice ax2 nx2 cx2) ∧ w'.cell? ⟨w.heap.size + 1, 1, none⟩ = some (.slice ay2 ny2 cy2) ∧ w'.cell? ⟨w.heap.size + 1, 2, none⟩ = some (.slice az2 nz2 cz2)) (by kernel_rfl) hK0 (fun hHeld => ?_)
  refine h_take 0 (v := ?v0) rfl (by kernel_rfl) (by kernel_rfl) (by kernel_rfl) (fun _ _ _ h => h) (by rfl) ?hy0 (by assumption) ?_
  case hy0 =>
    intro w' hSw
    try dsimp only at hSw
    go_simp
    try with_reducible rfl
  try simp only [Act.put, List.setIfInBounds_toArray, List.set_cons_zero, List.set_cons_succ]
  refine h_take 1 (v := ?v1) rfl (by kernel_rfl) (by kernel_rfl) (by kernel_rfl) (fun _ _ _ h => h) (by rfl) ?hy1 (by assumption) ?_
  case hy1 =>
    intro w' hSw
    try dsimp only at hSw
    go_simp
    try with_reducible rfl
  try simp only [Act.put, List.setIfInBounds_toArray, List.set_cons_zero, List.set_cons_succ]
  refine h_take 2 (v := ?v2) rfl (by kernel_rfl) (by kernel_rfl) (by kernel_rfl) (fun _ _ _ h => h) (by rfl) ?hy2 (by assumption) ?_
  case hy2 =>
    intro w' hSw
    try dsimp only at hSw
    go_simp
    try with_reducible rfl
  try simp only [Act.put, List.setIfInBounds_toArray, List.set_cons_zero, List.set_cons_succ]
  refine h_take 3 (v := ?v3) rfl (by kernel_rfl) (by kernel_rfl) (by kernel_rfl) (fun _ _ _ h => h) (by rfl) ?hy3 (by assumption) ?_
  case hy3 =>
    intro w' hSw
    try dsimp only at hSw
    go_simp
    try with_reducible rfl
  try simp only [Act.put, List.setIfInBounds_toArray, List.set_cons_zero, List.set_cons_succ]
  refine h_take 5 (v := ?v5) rfl (by kernel_rfl) (by kernel_rfl) (by kernel_rfl) (fun _ _ _ h => h) (by rfl) ?hy5 (by assumption) ?_
  case hy5 =>
    intro w' hSw
    try dsimp only at hSw
    go_simp
    try with_reducible rfl
  try simp only [Act.put, List.setIfInBounds_toArray, List.set_cons_zero, List.set_cons_succ]
  refine h_take 6 (v := ?v6) rfl (by kernel_rfl) (by kernel_rfl) (by kernel_rfl) (fun _ _ _ h => h) (by rfl) ?hy6 (by assumption) ?_
  case hy6 =>
    intro w' hSw
    try dsimp only at hSw
    go_simp
    try with_reducible rfl
  try simp only [Act.put, List.setIfInBounds_toArray, List.set_cons_zero, List.set_cons_succ]
  refine h_take 7 (v := ?v7) rfl (by kernel_rfl) (by kernel_rfl) (by kernel_rfl) (fun _ _ _ h => h) (by rfl) ?hy7 (by assumption) ?_
  case hy7 =>
    intro w' hSw
    try dsimp only at hSw
    go_simp
    try with_reducible rfl
  try simp only [Act.put, List.setIfInBounds_toArray, List.set_cons_zero, List.set_cons_succ]
  refine h_take 8 (v := ?v8) rfl (by kernel_rfl) (by kernel_rfl) (by kernel_rfl) (fun _ _ _ h => h) (by rfl) ?hy8 (by assumption) ?_
  case hy8 =>
    intro w' hSw
    try dsimp only at hSw
    go_simp
    try with_reducible rfl
  try simp only [Act.put, List.setIfInBounds_toArray, List.set_cons_zero, List.set_cons_succ]
  refine h_call 4 rfl (by kernel_rfl) (by rfl) (fun Kk hK => ?_)
  go_simp
  refine (kM.out X1 Z2 p _ _ w0.drew L_X1.out L_Z2.out E_p.out X1_0.out Z2_0.out).mono ?_
  rintro e w1 ⟨v, rfl, hn, g'⟩
  obtain ⟨Pa, Pc, Pd, rfl⟩ := hn.shape
  have g : Below w0.heap.size w0 w1 := (Below.refl _ w0).drew.trans g'
  have P_1 : Hid (Num w1 (.slice Pa Pc Pd) (p)) := hn
  have X1_1 := hold (X1_0.out.below g)
  have Y1_1 := hold (Y1_0.out.below g)
  have Z1_1 := hold (Z1_0.out.below g)
  have X2_1 := hold (X2_0.out.below g)
  have Y2_1 := hold (Y2_0.out.below g)
  have Z2_1 := hold (Z2_0.out.below g)
  have A_1 := hold (A_0.out.below g)
  have B_1 := hold (B_0.out.below g)
  have G_1 := hold (G_0.out.trans (g.mono G_0.out.size))
  have KK1 : w1.cell? ⟨w.heap.size, 0, none⟩ = some (.slice ax1 nx1 cx1) ∧ w1.cell? ⟨w.heap.size, 1, none⟩ = some (.slice ay1 ny1 cy1) ∧ w1.cell? ⟨w.heap.size, 2, none⟩ = some (.slice az1 nz1 cz1) ∧ w1.cell? ⟨w.heap.size + 1, 0, none⟩ = some (.slice ax2 nx2 cx2) ∧ w1.cell? ⟨w.heap.size + 1, 1, none⟩ = some (.slice ay2 ny2 cy2) ∧ w1.cell? ⟨w.heap.size + 1, 2, none⟩ = some (.slice az2 nz2 cz2) := ⟨A_1.out.cell 0, A_1.out.cell 1, A_1.out.cell 2, B_1.out.cell 0, B_1.out.cell 1, B_1.out.cell 2⟩
  clear X1_0 Y1_0 Z1_0 X2_0 Y2_0 Z2_0 A_0 B_0 G_0 hn g g'
  clear hHeld
  refine hK.out _ _ KK1 (fun hHeld => ?_)
  clear hK Kk
  try simp only [Act.put, List.setIfInBounds_toArray, List.set_cons_zero, List.set_cons_succ]
  refine h_call 9 rfl (by kernel_rfl) (by rfl) (fun Kk hK => ?_)
  go_simp
  refine (kM.out X2 Z1 q _ _ _ L_X2.out L_Z1.out E_q.out X2_1.out Z1_1.out).mono ?_
  rintro e w2 ⟨v, rfl, hn, g'⟩
  obtain ⟨Qa, Qc, Qd, rfl⟩ := hn.shape
  have g : Below w1.heap.size w1 w2 := g'
  have Q_2 : Hid (Num w2 (.slice Qa Qc Qd) (q)) := hn
  have X1_2 := hold (X1_1.out.below g)
  have Y1_2 := hold (Y1_1.out.below g)
  have Z1_2 := hold (Z1_1.out.below g)
  have X2_2 := hold (X2_1.out.below g)
  have Y2_2 := hold (Y2_1.out.below g)
  have Z2_2 := hold (Z2_1.out.below g)
  have A_2 := hold (A_1.out.below g)
  have B_2 := hold (B_1.out.below g)
  have P_2 := hold (P_1.out.below g)
  have G_2 := hold (G_1.out.trans (g.mono G_1.out.size))
  have KK2 : w2.cell? ⟨w.heap.size, 0, none⟩ = some (.slice ax1 nx1 cx1) ∧ w2.cell? ⟨w.heap.size, 1, none⟩ = some (.slice ay1 ny1 cy1) ∧ w2.cell? ⟨w.heap.size, 2, none⟩ = some (.slice az1 nz1 cz1) ∧ w2.cell? ⟨w.heap.size + 1, 0, none⟩ = some (.slice ax2 nx2 cx2) ∧ w2.cell? ⟨w.heap.size + 1, 1, none⟩ = some (.slice ay2 ny2 cy2) ∧ w2.cell? ⟨w.heap.size + 1, 2, none⟩ = some (.slice az2 nz2 cz2) := ⟨A_2.out.cell 0, A_2.out.cell 1, A_2.out.cell 2, B_2.out.cell 0, B_2.out.cell 1, B_2.out.cell 2⟩
  clear X1_1 Y1_1 Z1_1 X2_1 Y2_1 Z2_1 A_1 B_1 P_1 G_1 hn g g'
  clear hHeld
  refine hK.out _ _ KK2 (fun hHeld => ?_)
  clear hK Kk
  try simp only [Act.put, List.setIfInBounds_toArray, List.set_cons_zero, List.set_cons_succ]
  refine h_call 10 rfl (by kernel_rfl) (by rfl) (fun Kk hK => ?_)
  go_simp
  refine (cmp_num p q _ _ _ P_2.out Q_2.out 11 (lt11 L_p.out) (lt11 L_q.out) (by omega)).mono ?_
  rintro e w3 ⟨rfl, g'⟩
  have g : Below w2.heap.size w2 w3 := g'
  have X1_3 := hold (X1_2.out.below g)
  have Y1_3 := hold (Y1_2.out.below g)
  have Z1_3 := hold (Z1_2.out.below g)
  have X2_3 := hold (X2_2.out.below g)
  have Y2_3 := hold (Y2_2.out.below g)
  have Z2_3 := hold (Z2_2.out.below g)
  have A_3 := hold (A_2.out.below g)
  have B_3 := hold (B_2.out.below g)
  have G_3 := hold (G_2.out.trans (g.mono G_2.out.size))
  have KK3 : w3.cell? ⟨w.heap.size, 0, none⟩ = some (.slice ax1 nx1 cx1) ∧ w3.cell? ⟨w.heap.size, 1, none⟩ = some (.slice ay1 ny1 cy1) ∧ w3.cell? ⟨w.heap.size, 2, none⟩ = some (.slice az1 nz1 cz1) ∧ w3.cell? ⟨w.heap.size + 1, 0, none⟩ = some (.slice ax2 nx2 cx2) ∧ w3.cell? ⟨w.heap.size + 1, 1, none⟩ = some (.slice ay2 ny2 cy2) ∧ w3.cell? ⟨w.heap.size + 1, 2, none⟩ = some (.slice az2 nz2 cz2) := ⟨A_3.out.cell 0, A_3.out.cell 1, A_3.out.cell 2, B_3.out.cell 0, B_3.out.cell 1, B_3.out.cell 2⟩
  clear X1_2 Y1_2 Z1_2 X2_2 Y2_2 Z2_2 A_2 B_2 P_2 Q_2 G_2  g g'
  clear hHeld
  refine hK.out _ _ KK3 (fun hHeld => ?_)
  clear hK Kk
  try simp only [Act.put, List.setIfInBounds_toArray, List.set_cons_zero, List.set_cons_succ]
  refine h_take 11 (v := ?v11) rfl (by kernel_rfl) (by kernel_rfl) (by kernel_rfl) (fun _ _ _ h => h) (by rfl) ?hy11 (by assumption) ?_
  case hy11 =>
    intro w' hSw
    try dsimp only at hSw
    go_simp
    try with_reducible rfl
  try simp only [Act.put, List.setIfInBounds_toArray, List.set_cons_zero, List.set_cons_succ]
  refine h_take 12 (v := ?v12) rfl (by kernel_rfl) (by kernel_rfl) (by kernel_rfl) (fun _ _ _ h => h) (by rfl) ?hy12 (by assumption) ?_
  case hy12 =>
    intro w' hSw
    try dsimp only at hSw
    go_simp
    try with_reducible rfl
  try simp only [Act.put, List.setIfInBounds_toArray, List.set_cons_zero, List.set_cons_succ]
  refine h_take 13 (v := ?v13) rfl (by kernel_rfl) (by kernel_rfl) (by kernel_rfl) (fun _ _ _ h => h) (by rfl) ?hy13 (by assumption) ?_
  case hy13 =>
    intro w' hSw
    try dsimp only at hSw
    go_simp
    try with_reducible rfl
  try simp only [Act.put, List.setIfInBounds_toArray, List.set_cons_zero, List.set_cons_succ]
  refine h_take 14 (v := ?v14) rfl (by kernel_rfl) (by kernel_rfl) (by kernel_rfl) (fun _ _ _ h => h) (by rfl) ?hy14 (by assumption) ?_
  case hy14 =>
    intro w' hSw
    try dsimp only at hSw
    go_simp
    try with_reducible rfl
  try simp only [Act.put, List.setIfInBounds_toArray, List.set_cons_zero, List.set_cons_succ]
  refine h_take 15 (v := ?v15) rfl (by kernel_rfl) (by kernel_rfl) (by kernel_rfl) (fun _ _ _ h => h) (by rfl) ?hy15 (by assumption) ?_
  case hy15 =>
    intro w' hSw
    try dsimp only at hSw
    go_simp
    try with_reducible rfl
  try simp only [Act.put, List.setIfInBounds_toArray, List.set_cons_zero, List.set_cons_succ]
  refine h_take 16 (v := ?v16) rfl (by kernel_rfl) (by kernel_rfl) (by kernel_rfl) (fun _ _ _ h => h) (by rfl) ?hy16 (by assumption) ?_
  case hy16 =>
    intro w' hSw
    try dsimp only at hSw
    go_simp
    try with_reducible rfl
  try simp only [Act.put, List.setIfInBounds_toArray, List.set_cons_zero, List.set_cons_succ]
  refine h_take 18 (v := ?v18) rfl (by kernel_rfl) (by kernel_rfl) (by kernel_rfl) (fun _ _ _ h => h) (by rfl) ?hy18 (by assumption) ?_
  case hy18 =>
    intro w' hSw
    try dsimp only at hSw
    go_simp
    try with_reducible rfl
  try simp only [Act.put, List.setIfInBounds_toArray, List.set_cons_zero, List.set_cons_succ]
  refine h_take 19 (v := ?v19) rfl (by kernel_rfl) (by kernel_rfl) (by kernel_rfl) (fun _ _ _ h => h) (by rfl) ?hy19 (by assumption) ?_
  case hy19 =>
    intro w' hSw
    try dsimp only at hSw
    go_simp
    try with_reducible rfl
  try simp only [Act.put, List.setIfInBounds_toArray, List.set_cons_zero, List.set_cons_succ]
  refine h_take 20 (v := ?v20) rfl (by kernel_rfl) (by kernel_rfl) (by kernel_rfl) (fun _ _ _ h => h) (by rfl) ?hy20 (by assumption) ?_
  case hy20 =>
    intro w' hSw
    try dsimp only at hSw
    go_simp
    try with_reducible rfl
  try simp only [Act.put, List.setIfInBounds_toArray, List.set_cons_zero, List.set_cons_succ]
  refine h_take 21 (v := ?v21) rfl (by kernel_rfl) (by kernel_rfl) (by kernel_rfl) (fun _ _ _ h => h) (by rfl) ?hy21 (by assumption) ?_
  case hy21 =>
    intro w' hSw
    try dsimp only at hSw
    go_simp
    try with_reducible rfl
  try simp only [Act.put, List.setIfInBounds_toArray, List.set_cons_zero, List.set_cons_succ]
  refine h_call 17 rfl (by kernel_rfl) (by rfl) (fun Kk hK => ?_)
  go_simp
  refine (kM.out Y1 Z2 r _ _ _ L_Y1.out L_Z2.out E_r.out Y1_3.out Z2_3.out).mono ?_
  rintro e w4 ⟨v, rfl, hn, g'⟩
  obtain ⟨Ra, Rc, Rd, rfl⟩ := hn.shape
  have g : Below w3.heap.size w3 w4 := g'
  have R_4 : Hid (Num w4 (.slice Ra Rc Rd) (r)) := hn
  have X1_4 := hold (X1_3.out.below g)
  have Y1_4 := hold (Y1_3.out.below g)
  have Z1_4 := hold (Z1_3.out.below g)
  have X2_4 := hold (X2_3.out.below g)
  have Y2_4 := hold (Y2_3.out.below g)
  have Z2_4 := hold (Z2_3.out.below g)
  have A_4 := hold (A_3.out.below g)
  have B_4 := hold (B_3.out.below g)
  have G_4 := hold (G_3.out.trans (g.mono G_3.out.size))
  have KK4 : w4.cell? ⟨w.heap.size, 0, none⟩ = some (.slice ax1 nx1 cx1) ∧ w4.cell? ⟨w.heap.size, 1, none⟩ = some (.slice ay1 ny1 cy1) ∧ w4.cell? ⟨w.heap.size, 2, none⟩ = some (.slice az1 nz1 cz1) ∧ w4.cell? ⟨w.heap.size + 1, 0, none⟩ = some (.slice ax2 nx2 cx2) ∧ w4.cell? ⟨w.heap.size + 1, 1, none⟩ = some (.slice ay2 ny2 cy2) ∧ w4.cell? ⟨w.heap.size + 1, 2, none⟩ = some (.slice az2 nz2 cz2) := ⟨A_4.out.cell 0, A_4.out.cell 1, A_4.out.cell 2, B_4.out.cell 0, B_4.out.cell 1, B_4.out.cell 2⟩
  clear X1_3 Y1_3 Z1_3 X2_3 Y2_3 Z2_3 A_3 B_3 G_3 hn g g'
  clear hHeld
  refine hK.out _ _ KK4 (fun hHeld => ?_)
  clear hK Kk
  try simp only [Act.put, List.setIfInBounds_toArray, List.set_cons_zero, List.set_cons_succ]
  refine h_call 22 rfl (by kernel_rfl) (by rfl) (fun Kk hK => ?_)
  go_simp
  refine (kM.out Y2 Z1 s _ _ _ L_Y2.out L_Z1.out E_s.out Y2_4.out Z1_4.out).mono ?_
  rintro e w5 ⟨v, rfl, hn, g'⟩
  obtain ⟨Sa, Sc, Sd, rfl⟩ := hn.shape
  have g : Below w4.heap.size w4 w5 := g'
  have S_5 : Hid (Num w5 (.slice Sa Sc Sd) (s)) := hn
  have X1_5 := hold (X1_4.out.below g)
  have Y1_5 := hold (Y1_4.out.below g)
  have Z1_5 := hold (Z1_4.out.below g)
  have X2_5 := hold (X2_4.out.below g)
  have Y2_5 := hold (Y2_4.out.below g)
  have Z2_5 := hold (Z2_4.out.below g)
  have A_5 := hold (A_4.out.below g)
  have B_5 := hold (B_4.out.below g)
  have R_5 := hold (R_4.out.below g)
  have G_5 := hold (G_4.out.trans (g.mono G_4.out.size))
  have KK5 : w5.cell? ⟨w.heap.size, 0, none⟩ = some (.slice ax1 nx1 cx1) ∧ w5.cell? ⟨w.heap.size, 1, none⟩ = some (.slice ay1 ny1 cy1) ∧ w5.cell? ⟨w.heap.size, 2, none⟩ = some (.slice az1 nz1 cz1) ∧ w5.cell? ⟨w.heap.size + 1, 0, none⟩ = some (.slice ax2 nx2 cx2) ∧ w5.cell? ⟨w.heap.size + 1, 1, none⟩ = some (.slice ay2 ny2 cy2) ∧ w5.cell? ⟨w.heap.size + 1, 2, none⟩ = some (.slice az2 nz2 cz2) := ⟨A_5.out.cell 0, A_5.out.cell 1, A_5.out.cell 2, B_5.out.cell 0, B_5.out.cell 1, B_5.out.cell 2⟩
  clear X1_4 Y1_4 Z1_4 X2_4 Y2_4 Z2_4 A_4 B_4 R_4 G_4 hn g g'
  clear hHeld
  refine hK.out _ _ KK5 (fun hHeld => ?_)
  clear hK Kk
  try simp only [Act.put, List.setIfInBounds_toArray, List.set_cons_zero, List.set_cons_succ]
  refine h_call 23 rfl (by kernel_rfl) (by rfl) (fun Kk hK => ?_)
  go_simp
  refine (cmp_num r s _ _ _ R_5.out S_5.out 11 (lt11 L_r.out) (lt11 L_s.out) (by omega)).mono ?_
  rintro e w6 ⟨rfl, g'⟩
  have g : Below w5.heap.size w5 w6 := g'
  have X1_6 := hold (X1_5.out.below g)
  have Y1_6 := hold (Y1_5.out.below g)
  have Z1_6 := hold (Z1_5.out.below g)
  have X2_6 := hold (X2_5.out.below g)
  have Y2_6 := hold (Y2_5.out.below g)
  have Z2_6 := hold (Z2_5.out.below g)
  have A_6 := hold (A_5.out.below g)
  have B_6 := hold (B_5.out.below g)
  have G_6 := hold (G_5.out.trans (g.mono G_5.out.size))
  have KK6 : w6.cell? ⟨w.heap.size, 0, none⟩ = some (.slice ax1 nx1 cx1) ∧ w6.cell? ⟨w.heap.size, 1, none⟩ = some (.slice ay1 ny1 cy1) ∧ w6.cell? ⟨w.heap.size, 2, none⟩ = some (.slice az1 nz1 cz1) ∧ w6.cell? ⟨w.heap.size + 1, 0, none⟩ = some (.slice ax2 nx2 cx2) ∧ w6.cell? ⟨w.heap.size + 1, 1, none⟩ = some (.slice ay2 ny2 cy2) ∧ w6.cell? ⟨w.heap.size + 1, 2, none⟩ = some (.slice az2 nz2 cz2) := ⟨A_6.out.cell 0, A_6.out.cell 1, A_6.out.cell 2, B_6.out.cell 0, B_6.out.cell 1, B_6.out.cell 2⟩
  clear X1_5 Y1_5 Z1_5 X2_5 Y2_5 Z2_5 A_5 B_5 R_5 S_5 G_5  g g'
  clear hHeld
  refine hK.out _ _ KK6 (fun hHeld => ?_)
  clear hK Kk
  try simp only [Act.put, List.setIfInBounds_toArray, List.set_cons_zero, List.set_cons_succ]
  refine h_take 24 (v := ?v24) rfl (by kernel_rfl) (by kernel_rfl) (by kernel_rfl) (fun _ _ _ h => h) (by rfl) ?hy24 (by assumption) ?_
  case hy24 =>
    intro w' hSw
    try dsimp only at hSw
    go_simp
    try with_reducible rfl
  try simp only [Act.put, List.setIfInBounds_toArray, List.set_cons_zero, List.set_cons_succ]
  refine h_take 25 (v := ?v25) rfl (by kernel_rfl) (by kernel_rfl) (by kernel_rfl) (fun _ _ _ h => h) (by rfl) ?hy25 (by assumption) ?_
  case hy25 =>
    intro w' hSw
    try dsimp only at hSw
    go_simp
    try with_reducible rfl
  try simp only [Act.put, List.setIfInBounds_toArray, List.set_cons_zero, List.set_cons_succ]
  refine h_take 26 (v := ?v26) rfl (by kernel_rfl) (by kernel_rfl) (by kernel_rfl) (fun _ _ _ h => h) (by rfl) ?hy26 (by assumption) ?_
  case hy26 =>
    intro w' hSw
    try dsimp only at hSw
    go_simp
    try with_reducible rfl
  try simp only [Act.put, List.setIfInBounds_toArray, List.set_cons_zero, List.set_cons_succ]
  refine wpAnyH_done (by kernel_rfl) ?_ _
  clear hHeld
  go_wp2_with fail
  go_ret
  exact ⟨rfl, G_6.out⟩

set_option maxRecDepth 100000 in
set_option maxHeartbeats 8000000 in
theorem sameD_no (X1 Y1 Z1 X2 Y2 Z2 p q r s : Nat) (vx1 vy1 vz1 vx2 vy2 vz2 : Value) (t1 t2 : Bool) (w : World)
    (hx1 : Num w vx1 X1) (hy1 : Num w vy1 Y1) (hz1 : Num w vz1 Z1) (hx2 : Num w vx2 X2) (hy2 : Num w vy2 Y2) (hz2 : Num w vz2 Z2)
    (lx1 : X1 < P25) (ly1 : Y1 < P25) (lz1 : Z1 < P25) (lx2 : X2 < P25) (ly2 : Y2 < P25) (lz2 : Z2 < P25)
    (q_p : X1 * Z2 % P25 = p) (q_q : X2 * Z1 % P25 = q) (q_r : Y1 * Z2 % P25 = r) (q_s : Y2 * Z1 % P25 = s) (hpq : ¬ p = q) :
    Calls Tryd.prog 23 #[.agg #[vx1, vy1, vz1, .bool t1], .agg #[vx2, vy2, vz2, .bool t2]] w fun e w' => e = .returned (.bool (false)) ∧ Below w.heap.size w w' := by
  have E_p : Hid (X1 * Z2 % P25 = p) := q_p
  have L_p : Hid (p < P25) := by rw [← q_p]; exact mod_P _
  have E_q : Hid (X2 * Z1 % P25 = q) := q_q
  have L_q : Hid (q < P25) := by rw [← q_q]; exact mod_P _
  have E_r : Hid (Y1 * Z2 % P25 = r) := q_r
  have L_r : Hid (r < P25) := by rw [← q_r]; exact mod_P _
  have E_s : Hid (Y2 * Z1 % P25 = s) := q_s
  have L_s : Hid (s < P25) := by rw [← q_s]; exact mod_P _
  have L_X1 : Hid (X1 < P25) := lx1
  obtain ⟨ax1, nx1, cx1, rfl⟩ := hx1.shape
  have L_Y1 : Hid (Y1 < P25) := ly1
  obtain ⟨ay1, ny1, cy1, rfl⟩ := hy1.shape
  have L_Z1 : Hid (Z1 < P25) := lz1
  obtain ⟨az1, nz1, cz1, rfl⟩ := hz1.shape
  have L_X2 : Hid (X2 < P25) := lx2
  obtain ⟨ax2, nx2, cx2, rfl⟩ := hx2.shape
  have L_Y2 : Hid (Y2 < P25) := ly2
  obtain ⟨ay2, ny2, cy2, rfl⟩ := hy2.shape
  have L_Z2 : Hid (Z2 < P25) := lz2
  obtain ⟨az2, nz2, cz2, rfl⟩ := hz2.shape
  have kM : Hid (∀ (A B C : Nat) v v' W, A < P25 → B < P25 → A * B % P25 = C → Num W v A → Num W v' B → Calls Tryd.prog 47 #[v, v'] W fun e w' => ∃ u, e = .returned u ∧ Num w' u C ∧ Below W.heap.size W w') := fun A B C v v' W h1 h2 h3 h4 h5 => by rw [← h3]; exact mulD_num A B v v' W h4 h5 (lt11 h1) (lt11 h2)
  obtain ⟨w0, hw0⟩ : ∃ V, Hid (((w.alloc (.cells #[.slice ax1 nx1 cx1, .slice ay1 ny1 cy1, .slice az1 nz1 cz1, .bool t1] 37)).alloc (.cells #[.slice ax2 nx2 cx2, .slice ay2 ny2 cy2, .slice az2 nz2 cz2, .bool t2] 37)) = V) := ⟨_, rfl⟩
  have g0 : Below w.heap.size w w0 := by rw [← hw0.out]; exact ((Below.refl _ _).alloc (Nat.le_refl _) _).alloc (by simp) _
  have G_0 : Hid (Below w.heap.size w w0) := g0
  have A_0 : Hid (At 37 w0 w.heap.size [.slice ax1 nx1 cx1, .slice ay1 ny1 cy1, .slice az1 nz1 cz1, .bool t1]) := by unfold Hid; rw [← hw0.out]; exact (at_new 37 w [.slice ax1 nx1 cx1, .slice ay1 ny1 cy1, .slice az1 nz1 cz1, .bool t1]).below ((Below.refl _ _).alloc (Nat.le_refl _) _)
  have B_0 : Hid (At 37 w0 (w.heap.size + 1) [.slice ax2 nx2 cx2, .slice ay2 ny2 cy2, .slice az2 nz2 cz2, .bool t2]) := by
    unfold Hid; rw [← hw0.out]
    have h := at_new 37 (w.alloc (.cells #[.slice ax1 nx1 cx1, .slice ay1 ny1 cy1, .slice az1 nz1 cz1, .bool t1] 37)) [.slice ax2 nx2 cx2, .slice ay2 ny2 cy2, .slice az2 nz2 cz2, .bool t2]
    rwa [World.size_alloc] at h
  have X1_0 : Hid (Num w0 (.slice ax1 nx1 cx1) X1) := hx1.below g0
  have Y1_0 : Hid (Num w0 (.slice ay1 ny1 cy1) Y1) := hy1.below g0
  have Z1_0 : Hid (Num w0 (.slice az1 nz1 cz1) Z1) := hz1.below g0
  have X2_0 : Hid (Num w0 (.slice ax2 nx2 cx2) X2) := hx2.below g0
  have Y2_0 : Hid (Num w0 (.slice ay2 ny2 cy2) Y2) := hy2.below g0
  have Z2_0 : Hid (Num w0 (.slice az2 nz2 cz2) Z2) := hz2.below g0
  have hK0 : w0.drew.cell? ⟨w.heap.size, 0, none⟩ = some (.slice ax1 nx1 cx1) ∧ w0.drew.cell? ⟨w.heap.size, 1, none⟩ = some (.slice ay1 ny1 cy1) ∧ w0.drew.cell? ⟨w.heap.size, 2, none⟩ = some (.slice az1 nz1 cz1) ∧ w0.drew.cell? ⟨w.heap.size + 1, 0, none⟩ = some (.slice ax2 nx2 cx2) ∧ w0.drew.cell? ⟨w.heap.size + 1, 1, none⟩ = some (.slice ay2 ny2 cy2) ∧ w0.drew.cell? ⟨w.heap.size + 1, 2, none⟩ = some (.slice az2 nz2 cz2) := ⟨A_0.out.cell 0, A_0.out.cell 1, A_0.out.cell 2, B_0.out.cell 0, B_0.out.cell 1, B_0.out.cell 2⟩
  have hc1 : (ord (p : Int) (q : Int) == 0) = false := by rw [beq_eq_false_iff_ne]; exact fun h => hpq ((ord_zero p q).1 h)
  clear hx1 hy1 hz1 hx2 hy2 hz2 lx1 ly1 lz1 lx2 ly2 lz2 g0 hpq q_p q_q q_r q_s
  go_enter Tryd.func23, Tryd.ntmps23
  go_upto_region 1 with fail
  rw [hw0.out]
  clear hw0
  refine wp_region_held_drew (S := fun w' => w'.cell? ⟨w.heap.size, 0, none⟩ = some (.slice ax1 nx1 cx1) ∧ w'.cell? ⟨w.heap.size, 1, none⟩ = some (.slice ay1 ny1 cy1) ∧ w'.cell? ⟨w.heap.size, 2, none⟩ = some (.slice az1 nz1 cz1) ∧ w'.cell? ⟨w.heap.size + 1, 0, none⟩ = some (.slice ax2 nx2 cx2) ∧ w'.cell? ⟨w.heap.size + 1, 1, none⟩ = some (.slice ay2 ny2 cy2) ∧ w'.cell? ⟨w.heap.size + 1, 2, none⟩ = some (.slice az2 nz2 cz2)) (by kernel_rfl) hK0 (fun hHeld => ?_)
  refine h_take 0 (v := ?v0) rfl (by kernel_rfl) (by kernel_rfl) (by kernel_rfl) (fun _ _ _ h => h) (by rfl) ?hy0 (by assumption) ?_
  case hy0 =>
    intro w' hSw
    try dsimp only at hSw
    go_simp
    try with_reducible rfl
  try simp only [Act.put, List.setIfInBounds_toArray, List.set_cons_zero, List.set_cons_succ]
  refine h_take 1 (v := ?v1) rfl (by kernel_rfl) (by kernel_rfl) (by kernel_rfl) (fun _ _ _ h => h) (by rfl) ?hy1 (by assumption) ?_
  case hy1 =>
    intro w' hSw
    try dsimp only at hSw
    go_simp
    try with_reducible rfl
  try simp only [Act.put, List.setIfInBounds_toArray, List.set_cons_zero, List.set_cons_succ]
  refine h_take 2 (v := ?v2) rfl (by kernel_rfl) (by kernel_rfl) (by kernel_rfl) (fun _ _ _ h => h) (by rfl) ?hy2 (by assumption) ?_
  case hy2 =>
    intro w' hSw
    try dsimp only at hSw
    go_simp
    try with_reducible rfl
  try simp only [Act.put, List.setIfInBounds_toArray, List.set_cons_zero, List.set_cons_succ]
  refine h_take 3 (v := ?v3) rfl (by kernel_rfl) (by kernel_rfl) (by kernel_rfl) (fun _ _ _ h => h) (by rfl) ?hy3 (by assumption) ?_
  case hy3 =>
    intro w' hSw
    try dsimp only at hSw
    go_simp
    try with_reducible rfl
  try simp only [Act.put, List.setIfInBounds_toArray, List.set_cons_zero, List.set_cons_succ]
  refine h_take 5 (v := ?v5) rfl (by kernel_rfl) (by kernel_rfl) (by kernel_rfl) (fun _ _ _ h => h) (by rfl) ?hy5 (by assumption) ?_
  case hy5 =>
    intro w' hSw
    try dsimp only at hSw
    go_simp
    try with_reducible rfl
  try simp only [Act.put, List.setIfInBounds_toArray, List.set_cons_zero, List.set_cons_succ]
  refine h_take 6 (v := ?v6) rfl (by kernel_rfl) (by kernel_rfl) (by kernel_rfl) (fun _ _ _ h => h) (by rfl) ?hy6 (by assumption) ?_
  case hy6 =>
    intro w' hSw
    try dsimp only at hSw
    go_simp
    try with_reducible rfl
  try simp only [Act.put, List.setIfInBounds_toArray, List.set_cons_zero, List.set_cons_succ]
  refine h_take 7 (v := ?v7) rfl (by kernel_rfl) (by kernel_rfl) (by kernel_rfl) (fun _ _ _ h => h) (by rfl) ?hy7 (by assumption) ?_
  case hy7 =>
    intro w' hSw
    try dsimp only at hSw
    go_simp
    try with_reducible rfl
  try simp only [Act.put, List.setIfInBounds_toArray, List.set_cons_zero, List.set_cons_succ]
  refine h_take 8 (v := ?v8) rfl (by kernel_rfl) (by kernel_rfl) (by kernel_rfl) (fun _ _ _ h => h) (by rfl) ?hy8 (by assumption) ?_
  case hy8 =>
    intro w' hSw
    try dsimp only at hSw
    go_simp
    try with_reducible rfl
  try simp only [Act.put, List.setIfInBounds_toArray, List.set_cons_zero, List.set_cons_succ]
  refine h_call 4 rfl (by kernel_rfl) (by rfl) (fun Kk hK => ?_)
  go_simp
  refine (kM.out X1 Z2 p _ _ w0.drew L_X1.out L_Z2.out E_p.out X1_0.out Z2_0.out).mono ?_
  rintro e w1 ⟨v, rfl, hn, g'⟩
  obtain ⟨Pa, Pc, Pd, rfl⟩ := hn.shape
  have g : Below w0.heap.size w0 w1 := (Below.refl _ w0).drew.trans g'
  have P_1 : Hid (Num w1 (.slice Pa Pc Pd) (p)) := hn
  have X1_1 := hold (X1_0.out.below g)
  have Y1_1 := hold (Y1_0.out.below g)
  have Z1_1 := hold (Z1_0.out.below g)
  have X2_1 := hold (X2_0.out.below g)
  have Y2_1 := hold (Y2_0.out.below g)
  have Z2_1 := hold (Z2_0.out.below g)
  have A_1 := hold (A_0.out.below g)
  have B_1 := hold (B_0.out.below g)
  have G_1 := hold (G_0.out.trans (g.mono G_0.out.size))
  have KK1 : w1.cell? ⟨w.heap.size, 0, none⟩ = some (.slice ax1 nx1 cx1) ∧ w1.cell? ⟨w.heap.size, 1, none⟩ = some (.slice ay1 ny1 cy1) ∧ w1.cell? ⟨w.heap.size, 2, none⟩ = some (.slice az1 nz1 cz1) ∧ w1.cell? ⟨w.heap.size + 1, 0, none⟩ = some (.slice ax2 nx2 cx2) ∧ w1.cell? ⟨w.heap.size + 1, 1, none⟩ = some (.slice ay2 ny2 cy2) ∧ w1.cell? ⟨w.heap.size + 1, 2, none⟩ = some (.slice az2 nz2 cz2) := ⟨A_1.out.cell 0, A_1.out.cell 1, A_1.out.cell 2, B_1.out.cell 0, B_1.out.cell 1, B_1.out.cell 2⟩
  clear X1_0 Y1_0 Z1_0 X2_0 Y2_0 Z2_0 A_0 B_0 G_0 hn g g'
  clear hHeld
  refine hK.out _ _ KK1 (fun hHeld => ?_)
  clear hK Kk
  try simp only [Act.put, List.setIfInBounds_toArray, List.set_cons_zero, List.set_cons_succ]
  refine h_call 9 rfl (by kernel_rfl) (by rfl) (fun Kk hK => ?_)
  go_simp
  refine (kM.out X2 Z1 q _ _ _ L_X2.out L_Z1.out E_q.out X2_1.out Z1_1.out).mono ?_
  rintro e w2 ⟨v, rfl, hn, g'⟩
  obtain ⟨Qa, Qc, Qd, rfl⟩ := hn.shape
  have g : Below w1.heap.size w1 w2 := g'
  have Q_2 : Hid (Num w2 (.slice Qa Qc Qd) (q)) := hn
  have X1_2 := hold (X1_1.out.below g)
  have Y1_2 := hold (Y1_1.out.below g)
  have Z1_2 := hold (Z1_1.out.below g)
  have X2_2 := hold (X2_1.out.below g)
  have Y2_2 := hold (Y2_1.out.below g)
  have Z2_2 := hold (Z2_1.out.below g)
  have A_2 := hold (A_1.out.below g)
  have B_2 := hold (B_1.out.below g)
  have P_2 := hold (P_1.out.below g)
  have G_2 := hold (G_1.out.trans (g.mono G_1.out.size))
  have KK2 : w2.cell? ⟨w.heap.size, 0, none⟩ = some (.slice ax1 nx1 cx1) ∧ w2.cell? ⟨w.heap.size, 1, none⟩ = some (.slice ay1 ny1 cy1) ∧ w2.cell? ⟨w.heap.size, 2, none⟩ = some (.slice az1 nz1 cz1) ∧ w2.cell? ⟨w.heap.size + 1, 0, none⟩ = some (.slice ax2 nx2 cx2) ∧ w2.cell? ⟨w.heap.size + 1, 1, none⟩ = some (.slice ay2 ny2 cy2) ∧ w2.cell? ⟨w.heap.size + 1, 2, none⟩ = some (.slice az2 nz2 cz2) := ⟨A_2.out.cell 0, A_2.out.cell 1, A_2.out.cell 2, B_2.out.cell 0, B_2.out.cell 1, B_2.out.cell 2⟩
  clear X1_1 Y1_1 Z1_1 X2_1 Y2_1 Z2_1 A_1 B_1 P_1 G_1 hn g g'
  clear hHeld
  refine hK.out _ _ KK2 (fun hHeld => ?_)
  clear hK Kk
  try simp only [Act.put, List.setIfInBounds_toArray, List.set_cons_zero, List.set_cons_succ]
  refine h_call 10 rfl (by kernel_rfl) (by rfl) (fun Kk hK => ?_)
  go_simp
  refine (cmp_num p q _ _ _ P_2.out Q_2.out 11 (lt11 L_p.out) (lt11 L_q.out) (by omega)).mono ?_
  rintro e w3 ⟨rfl, g'⟩
  have g : Below w2.heap.size w2 w3 := g'
  have X1_3 := hold (X1_2.out.below g)
  have Y1_3 := hold (Y1_2.out.below g)
  have Z1_3 := hold (Z1_2.out.below g)
  have X2_3 := hold (X2_2.out.below g)
  have Y2_3 := hold (Y2_2.out.below g)
  have Z2_3 := hold (Z2_2.out.below g)
  have A_3 := hold (A_2.out.below g)
  have B_3 := hold (B_2.out.below g)
  have G_3 := hold (G_2.out.trans (g.mono G_2.out.size))
  have KK3 : w3.cell? ⟨w.heap.size, 0, none⟩ = some (.slice ax1 nx1 cx1) ∧ w3.cell? ⟨w.heap.size, 1, none⟩ = some (.slice ay1 ny1 cy1) ∧ w3.cell? ⟨w.heap.size, 2, none⟩ = some (.slice az1 nz1 cz1) ∧ w3.cell? ⟨w.heap.size + 1, 0, none⟩ = some (.slice ax2 nx2 cx2) ∧ w3.cell? ⟨w.heap.size + 1, 1, none⟩ = some (.slice ay2 ny2 cy2) ∧ w3.cell? ⟨w.heap.size + 1, 2, none⟩ = some (.slice az2 nz2 cz2) := ⟨A_3.out.cell 0, A_3.out.cell 1, A_3.out.cell 2, B_3.out.cell 0, B_3.out.cell 1, B_3.out.cell 2⟩
  clear X1_2 Y1_2 Z1_2 X2_2 Y2_2 Z2_2 A_2 B_2 P_2 Q_2 G_2  g g'
  clear hHeld
  refine hK.out _ _ KK3 (fun hHeld => ?_)
  clear hK Kk
  try simp only [Act.put, List.setIfInBounds_toArray, List.set_cons_zero, List.set_cons_succ]
  refine h_take 11 (v := ?v11) rfl (by kernel_rfl) (by kernel_rfl) (by kernel_rfl) (fun _ _ _ h => h) (by rfl) ?hy11 (by assumption) ?_
  case hy11 =>
    intro w' hSw
    try dsimp only at hSw
    go_simp
    try with_reducible rfl
  try simp only [Act.put, List.setIfInBounds_toArray, List.set_cons_zero, List.set_cons_succ]
  refine h_take 12 (v := ?v12) rfl (by kernel_rfl) (by kernel_rfl) (by kernel_rfl) (fun _ _ _ h => h) (by rfl) ?hy12 (by assumption) ?_
  case hy12 =>
    intro w' hSw
    try dsimp only at hSw
    go_simp
    try with_reducible rfl
  try simp only [Act.put, List.setIfInBounds_toArray, List.set_cons_zero, List.set_cons_succ]
  refine h_skip 13 rfl (by kernel_rfl) (by kernel_rfl) (by kernel_rfl) (fun _ _ _ h => h) (by rfl) (by assumption) ?_
  try simp only [Act.put, List.setIfInBounds_toArray, List.set_cons_zero, List.set_cons_succ]
  refine h_skip 14 rfl (by kernel_rfl) (by kernel_rfl) (by kernel_rfl) (fun _ _ _ h => h) (by rfl) (by assumption) ?_
  try simp only [Act.put, List.setIfInBounds_toArray, List.set_cons_zero, List.set_cons_succ]
  refine h_skip 15 rfl (by kernel_rfl) (by kernel_rfl) (by kernel_rfl) (fun _ _ _ h => h) (by rfl) (by assumption) ?_
  try simp only [Act.put, List.setIfInBounds_toArray, List.set_cons_zero, List.set_cons_succ]
  refine h_skip 16 rfl (by kernel_rfl) (by kernel_rfl) (by kernel_rfl) (fun _ _ _ h => h) (by rfl) (by assumption) ?_
  try simp only [Act.put, List.setIfInBounds_toArray, List.set_cons_zero, List.set_cons_succ]
  refine h_skip 17 rfl (by kernel_rfl) (by kernel_rfl) (by kernel_rfl) (fun _ _ _ h => h) (by rfl) (by assumption) ?_
  try simp only [Act.put, List.setIfInBounds_toArray, List.set_cons_zero, List.set_cons_succ]
  refine h_skip 18 rfl (by kernel_rfl) (by kernel_rfl) (by kernel_rfl) (fun _ _ _ h => h) (by rfl) (by assumption) ?_
  try simp only [Act.put, List.setIfInBounds_toArray, List.set_cons_zero, List.set_cons_succ]
  refine h_skip 19 rfl (by kernel_rfl) (by kernel_rfl) (by kernel_rfl) (fun _ _ _ h => h) (by rfl) (by assumption) ?_
  try simp only [Act.put, List.setIfInBounds_toArray, List.set_cons_zero, List.set_cons_succ]
  refine h_skip 20 rfl (by kernel_rfl) (by kernel_rfl) (by kernel_rfl) (fun _ _ _ h => h) (by rfl) (by assumption) ?_
  try simp only [Act.put, List.setIfInBounds_toArray, List.set_cons_zero, List.set_cons_succ]
  refine h_skip 21 rfl (by kernel_rfl) (by kernel_rfl) (by kernel_rfl) (fun _ _ _ h => h) (by rfl) (by assumption) ?_
  try simp only [Act.put, List.setIfInBounds_toArray, List.set_cons_zero, List.set_cons_succ]
  refine h_skip 22 rfl (by kernel_rfl) (by kernel_rfl) (by kernel_rfl) (fun _ _ _ h => h) (by rfl) (by assumption) ?_
  try simp only [Act.put, List.setIfInBounds_toArray, List.set_cons_zero, List.set_cons_succ]
  refine h_skip 23 rfl (by kernel_rfl) (by kernel_rfl) (by kernel_rfl) (fun _ _ _ h => h) (by rfl) (by assumption) ?_
  try simp only [Act.put, List.setIfInBounds_toArray, List.set_cons_zero, List.set_cons_succ]
  refine h_skip 24 rfl (by kernel_rfl) (by kernel_rfl) (by kernel_rfl) (fun _ _ _ h => h) (by rfl) (by assumption) ?_
  try simp only [Act.put, List.setIfInBounds_toArray, List.set_cons_zero, List.set_cons_succ]
  refine h_take 25 (v := ?v25) rfl (by kernel_rfl) (by kernel_rfl) (by kernel_rfl) (fun _ _ _ h => h) (by rfl) ?hy25 (by assumption) ?_
  case hy25 =>
    intro w' hSw
    try dsimp only at hSw
    go_simp
    try with_reducible rfl
  try simp only [Act.put, List.setIfInBounds_toArray, List.set_cons_zero, List.set_cons_succ]
  refine h_take 26 (v := ?v26) rfl (by kernel_rfl) (by kernel_rfl) (by kernel_rfl) (fun _ _ _ h => h) (by rfl) ?hy26 (by assumption) ?_
  case hy26 =>
    intro w' hSw
    try dsimp only at hSw
    go_simp
    try with_reducible rfl
  try simp only [Act.put, List.setIfInBounds_toArray, List.set_cons_zero, List.set_cons_succ]
  refine wpAnyH_done (by kernel_rfl) ?_ _
  clear hHeld
  go_wp2_with fail
  go_ret
  exact ⟨rfl, G_3.out⟩

end Go.Proofs.YtedhfimjcpbcpaaDoor.Ed

/-
  The contracts of the document's own Same and Bytes of layer 10, of points of the curve. Conditions: as each theorem says.
-/
namespace Go.Proofs.YtedhfimjcpbcpaaDoor.Ed
open Go.RowKit
set_option linter.unusedVariables false
set_option linter.unusedSimpArgs false

theorem cross_same (X1 Z1 X2 Z2 : Nat) (x y : K) (h1 : k X1 = x * k Z1) (h2 : k X2 = y * k Z2) (z1 : ¬ k Z1 = 0) (z2 : ¬ k Z2 = 0) : X1 * Z2 % P25 = X2 * Z1 % P25 ↔ x = y := by
  rw [← k_eq, k_mul, k_mul, h1, h2]
  constructor
  · intro h
    have hz := mul_ne _ _ z1 z2
    have e := factor_zero x y (k Z1) (k Z2) h
    rcases no_div _ _ e with e1 | e1
    · exact minus_zero _ _ e1
    · exact absurd e1 hz
  · intro h
    rw [h]
    exact swap_zs _ _ _
theorem same_pt (P Q : Pt) (v v' : Value) (w : World) (h : Pm w v P) (h' : Pm w v' Q) :
    Calls Tryd.prog 23 #[v, v'] w fun e w' => ∃ b : Bool, e = .returned (.bool b) ∧ (b = true ↔ P = Q) ∧ Below w.heap.size w w' := by
  obtain ⟨vx1, vy1, vz1, X1, Y1, Z1, rfl, hx1, hy1, hz1, l1, l2, l3, z1, e1, e2⟩ := h
  obtain ⟨vx2, vy2, vz2, X2, Y2, Z2, rfl, hx2, hy2, hz2, l4, l5, l6, z2, e3, e4⟩ := h'
  have cx := cross_same X1 Z1 X2 Z2 P.x Q.x e1 e3 z1 z2
  have cy := cross_same Y1 Z1 Y2 Z2 P.y Q.y e2 e4 z1 z2
  by_cases hpq : X1 * Z2 % P25 = X2 * Z1 % P25
  · refine (sameD_yes X1 Y1 Z1 X2 Y2 Z2 _ _ _ _ vx1 vy1 vz1 vx2 vy2 vz2 true true w hx1 hy1 hz1 hx2 hy2 hz2 l1 l2 l3 l4 l5 l6 rfl rfl rfl rfl hpq).mono ?_
    rintro e w' ⟨rfl, g⟩
    refine ⟨_, rfl, ?_, g⟩
    rw [decide_eq_true_eq, cy]
    exact ⟨fun hy => Pt.ext (cx.1 hpq) hy, fun hp => by rw [hp]⟩
  · refine (sameD_no X1 Y1 Z1 X2 Y2 Z2 _ _ _ _ vx1 vy1 vz1 vx2 vy2 vz2 true true w hx1 hy1 hz1 hx2 hy2 hz2 l1 l2 l3 l4 l5 l6 rfl rfl rfl rfl hpq).mono ?_
    rintro e w' ⟨rfl, g⟩
    refine ⟨_, rfl, ?_, g⟩
    constructor
    · intro h; cases h
    · intro hp
      exact absurd (cx.2 (by rw [hp])) hpq

/-- What is by what a number is 1 by is what it stands for. -/
theorem by_inv (X Z : Nat) (x : K) (h : k X = x * k Z) (z : ¬ k Z = 0) : X * (Z ^ (P25 - 2) % P25) % P25 = x.val := by
  obtain ⟨e, he⟩ : ∃ e, P25 - 2 = e := ⟨_, rfl⟩
  have he1 : e + 1 = P25 - 1 := by rw [← he]; decide +kernel
  rw [he]
  have h1 : Z * Z ^ e % P25 = 1 := by
    rw [Nat.mul_comm, ← Nat.pow_succ]
    show Z ^ (e + 1) % P25 = 1
    rw [he1]
    exact fermat P25_prime (fun q => z ((k_nought Z).2 q))
  have h2 : k (X * (Z ^ e % P25)) = x := by
    rw [k_mul, k_mod, h, assoc_k, ← k_mul, ← k_mod, h1, k_one]
    exact times_one _
  rw [← k_val, h2]
theorem little32 (n : Nat) (va : Value) (w : World) (ha : Num w va n) (m : Nat) (hM : n < 16777216 ^ m) (hm : m ≤ 10000) :
    Calls Tryd.prog 59 #[va, .int .i64 32] w fun e w' => ∃ v, e = .returned v ∧ SK .u8 w' v (leB n 32) ∧ Below w.heap.size w w' := by
  obtain ⟨l, h1, h2, h3, rfl⟩ := ha
  have hl := nz_len l m h2 h3 hM
  exact toLittleN_any l va 32 w h1 h2 (by omega) (by omega)

set_option maxRecDepth 100000 in
set_option maxHeartbeats 4000000 in
theorem bytes_pt (P : Pt) (v : Value) (w : World) (h : Pm w v P) :
    Calls Tryd.prog 12 #[v] w fun e w' => ∃ u, e = .returned u ∧ SK .u8 w' u (bytesOf P) ∧ Below w.heap.size w w' := by
  obtain ⟨vx, vy, vz, X, Y, Z, rfl, hx, hy, hz, l1, l2, l3, z1, e1, e2⟩ := h
  have i1 := by_inv X Z P.x e1 z1
  have i2 := by_inv Y Z P.y e2 z1
  have kP : Hid (∀ W, Below w.heap.size w W → Calls Tryd.prog 56 #[.agg #[vx, vy, vz, .bool true]] W fun e w' => ∃ v1 v2, e = .returned (.tuple #[v1, v2]) ∧ Num w' v1 P.x.val ∧ Num w' v2 P.y.val ∧ Below W.heap.size W w') := by
    intro W hW
    have h := pairD_num X Y Z vx vy vz true W (hx.below hW) (hy.below hW) (hz.below hW) l1 l2 l3
    rwa [i1, i2] at h
  have hb : Hid (bytesOf P = leB (P.y.val + (if P.x.val % 2 = 1 then 2 ^ 255 else 0)) 32) := rfl
  rw [hb.out]
  have lx : Hid (P.x.val < P25) := P.x.isLt
  have ly : Hid (P.y.val < P25) := P.y.isLt
  generalize P.x.val = x at *
  generalize P.y.val = y at *
  obtain ⟨nn, hnn⟩ : ∃ n : Nat, Hid (y + (if x % 2 = 1 then 2 ^ 255 else 0) = n) := ⟨y + (if x % 2 = 1 then 2 ^ 255 else 0), rfl⟩
  rw [hnn.out]
  obtain ⟨xa, xn, xc, rfl⟩ := hx.shape
  obtain ⟨ya, yn, yc, rfl⟩ := hy.shape
  obtain ⟨za, zn, zc, rfl⟩ := hz.shape
  have A0 : Hid (At 37 (w.alloc (.cells #[.slice xa xn xc, .slice ya yn yc, .slice za zn zc, .bool true] 37)) w.heap.size [.slice xa xn xc, .slice ya yn yc, .slice za zn zc, .bool true]) := at_new _ _ _
  have G0 : Hid (Below w.heap.size w (w.alloc (.cells #[.slice xa xn xc, .slice ya yn yc, .slice za zn zc, .bool true] 37))) := (Below.refl _ _).alloc (Nat.le_refl _) _
  have hrg : Hid ((w.alloc (.cells #[.slice xa xn xc, .slice ya yn yc, .slice za zn zc, .bool true] 37)).rangeAt w.heap.size 0 [.slice xa xn xc, .slice ya yn yc, .slice za zn zc, .bool true]) := A0.out.range
  have hi : Hid ((Tryd.prog.info? 37).map (·.size) = some [Value.slice xa xn xc, .slice ya yn yc, .slice za zn zc, .bool true].length) := by unfold Hid; kernel_rfl
  have r0 := A0.out.cell 0
  have r1 := A0.out.cell 1
  have r2 := A0.out.cell 2
  have r3 := A0.out.cell 3
  simp only [List.getElem?_cons_zero, List.getElem?_cons_succ] at r0 r1 r2 r3
  clear hx hy hz l1 l2 l3 z1 e1 e2 i1 i2 hb
  go_enter Tryd.func12, Tryd.ntmps12
  go_wp2_with (refine wpList_load_mid rfl 37 _ rfl w.heap.size 0 rfl [.slice xa xn xc, .slice ya yn yc, .slice za zn zc, .bool true] _ hrg.out Tryd.underlying37 rfl hi.out ?_)
  refine (kP.out _ G0.out).mono ?_
  rintro e w1 ⟨v1, v2, rfl, hn1, hn2, g1⟩
  have X1 : Hid (Num w1 v1 x) := hn1
  have Y1 : Hid (Num w1 v2 y) := hn2
  have G1 := hold (G0.out.trans (g1.mono G0.out.size))
  obtain ⟨xa1, xn1, xc1, rfl⟩ := hn1.shape
  obtain ⟨ya1, yn1, yc1, rfl⟩ := hn2.shape
  have kO : Hid (Calls Tryd.prog 57 #[.slice xa1 xn1 xc1] w1 fun e w' => e = .returned (.bool (decide (x % 2 = 1))) ∧ Below w1.heap.size w1 w') := oddD_num x _ w1 hn1 (Nat.lt_trans lx.out P25_lt22)
  clear hn1 hn2 g1 r0 r1 r2 r3 A0 G0 hrg
  go_wp2_with fail
  refine kO.out.mono ?_
  rintro e w2 ⟨rfl, g2⟩
  have Y2 := hold (Y1.out.below g2)
  have G2 := hold (G1.out.trans (g2.mono G1.out.size))
  clear g2 X1 Y1 G1 kO
  by_cases hodd : x % 2 = 1
  · have kW : Hid (Calls Tryd.prog 44 #[.int .i64 255] w2 fun e w' => ∃ v, e = .returned v ∧ Num w' v (2 ^ 255) ∧ Below w2.heap.size w2 w') := power_any 255 w2 (by omega)
    rw [decide_eq_true hodd]
    have hn2 : Hid (y + 2 ^ 255 = nn) := by have e := hnn.out; rw [if_pos hodd] at e; exact e
    go_wp2_with fail
    refine kW.out.mono ?_
    rintro e w3 ⟨v3, rfl, hn3, g3⟩
    have Y3 := hold (Y2.out.below g3)
    have G3 := hold (G2.out.trans (g3.mono G2.out.size))
    have P3 : Hid (Num w3 v3 (2 ^ 255)) := hn3
    obtain ⟨pa3, pn3, pc3, rfl⟩ := hn3.shape
    have kA : Hid (Calls Tryd.prog 58 #[.slice ya1 yn1 yc1, .slice pa3 pn3 pc3] w3 fun e w' => ∃ v, e = .returned v ∧ Num w' v (y + 2 ^ 255) ∧ Below w3.heap.size w3 w') := add_num y (2 ^ 255) _ _ w3 Y3.out P3.out 22 (Nat.lt_trans ly.out P25_lt22) pow_lt22 (by omega)
    clear hn3 g3 kW Y2 G2
    go_wp2_with fail
    refine kA.out.mono ?_
    rintro e w4 ⟨v4, rfl, hn4, g4⟩
    have G4 := hold (G3.out.trans (g4.mono G3.out.size))
    have kL : Hid (Calls Tryd.prog 59 #[v4, .int .i64 32] w4 fun e w' => ∃ v, e = .returned v ∧ SK .u8 w' v (leB (y + 2 ^ 255) 32) ∧ Below w4.heap.size w4 w') := little32 _ _ _ hn4 22 (Nat.lt_of_lt_of_le (Nat.add_lt_add_right ly.out _) (by decide +kernel)) (by omega)
    obtain ⟨a4, n4, c4, rfl⟩ := hn4.shape
    clear hn4 g4 kA Y3 P3 G3
    go_wp2_with fail
    refine kL.out.mono ?_
    rintro e w5 ⟨v5, rfl, hs5, g5⟩
    have S5 : Hid (SK .u8 w5 v5 (leB (y + 2 ^ 255) 32)) := hs5
    have G5 := hold (G4.out.trans (g5.mono G4.out.size))
    obtain ⟨a5, c5, e5⟩ := hs5.shape
    subst e5
    clear hs5 g5 kL G4
    go_wp2_with fail
    go_ret
    exact ⟨_, rfl, by rw [← hn2.out]; exact S5.out, G5.out⟩
  · rw [decide_eq_false hodd]
    have hn2 : Hid (y + 0 = nn) := by have e := hnn.out; rw [if_neg hodd] at e; exact e
    have kL : Hid (Calls Tryd.prog 59 #[.slice ya1 yn1 yc1, .int .i64 32] w2 fun e w' => ∃ v, e = .returned v ∧ SK .u8 w' v (leB (y + 0) 32) ∧ Below w2.heap.size w2 w') := little32 _ _ _ Y2.out 22 (Nat.lt_trans ly.out P25_lt22) (by omega)
    go_wp2_with fail
    refine kL.out.mono ?_
    rintro e w5 ⟨v5, rfl, hs5, g5⟩
    have S5 : Hid (SK .u8 w5 v5 (leB (y + 0) 32)) := hs5
    have G5 := hold (G2.out.trans (g5.mono G2.out.size))
    obtain ⟨a5, c5, e5⟩ := hs5.shape
    subst e5
    clear hs5 g5 kL G2
    go_wp2_with fail
    go_ret
    exact ⟨_, rfl, by rw [← hn2.out]; exact S5.out, G5.out⟩
end Go.Proofs.YtedhfimjcpbcpaaDoor.Ed

/-
  The contracts of the document's own Of of layer 10: bytes as points. Conditions: as each theorem says.
-/
namespace Go.Proofs.YtedhfimjcpbcpaaDoor.Ed
open Go.RowKit
set_option linter.unusedVariables false
set_option linter.unusedSimpArgs false

set_option maxRecDepth 100000 in
set_option maxHeartbeats 8000000 in
theorem of_yes_neg (l : List Nat) (hb : Bb l) (hlen : l.length = 32) (N y a m U V : Nat) (hN : hvN (turn l) 32 = N) (hN2 : N < 2 ^ 256) (hsg : 2 ^ 255 ≤ N ∧ N / 2 ^ 255 % 2 = 1) (hy : y = N - 2 ^ 255) (hyP : y < P25) (q_a : y * y % P25 = a) (q_u : (a + P25 - 1) % P25 = U) (q_m : D25 * a % P25 = m) (q_v : (m + 1) % P25 = V) (hok : ratOk U V = true) (hr : ¬ ratN U V = 0) (v : Value) (w : World) (hs : SK .u8 w v l) :
    Calls Tryd.prog 8 #[v] w fun e w' => ∃ v1 v2 v3, e = .returned (.agg #[v1, v2, v3, .bool true]) ∧ Num w' v1 ((0 + P25 - ratN U V) % P25) ∧ Num w' v2 y ∧ Num w' v3 1 ∧ Below w.heap.size w w' := by
  obtain ⟨la, lc, hle⟩ := hs.shape
  subst hle
  have HS : Hid (SK .u8 w (.slice la l.length lc) l) := hs
  have HBl : Hid (Bb l) := hb
  obtain ⟨w0, hw0⟩ : ∃ V, Hid ((w.alloc (.cells #[.slice none 0 0, .slice none 0 0, .slice none 0 0, .bool false] 37)) = V) := ⟨_, rfl⟩
  have G_0 : Hid (Below w.heap.size w w0) := by unfold Hid; rw [← hw0.out]; exact (Below.refl _ _).alloc (Nat.le_refl _) _
  have C_0 : Hid (At 37 w0 w.heap.size [.slice none 0 0, .slice none 0 0, .slice none 0 0, .bool false]) := by unfold Hid; rw [← hw0.out]; exact at_new 37 w [.slice none 0 0, .slice none 0 0, .slice none 0 0, .bool false]
  obtain ⟨ln, hln⟩ : ∃ n, Hid (l.length = n) := ⟨_, rfl⟩
  rw [hln.out] at HS hlen ⊢
  obtain rfl : ln = 32 := hlen
  have kL : Hid (∀ W, Below w.heap.size w W → Calls Tryd.prog 41 #[.slice la 32 lc] W fun e w' => ∃ v, e = .returned v ∧ Num w' v N ∧ Below W.heap.size W w') := fun W hW => by
    have h := littleN_any l HBl.out _ W (HS.out.below hW) (by rw [hln.out]; omega)
    rw [hln.out, hN] at h
    exact h
  have LN : Hid (N < 16777216 ^ 22) := Nat.lt_trans hN2 (by decide +kernel)
  have E_y : Hid (y = N - 2 ^ 255) := hy
  have HSg : Hid (2 ^ 255 ≤ N ∧ N / 2 ^ 255 % 2 = 1) := hsg
  have L_y : Hid (y < P25) := hyP
  have E_a : Hid (y * y % P25 = a) := q_a
  have E_u : Hid ((a + P25 - 1) % P25 = U) := q_u
  have E_m : Hid (D25 * a % P25 = m) := q_m
  have E_v : Hid ((m + 1) % P25 = V) := q_v
  have L_a : Hid (a < P25) := by rw [← q_a]; exact mod_P _
  have L_u : Hid (U < P25) := by rw [← q_u]; exact mod_P _
  have L_m : Hid (m < P25) := by rw [← q_m]; exact mod_P _
  have L_v : Hid (V < P25) := by rw [← q_v]; exact mod_P _
  clear hs hb hN hN2 hy hsg hyP q_a q_u q_m q_v
  go_enter Tryd.func8, Tryd.ntmps8
  go_upto_region 1 with fail
  rw [hw0.out]
  clear hw0
  go_wp2_with fail
  refine (kL.out _ G_0.out).mono ?_
  rintro e w1 ⟨v, rfl, hn, g⟩
  obtain ⟨Ba, Bc, Bd, rfl⟩ := hn.shape
  have B_1 : Hid (Num w1 (.slice Ba Bc Bd) (N)) := hn
  have C_1 := hold (C_0.out.below g)
  have G_1 := hold (G_0.out.trans (g.mono G_0.out.size))
  clear C_0 G_0 hn g
  have kB : Hid (Calls Tryd.prog 42 #[.slice Ba Bc Bd, .int .i64 255] w1 fun e w' => e = .returned (.int .i64 ((N / 2 ^ 255 % 2 : Nat) : Int)) ∧ Below w1.heap.size w1 w') := bit_num N _ 255 w1 B_1.out 22 LN.out (by omega) (by omega)
  rw [HSg.out.2] at kB
  go_wp2_with fail
  refine (kB.out).mono ?_
  rintro e w2 ⟨rfl, g⟩
  have C_2 := hold (C_1.out.below g)
  have B_2 := hold (B_1.out.below g)
  have G_2 := hold (G_1.out.trans (g.mono G_1.out.size))
  clear C_1 B_1 G_1 g
  clear kB kL
  go_wp2_with fail
  refine (power_any 255 _ (by omega)).mono ?_
  rintro e w3 ⟨v, rfl, hn, g⟩
  obtain ⟨Pa, Pc, Pd, rfl⟩ := hn.shape
  have P_3 : Hid (Num w3 (.slice Pa Pc Pd) (2 ^ 255)) := hn
  have C_3 := hold (C_2.out.below g)
  have B_3 := hold (B_2.out.below g)
  have G_3 := hold (G_2.out.trans (g.mono G_2.out.size))
  clear C_2 B_2 G_2 hn g
  go_wp2_with fail
  refine (sub_num N (2 ^ 255) _ _ _ B_3.out P_3.out 22 LN.out (by omega) HSg.out.1).mono ?_
  rintro e w4 ⟨v, rfl, hn, g⟩
  obtain ⟨Ya, Yc, Yd, rfl⟩ := hn.shape
  have Y_4 : Hid (Num w4 (.slice Ya Yc Yd) (N - 2 ^ 255)) := hn
  have C_4 := hold (C_3.out.below g)
  have G_4 := hold (G_3.out.trans (g.mono G_3.out.size))
  clear C_3 B_3 P_3 G_3 hn g
  have Q_4 : Hid (Num w4 (.slice Ya Yc Yd) y) := by rw [E_y.out]; exact Y_4.out
  clear Y_4
  have LY : Hid (y < 16777216 ^ 22) := by rw [E_y.out]; exact Nat.lt_of_le_of_lt (Nat.sub_le _ _) LN.out
  go_wp2_with fail
  refine (pD_num _).mono ?_
  rintro e w5 ⟨v, rfl, hn, g⟩
  obtain ⟨Ra, Rc, Rd, rfl⟩ := hn.shape
  have R_5 : Hid (Num w5 (.slice Ra Rc Rd) (P25)) := hn
  have C_5 := hold (C_4.out.below g)
  have Q_5 := hold (Q_4.out.below g)
  have G_5 := hold (G_4.out.trans (g.mono G_4.out.size))
  clear C_4 Q_4 G_4 hn g
  have hc : ord (y : Int) (P25 : Int) = -1 := by have := L_y.out; unfold ord; rw [if_pos (by omega)]
  go_wp2_with fail
  refine (cmp_num y P25 _ _ _ Q_5.out R_5.out 22 LY.out P25_lt22 (by omega)).mono ?_
  rintro e w6 ⟨rfl, g⟩
  have C_6 := hold (C_5.out.below g)
  have Q_6 := hold (Q_5.out.below g)
  have G_6 := hold (G_5.out.trans (g.mono G_5.out.size))
  clear C_5 Q_5 R_5 G_5 g
  rw [hc]
  have kM : Hid (∀ (A B C : Nat) v v' W, A < P25 → B < P25 → A * B % P25 = C → Num W v A → Num W v' B → Calls Tryd.prog 47 #[v, v'] W fun e w' => ∃ u, e = .returned u ∧ Num w' u C ∧ Below W.heap.size W w') := fun A B C v v' W h1 h2 h3 h4 h5 => by rw [← h3]; exact mulD_num A B v v' W h4 h5 (lt11 h1) (lt11 h2)
  go_wp2_with fail
  refine (kM.out y y a _ _ _ L_y.out L_y.out E_a.out Q_6.out Q_6.out).mono ?_
  rintro e w7 ⟨v, rfl, hn, g⟩
  obtain ⟨Aa, Ac, Ad, rfl⟩ := hn.shape
  have A_7 : Hid (Num w7 (.slice Aa Ac Ad) (a)) := hn
  have C_7 := hold (C_6.out.below g)
  have Q_7 := hold (Q_6.out.below g)
  have G_7 := hold (G_6.out.trans (g.mono G_6.out.size))
  clear C_6 Q_6 G_6 hn g
  go_wp2_with fail
  refine calls_at (fun V => At 37 V w.heap.size [.slice none 0 0, .slice none 0 0, .slice none 0 0, .bool false] ∧ Num V (.slice Ya Yc Yd) y ∧ Num V (.slice Aa Ac Ad) (a) ∧ Num V (.slice (some ⟨w7.heap.size, 0, none⟩) 1 1) 1 ∧ Below w.heap.size w V) ⟨C_7.out.below ((Below.refl _ _).alloc (Nat.le_refl _) _), Q_7.out.below ((Below.refl _ _).alloc (Nat.le_refl _) _), A_7.out.below ((Below.refl _ _).alloc (Nat.le_refl _) _), num_lit w7 1 (by omega) (by omega), G_7.out.alloc G_7.out.size _⟩ ?_
  rintro w8 ⟨k0, k1, k2, k3, hG⟩
  have C_8 : Hid (At 37 w8 w.heap.size [.slice none 0 0, .slice none 0 0, .slice none 0 0, .bool false]) := k0
  have Q_8 : Hid (Num w8 (.slice Ya Yc Yd) y) := k1
  have A_8 : Hid (Num w8 (.slice Aa Ac Ad) (a)) := k2
  have L_8 : Hid (Num w8 (.slice (some ⟨w7.heap.size, 0, none⟩) 1 1) 1) := k3
  have G_8 : Hid (Below w.heap.size w w8) := hG
  clear C_7 Q_7 A_7 G_7 hG k0 k1 k2 k3
  have kU : Hid (∀ v v' W, Num W v a → Num W v' 1 → Calls Tryd.prog 49 #[v, v'] W fun e w' => ∃ u, e = .returned u ∧ Num w' u U ∧ Below W.heap.size W w') := fun v v' W h1 h2 => by rw [← E_u.out]; exact subD_num a 1 v v' W h1 h2 (lt11 L_a.out) (by have : 1 ≤ P25 := (by decide +kernel); omega)
  refine (kU.out _ _ _ A_8.out L_8.out).mono ?_
  rintro e w9 ⟨v, rfl, hn, g⟩
  obtain ⟨U_a, U_c, U_d, rfl⟩ := hn.shape
  have U__9 : Hid (Num w9 (.slice U_a U_c U_d) (U)) := hn
  have C_9 := hold (C_8.out.below g)
  have Q_9 := hold (Q_8.out.below g)
  have A_9 := hold (A_8.out.below g)
  have G_9 := hold (G_8.out.trans (g.mono G_8.out.size))
  clear C_8 Q_8 A_8 L_8 G_8 hn g
  go_wp2_with fail
  refine (dD_num _).mono ?_
  rintro e w10 ⟨v, rfl, hn, g⟩
  obtain ⟨Ha, Hc, Hd, rfl⟩ := hn.shape
  have H_10 : Hid (Num w10 (.slice Ha Hc Hd) (D25)) := hn
  have C_10 := hold (C_9.out.below g)
  have Q_10 := hold (Q_9.out.below g)
  have A_10 := hold (A_9.out.below g)
  have U__10 := hold (U__9.out.below g)
  have G_10 := hold (G_9.out.trans (g.mono G_9.out.size))
  clear C_9 Q_9 A_9 U__9 G_9 hn g
  go_wp2_with fail
  refine (kM.out D25 a m _ _ _ (by decide +kernel) L_a.out E_m.out H_10.out A_10.out).mono ?_
  rintro e w11 ⟨v, rfl, hn, g⟩
  obtain ⟨Ma, Mc, Md, rfl⟩ := hn.shape
  have M_11 : Hid (Num w11 (.slice Ma Mc Md) (m)) := hn
  have C_11 := hold (C_10.out.below g)
  have Q_11 := hold (Q_10.out.below g)
  have U__11 := hold (U__10.out.below g)
  have G_11 := hold (G_10.out.trans (g.mono G_10.out.size))
  clear C_10 Q_10 A_10 U__10 H_10 G_10 hn g
  go_wp2_with fail
  refine calls_at (fun V => At 37 V w.heap.size [.slice none 0 0, .slice none 0 0, .slice none 0 0, .bool false] ∧ Num V (.slice Ya Yc Yd) y ∧ Num V (.slice U_a U_c U_d) (U) ∧ Num V (.slice Ma Mc Md) (m) ∧ Num V (.slice (some ⟨w11.heap.size, 0, none⟩) 1 1) 1 ∧ Below w.heap.size w V) ⟨C_11.out.below ((Below.refl _ _).alloc (Nat.le_refl _) _), Q_11.out.below ((Below.refl _ _).alloc (Nat.le_refl _) _), U__11.out.below ((Below.refl _ _).alloc (Nat.le_refl _) _), M_11.out.below ((Below.refl _ _).alloc (Nat.le_refl _) _), num_lit w11 1 (by omega) (by omega), G_11.out.alloc G_11.out.size _⟩ ?_
  rintro w12 ⟨k0, k1, k2, k3, k4, hG⟩
  have C_12 : Hid (At 37 w12 w.heap.size [.slice none 0 0, .slice none 0 0, .slice none 0 0, .bool false]) := k0
  have Q_12 : Hid (Num w12 (.slice Ya Yc Yd) y) := k1
  have U__12 : Hid (Num w12 (.slice U_a U_c U_d) (U)) := k2
  have M_12 : Hid (Num w12 (.slice Ma Mc Md) (m)) := k3
  have L_12 : Hid (Num w12 (.slice (some ⟨w11.heap.size, 0, none⟩) 1 1) 1) := k4
  have G_12 : Hid (Below w.heap.size w w12) := hG
  clear C_11 Q_11 U__11 M_11 G_11 hG k0 k1 k2 k3 k4
  have kV : Hid (∀ v v' W, Num W v m → Num W v' 1 → Calls Tryd.prog 50 #[v, v'] W fun e w' => ∃ u, e = .returned u ∧ Num w' u V ∧ Below W.heap.size W w') := fun v v' W h1 h2 => by rw [← E_v.out]; exact addD_num m 1 v v' W h1 h2 (lt11 L_m.out) (by decide +kernel)
  refine (kV.out _ _ _ M_12.out L_12.out).mono ?_
  rintro e w13 ⟨v, rfl, hn, g⟩
  obtain ⟨V_a, V_c, V_d, rfl⟩ := hn.shape
  have V__13 : Hid (Num w13 (.slice V_a V_c V_d) (V)) := hn
  have C_13 := hold (C_12.out.below g)
  have Q_13 := hold (Q_12.out.below g)
  have U__13 := hold (U__12.out.below g)
  have G_13 := hold (G_12.out.trans (g.mono G_12.out.size))
  clear C_12 Q_12 U__12 M_12 L_12 G_12 hn g
  have kR := ratioD_num U V _ _ w13 U__13.out V__13.out L_u.out L_v.out
  rw [hok] at kR
  go_wp2_with fail
  refine kR.mono ?_
  clear kR
  rintro e w14 ⟨v, rfl, hn, g⟩
  have len0 := num_len0 hn
  obtain ⟨Xa, Xc, Xd, rfl⟩ := hn.shape
  have len1 := len0 _ _ _ rfl
  clear len0
  have X_14 : Hid (Num w14 (.slice Xa Xc Xd) (ratN U V)) := hn
  have C_14 := hold (C_13.out.below g)
  have Q_14 := hold (Q_13.out.below g)
  have G_14 := hold (G_13.out.trans (g.mono G_13.out.size))
  clear C_13 Q_13 G_13 hn g U__13 V__13
  have hXn : ¬ Xc = 0 := fun q => hr (len1.2 q)
  have hXd : decide ((Xc : Int) = 0) = false := by rw [decide_eq_false_iff_not]; omega
  have hXb : ((Xc : Int) == 0) = false := by rw [beq_eq_false_iff_ne]; omega
  clear len1 hr
  have LR : Hid (ratN U V ≤ 0 + P25) := by have := rat_lt U V; unfold Hid; omega
  go_wp2_with fail
  refine (subD_num 0 (ratN U V) _ _ _ (num_none _) X_14.out (by decide +kernel) LR.out).mono ?_
  rintro e w15 ⟨v, rfl, hn, g⟩
  obtain ⟨Za, Zc, Zd, rfl⟩ := hn.shape
  have Z_15 : Hid (Num w15 (.slice Za Zc Zd) ((0 + P25 - ratN U V) % P25)) := hn
  have C_15 := hold (C_14.out.below g)
  have Q_15 := hold (Q_14.out.below g)
  have G_15 := hold (G_14.out.trans (g.mono G_14.out.size))
  clear C_14 Q_14 X_14 G_14 hn g
  have gl : Below w15.heap.size w15 (w15.alloc (.cells #[.int .i64 1] 3)) := (Below.refl _ _).alloc (Nat.le_refl _) _
  have C_16 := hold (C_15.out.below gl)
  have Z_16 := hold (Z_15.out.below gl)
  have Q_16 := hold (Q_15.out.below gl)
  have G_16 := hold (G_15.out.trans (gl.mono G_15.out.size))
  have O_16 : Hid (Num (w15.alloc (.cells #[.int .i64 1] 3)) (.slice (some ⟨w15.heap.size, 0, none⟩) 1 1) 1) := num_lit w15 1 (by omega) (by omega)
  clear gl
  have r0 := C_16.out.cell 0
  have r1 := C_16.out.cell 1
  have r2 := C_16.out.cell 2
  have r3 := C_16.out.cell 3
  simp only [List.getElem?_cons_zero, List.getElem?_cons_succ] at r0 r1 r2 r3
  have s0 := C_16.out.free 0
  have s1 := C_16.out.free 1
  have s2 := C_16.out.free 2
  have s3 := C_16.out.free 3
  go_wp2_with fail
  clear r0 r1 r2 r3 s0 s1 s2 s3
  obtain ⟨wZ, hwZ⟩ : ∃ V, Hid ((w15.alloc (.cells #[.int .i64 1] 3)) = V) := ⟨_, rfl⟩
  rw [hwZ.out] at C_16 Z_16 Q_16 G_16 O_16 ⊢
  have o1 : Off w.heap.size (.slice Za Zc Zd) := off_none C_16.out (no_ints _ _ _ _ _ _ _ _ _ _) Z_16.out
  have o2 : Off w.heap.size (.slice Ya Yc Yd) := off_none C_16.out (no_ints _ _ _ _ _ _ _ _ _ _) Q_16.out
  have o3 : Off w.heap.size (.slice (some ⟨w15.heap.size, 0, none⟩) 1 1) := off_none C_16.out (no_ints _ _ _ _ _ _ _ _ _ _) O_16.out
  have hF := ((((Oth.refl w.heap.size wZ).set 0 (.slice Za Zc Zd)).set 1 (.slice Ya Yc Yd)).set 2 (.slice (some ⟨w15.heap.size, 0, none⟩) 1 1)).set 3 (.bool true)
  refine body_cut' (fun F => At 37 F w.heap.size [.slice Za Zc Zd, .slice Ya Yc Yd, .slice (some ⟨w15.heap.size, 0, none⟩) 1 1, .bool true] ∧ Num F (.slice Za Zc Zd) ((0 + P25 - ratN U V) % P25) ∧ Num F (.slice Ya Yc Yd) y ∧ Num F (.slice (some ⟨w15.heap.size, 0, none⟩) 1 1) 1 ∧ Below w.heap.size w F)
    ⟨(((C_16.out.set 0 _).set 1 _).set 2 _).set 3 _, Z_16.out.oth10 hF o1, Q_16.out.oth10 hF o2, O_16.out.oth10 hF o3, Oth.bel G_16.out hF (Nat.le_refl _)⟩ ?_
  rintro F ⟨hC, h1, h2, h3, hB⟩
  exact bodyPost_ret (v := .agg #[.slice Za Zc Zd, .slice Ya Yc Yd, .slice (some ⟨w15.heap.size, 0, none⟩) 1 1, .bool true]) (results_mid (Tryd.results8) _ F w.heap.size 0 [.slice Za Zc Zd, .slice Ya Yc Yd, .slice (some ⟨w15.heap.size, 0, none⟩) 1 1, .bool true] _ rfl hC.range Tryd.underlying37 rfl (by kernel_rfl)) rfl ⟨_, _, _, rfl, h1, h2, h3, hB⟩

set_option maxRecDepth 100000 in
set_option maxHeartbeats 8000000 in
theorem of_yes (l : List Nat) (hb : Bb l) (hlen : l.length = 32) (N y a m U V : Nat) (hN : hvN (turn l) 32 = N) (hN2 : N < 2 ^ 256) (hsg : N / 2 ^ 255 % 2 = 0) (hy : y = N) (hyP : y < P25) (q_a : y * y % P25 = a) (q_u : (a + P25 - 1) % P25 = U) (q_m : D25 * a % P25 = m) (q_v : (m + 1) % P25 = V) (hok : ratOk U V = true) (v : Value) (w : World) (hs : SK .u8 w v l) :
    Calls Tryd.prog 8 #[v] w fun e w' => ∃ v1 v2 v3, e = .returned (.agg #[v1, v2, v3, .bool true]) ∧ Num w' v1 (ratN U V) ∧ Num w' v2 y ∧ Num w' v3 1 ∧ Below w.heap.size w w' := by
  obtain ⟨la, lc, hle⟩ := hs.shape
  subst hle
  have HS : Hid (SK .u8 w (.slice la l.length lc) l) := hs
  have HBl : Hid (Bb l) := hb
  obtain ⟨w0, hw0⟩ : ∃ V, Hid ((w.alloc (.cells #[.slice none 0 0, .slice none 0 0, .slice none 0 0, .bool false] 37)) = V) := ⟨_, rfl⟩
  have G_0 : Hid (Below w.heap.size w w0) := by unfold Hid; rw [← hw0.out]; exact (Below.refl _ _).alloc (Nat.le_refl _) _
  have C_0 : Hid (At 37 w0 w.heap.size [.slice none 0 0, .slice none 0 0, .slice none 0 0, .bool false]) := by unfold Hid; rw [← hw0.out]; exact at_new 37 w [.slice none 0 0, .slice none 0 0, .slice none 0 0, .bool false]
  obtain ⟨ln, hln⟩ : ∃ n, Hid (l.length = n) := ⟨_, rfl⟩
  rw [hln.out] at HS hlen ⊢
  obtain rfl : ln = 32 := hlen
  have kL : Hid (∀ W, Below w.heap.size w W → Calls Tryd.prog 41 #[.slice la 32 lc] W fun e w' => ∃ v, e = .returned v ∧ Num w' v N ∧ Below W.heap.size W w') := fun W hW => by
    have h := littleN_any l HBl.out _ W (HS.out.below hW) (by rw [hln.out]; omega)
    rw [hln.out, hN] at h
    exact h
  have LN : Hid (N < 16777216 ^ 22) := Nat.lt_trans hN2 (by decide +kernel)
  have E_y : Hid (y = N ) := hy
  have HSg : Hid (N / 2 ^ 255 % 2 = 0) := hsg
  have L_y : Hid (y < P25) := hyP
  have E_a : Hid (y * y % P25 = a) := q_a
  have E_u : Hid ((a + P25 - 1) % P25 = U) := q_u
  have E_m : Hid (D25 * a % P25 = m) := q_m
  have E_v : Hid ((m + 1) % P25 = V) := q_v
  have L_a : Hid (a < P25) := by rw [← q_a]; exact mod_P _
  have L_u : Hid (U < P25) := by rw [← q_u]; exact mod_P _
  have L_m : Hid (m < P25) := by rw [← q_m]; exact mod_P _
  have L_v : Hid (V < P25) := by rw [← q_v]; exact mod_P _
  clear hs hb hN hN2 hy hsg hyP q_a q_u q_m q_v
  go_enter Tryd.func8, Tryd.ntmps8
  go_upto_region 1 with fail
  rw [hw0.out]
  clear hw0
  go_wp2_with fail
  refine (kL.out _ G_0.out).mono ?_
  rintro e w1 ⟨v, rfl, hn, g⟩
  obtain ⟨Ba, Bc, Bd, rfl⟩ := hn.shape
  have B_1 : Hid (Num w1 (.slice Ba Bc Bd) (N)) := hn
  have C_1 := hold (C_0.out.below g)
  have G_1 := hold (G_0.out.trans (g.mono G_0.out.size))
  clear C_0 G_0 hn g
  have kB : Hid (Calls Tryd.prog 42 #[.slice Ba Bc Bd, .int .i64 255] w1 fun e w' => e = .returned (.int .i64 ((N / 2 ^ 255 % 2 : Nat) : Int)) ∧ Below w1.heap.size w1 w') := bit_num N _ 255 w1 B_1.out 22 LN.out (by omega) (by omega)
  rw [HSg.out] at kB
  go_wp2_with fail
  refine (kB.out).mono ?_
  rintro e w2 ⟨rfl, g⟩
  have C_2 := hold (C_1.out.below g)
  have B_2 := hold (B_1.out.below g)
  have G_2 := hold (G_1.out.trans (g.mono G_1.out.size))
  clear C_1 B_1 G_1 g
  clear kB kL
  have Q_2 : Hid (Num w2 (.slice Ba Bc Bd) y) := by rw [E_y.out]; exact B_2.out
  clear B_2
  have LY : Hid (y < 16777216 ^ 22) := by rw [E_y.out]; exact Nat.lt_of_le_of_lt (Nat.le_refl _) LN.out
  go_wp2_with fail
  refine (pD_num _).mono ?_
  rintro e w3 ⟨v, rfl, hn, g⟩
  obtain ⟨Ra, Rc, Rd, rfl⟩ := hn.shape
  have R_3 : Hid (Num w3 (.slice Ra Rc Rd) (P25)) := hn
  have C_3 := hold (C_2.out.below g)
  have Q_3 := hold (Q_2.out.below g)
  have G_3 := hold (G_2.out.trans (g.mono G_2.out.size))
  clear C_2 Q_2 G_2 hn g
  have hc : ord (y : Int) (P25 : Int) = -1 := by have := L_y.out; unfold ord; rw [if_pos (by omega)]
  go_wp2_with fail
  refine (cmp_num y P25 _ _ _ Q_3.out R_3.out 22 LY.out P25_lt22 (by omega)).mono ?_
  rintro e w4 ⟨rfl, g⟩
  have C_4 := hold (C_3.out.below g)
  have Q_4 := hold (Q_3.out.below g)
  have G_4 := hold (G_3.out.trans (g.mono G_3.out.size))
  clear C_3 Q_3 R_3 G_3 g
  rw [hc]
  have kM : Hid (∀ (A B C : Nat) v v' W, A < P25 → B < P25 → A * B % P25 = C → Num W v A → Num W v' B → Calls Tryd.prog 47 #[v, v'] W fun e w' => ∃ u, e = .returned u ∧ Num w' u C ∧ Below W.heap.size W w') := fun A B C v v' W h1 h2 h3 h4 h5 => by rw [← h3]; exact mulD_num A B v v' W h4 h5 (lt11 h1) (lt11 h2)
  go_wp2_with fail
  refine (kM.out y y a _ _ _ L_y.out L_y.out E_a.out Q_4.out Q_4.out).mono ?_
  rintro e w5 ⟨v, rfl, hn, g⟩
  obtain ⟨Aa, Ac, Ad, rfl⟩ := hn.shape
  have A_5 : Hid (Num w5 (.slice Aa Ac Ad) (a)) := hn
  have C_5 := hold (C_4.out.below g)
  have Q_5 := hold (Q_4.out.below g)
  have G_5 := hold (G_4.out.trans (g.mono G_4.out.size))
  clear C_4 Q_4 G_4 hn g
  go_wp2_with fail
  refine calls_at (fun V => At 37 V w.heap.size [.slice none 0 0, .slice none 0 0, .slice none 0 0, .bool false] ∧ Num V (.slice Ba Bc Bd) y ∧ Num V (.slice Aa Ac Ad) (a) ∧ Num V (.slice (some ⟨w5.heap.size, 0, none⟩) 1 1) 1 ∧ Below w.heap.size w V) ⟨C_5.out.below ((Below.refl _ _).alloc (Nat.le_refl _) _), Q_5.out.below ((Below.refl _ _).alloc (Nat.le_refl _) _), A_5.out.below ((Below.refl _ _).alloc (Nat.le_refl _) _), num_lit w5 1 (by omega) (by omega), G_5.out.alloc G_5.out.size _⟩ ?_
  rintro w6 ⟨k0, k1, k2, k3, hG⟩
  have C_6 : Hid (At 37 w6 w.heap.size [.slice none 0 0, .slice none 0 0, .slice none 0 0, .bool false]) := k0
  have Q_6 : Hid (Num w6 (.slice Ba Bc Bd) y) := k1
  have A_6 : Hid (Num w6 (.slice Aa Ac Ad) (a)) := k2
  have L_6 : Hid (Num w6 (.slice (some ⟨w5.heap.size, 0, none⟩) 1 1) 1) := k3
  have G_6 : Hid (Below w.heap.size w w6) := hG
  clear C_5 Q_5 A_5 G_5 hG k0 k1 k2 k3
  have kU : Hid (∀ v v' W, Num W v a → Num W v' 1 → Calls Tryd.prog 49 #[v, v'] W fun e w' => ∃ u, e = .returned u ∧ Num w' u U ∧ Below W.heap.size W w') := fun v v' W h1 h2 => by rw [← E_u.out]; exact subD_num a 1 v v' W h1 h2 (lt11 L_a.out) (by have : 1 ≤ P25 := (by decide +kernel); omega)
  refine (kU.out _ _ _ A_6.out L_6.out).mono ?_
  rintro e w7 ⟨v, rfl, hn, g⟩
  obtain ⟨U_a, U_c, U_d, rfl⟩ := hn.shape
  have U__7 : Hid (Num w7 (.slice U_a U_c U_d) (U)) := hn
  have C_7 := hold (C_6.out.below g)
  have Q_7 := hold (Q_6.out.below g)
  have A_7 := hold (A_6.out.below g)
  have G_7 := hold (G_6.out.trans (g.mono G_6.out.size))
  clear C_6 Q_6 A_6 L_6 G_6 hn g
  go_wp2_with fail
  refine (dD_num _).mono ?_
  rintro e w8 ⟨v, rfl, hn, g⟩
  obtain ⟨Ha, Hc, Hd, rfl⟩ := hn.shape
  have H_8 : Hid (Num w8 (.slice Ha Hc Hd) (D25)) := hn
  have C_8 := hold (C_7.out.below g)
  have Q_8 := hold (Q_7.out.below g)
  have A_8 := hold (A_7.out.below g)
  have U__8 := hold (U__7.out.below g)
  have G_8 := hold (G_7.out.trans (g.mono G_7.out.size))
  clear C_7 Q_7 A_7 U__7 G_7 hn g
  go_wp2_with fail
  refine (kM.out D25 a m _ _ _ (by decide +kernel) L_a.out E_m.out H_8.out A_8.out).mono ?_
  rintro e w9 ⟨v, rfl, hn, g⟩
  obtain ⟨Ma, Mc, Md, rfl⟩ := hn.shape
  have M_9 : Hid (Num w9 (.slice Ma Mc Md) (m)) := hn
  have C_9 := hold (C_8.out.below g)
  have Q_9 := hold (Q_8.out.below g)
  have U__9 := hold (U__8.out.below g)
  have G_9 := hold (G_8.out.trans (g.mono G_8.out.size))
  clear C_8 Q_8 A_8 U__8 H_8 G_8 hn g
  go_wp2_with fail
  refine calls_at (fun V => At 37 V w.heap.size [.slice none 0 0, .slice none 0 0, .slice none 0 0, .bool false] ∧ Num V (.slice Ba Bc Bd) y ∧ Num V (.slice U_a U_c U_d) (U) ∧ Num V (.slice Ma Mc Md) (m) ∧ Num V (.slice (some ⟨w9.heap.size, 0, none⟩) 1 1) 1 ∧ Below w.heap.size w V) ⟨C_9.out.below ((Below.refl _ _).alloc (Nat.le_refl _) _), Q_9.out.below ((Below.refl _ _).alloc (Nat.le_refl _) _), U__9.out.below ((Below.refl _ _).alloc (Nat.le_refl _) _), M_9.out.below ((Below.refl _ _).alloc (Nat.le_refl _) _), num_lit w9 1 (by omega) (by omega), G_9.out.alloc G_9.out.size _⟩ ?_
  rintro w10 ⟨k0, k1, k2, k3, k4, hG⟩
  have C_10 : Hid (At 37 w10 w.heap.size [.slice none 0 0, .slice none 0 0, .slice none 0 0, .bool false]) := k0
  have Q_10 : Hid (Num w10 (.slice Ba Bc Bd) y) := k1
  have U__10 : Hid (Num w10 (.slice U_a U_c U_d) (U)) := k2
  have M_10 : Hid (Num w10 (.slice Ma Mc Md) (m)) := k3
  have L_10 : Hid (Num w10 (.slice (some ⟨w9.heap.size, 0, none⟩) 1 1) 1) := k4
  have G_10 : Hid (Below w.heap.size w w10) := hG
  clear C_9 Q_9 U__9 M_9 G_9 hG k0 k1 k2 k3 k4
  have kV : Hid (∀ v v' W, Num W v m → Num W v' 1 → Calls Tryd.prog 50 #[v, v'] W fun e w' => ∃ u, e = .returned u ∧ Num w' u V ∧ Below W.heap.size W w') := fun v v' W h1 h2 => by rw [← E_v.out]; exact addD_num m 1 v v' W h1 h2 (lt11 L_m.out) (by decide +kernel)
  refine (kV.out _ _ _ M_10.out L_10.out).mono ?_
  rintro e w11 ⟨v, rfl, hn, g⟩
  obtain ⟨V_a, V_c, V_d, rfl⟩ := hn.shape
  have V__11 : Hid (Num w11 (.slice V_a V_c V_d) (V)) := hn
  have C_11 := hold (C_10.out.below g)
  have Q_11 := hold (Q_10.out.below g)
  have U__11 := hold (U__10.out.below g)
  have G_11 := hold (G_10.out.trans (g.mono G_10.out.size))
  clear C_10 Q_10 U__10 M_10 L_10 G_10 hn g
  have kR := ratioD_num U V _ _ w11 U__11.out V__11.out L_u.out L_v.out
  rw [hok] at kR
  go_wp2_with fail
  refine kR.mono ?_
  clear kR
  rintro e w12 ⟨v, rfl, hn, g⟩
  have len0 := num_len0 hn
  obtain ⟨Xa, Xc, Xd, rfl⟩ := hn.shape
  have len1 := len0 _ _ _ rfl
  clear len0
  have X_12 : Hid (Num w12 (.slice Xa Xc Xd) (ratN U V)) := hn
  have C_12 := hold (C_11.out.below g)
  have Q_12 := hold (Q_11.out.below g)
  have G_12 := hold (G_11.out.trans (g.mono G_11.out.size))
  clear C_11 Q_11 G_11 hn g U__11 V__11
  clear len1
  have gl : Below w12.heap.size w12 (w12.alloc (.cells #[.int .i64 1] 3)) := (Below.refl _ _).alloc (Nat.le_refl _) _
  have C_13 := hold (C_12.out.below gl)
  have X_13 := hold (X_12.out.below gl)
  have Q_13 := hold (Q_12.out.below gl)
  have G_13 := hold (G_12.out.trans (gl.mono G_12.out.size))
  have O_13 : Hid (Num (w12.alloc (.cells #[.int .i64 1] 3)) (.slice (some ⟨w12.heap.size, 0, none⟩) 1 1) 1) := num_lit w12 1 (by omega) (by omega)
  clear gl
  have r0 := C_13.out.cell 0
  have r1 := C_13.out.cell 1
  have r2 := C_13.out.cell 2
  have r3 := C_13.out.cell 3
  simp only [List.getElem?_cons_zero, List.getElem?_cons_succ] at r0 r1 r2 r3
  have s0 := C_13.out.free 0
  have s1 := C_13.out.free 1
  have s2 := C_13.out.free 2
  have s3 := C_13.out.free 3
  go_wp2_with fail
  clear r0 r1 r2 r3 s0 s1 s2 s3
  obtain ⟨wZ, hwZ⟩ : ∃ V, Hid ((w12.alloc (.cells #[.int .i64 1] 3)) = V) := ⟨_, rfl⟩
  rw [hwZ.out] at C_13 X_13 Q_13 G_13 O_13 ⊢
  have o1 : Off w.heap.size (.slice Xa Xc Xd) := off_none C_13.out (no_ints _ _ _ _ _ _ _ _ _ _) X_13.out
  have o2 : Off w.heap.size (.slice Ba Bc Bd) := off_none C_13.out (no_ints _ _ _ _ _ _ _ _ _ _) Q_13.out
  have o3 : Off w.heap.size (.slice (some ⟨w12.heap.size, 0, none⟩) 1 1) := off_none C_13.out (no_ints _ _ _ _ _ _ _ _ _ _) O_13.out
  have hF := ((((Oth.refl w.heap.size wZ).set 0 (.slice Xa Xc Xd)).set 1 (.slice Ba Bc Bd)).set 2 (.slice (some ⟨w12.heap.size, 0, none⟩) 1 1)).set 3 (.bool true)
  refine body_cut' (fun F => At 37 F w.heap.size [.slice Xa Xc Xd, .slice Ba Bc Bd, .slice (some ⟨w12.heap.size, 0, none⟩) 1 1, .bool true] ∧ Num F (.slice Xa Xc Xd) (ratN U V) ∧ Num F (.slice Ba Bc Bd) y ∧ Num F (.slice (some ⟨w12.heap.size, 0, none⟩) 1 1) 1 ∧ Below w.heap.size w F)
    ⟨(((C_13.out.set 0 _).set 1 _).set 2 _).set 3 _, X_13.out.oth10 hF o1, Q_13.out.oth10 hF o2, O_13.out.oth10 hF o3, Oth.bel G_13.out hF (Nat.le_refl _)⟩ ?_
  rintro F ⟨hC, h1, h2, h3, hB⟩
  exact bodyPost_ret (v := .agg #[.slice Xa Xc Xd, .slice Ba Bc Bd, .slice (some ⟨w12.heap.size, 0, none⟩) 1 1, .bool true]) (results_mid (Tryd.results8) _ F w.heap.size 0 [.slice Xa Xc Xd, .slice Ba Bc Bd, .slice (some ⟨w12.heap.size, 0, none⟩) 1 1, .bool true] _ rfl hC.range Tryd.underlying37 rfl (by kernel_rfl)) rfl ⟨_, _, _, rfl, h1, h2, h3, hB⟩

end Go.Proofs.YtedhfimjcpbcpaaDoor.Ed

/-
  The document's Of of layer 10 at the level of points: the bytes of a point are that point, and any other bytes are none. Conditions: as each theorem says.
-/
namespace Go.Proofs.YtedhfimjcpbcpaaDoor.Ed
open Go.RowKit
set_option linter.unusedVariables false
set_option linter.unusedSimpArgs false

/-- A point's bytes are the point. -/
theorem of_pt (P : Pt) (v : Value) (w : World) (hs : SK .u8 w v (bytesOf P)) :
    Calls Tryd.prog 8 #[v] w fun e w' => ∃ u, e = .returned u ∧ Pm w' u P ∧ Below w.heap.size w w' := by
  have hy := val_lt P.y
  have ht := P25_top
  have hpt := of_point P _ _ _ _ rfl rfl rfl rfl
  obtain ⟨U, hU⟩ : ∃ U, (P.y.val * P.y.val % P25 + P25 - 1) % P25 = U := ⟨_, rfl⟩
  obtain ⟨V, hV⟩ : ∃ V, (D25 * (P.y.val * P.y.val % P25) % P25 + 1) % P25 = V := ⟨_, rfl⟩
  rw [hU, hV] at hpt
  obtain ⟨o1, o2, o3⟩ := hpt
  obtain ⟨s0, s1⟩ := of_sign (ratN U V) P.x.val (val_lt _) o2 o3
  by_cases hx : P.x.val % 2 = 1
  · have hN : hvN (turn (bytesOf P)) 32 = P.y.val + 2 ^ 255 := by
      unfold bytesOf
      rw [if_pos hx]
      exact hv_le _ (by omega)
    refine (of_yes_neg (bytesOf P) (bytes_bb P) (bytes_length P) (P.y.val + 2 ^ 255) P.y.val _ _ U V hN (by omega) ⟨by omega, by omega⟩ (by omega) hy rfl hU rfl hV o1 (s1 hx).1 v w hs).mono fun e w' h => ?_
    obtain ⟨v1, v2, v3, he, n1, n2, n3, hb⟩ := h
    refine ⟨_, he, ⟨v1, v2, v3, _, _, _, rfl, n1, n2, n3, rp_one _ _ P ?_ rfl⟩, hb⟩
    have := val_lt P.x
    rw [show 0 + P25 - ratN U V = P.x.val by rw [Nat.zero_add]; exact (s1 hx).2, Nat.mod_eq_of_lt this]
  · have hN : hvN (turn (bytesOf P)) 32 = P.y.val := by
      unfold bytesOf
      rw [if_neg hx, Nat.add_zero]
      exact hv_le _ (by omega)
    refine (of_yes (bytesOf P) (bytes_bb P) (bytes_length P) P.y.val P.y.val _ _ U V hN (by omega) (by omega) rfl hy rfl hU rfl hV o1 v w hs).mono fun e w' h => ?_
    obtain ⟨v1, v2, v3, he, n1, n2, n3, hb⟩ := h
    exact ⟨_, he, ⟨v1, v2, v3, _, _, _, rfl, n1, n2, n3, rp_one _ _ P (s0 (by omega)) rfl⟩, hb⟩
end Go.Proofs.YtedhfimjcpbcpaaDoor.Ed

/-
  The document's own base of layer 10 is a point of the curve, with the numbers that are known. Conditions: as each theorem says.
-/
namespace Go.Proofs.YtedhfimjcpbcpaaDoor.Ed
open Go.RowKit
set_option linter.unusedVariables false
set_option linter.unusedSimpArgs false

end Go.Proofs.YtedhfimjcpbcpaaDoor.Ed

/-
  The document's points as lists of cells that nobody looks into. Conditions: as each theorem says.
-/
namespace Go.Proofs.YtedhfimjcpbcpaaDoor.Ed
open Go.RowKit
set_option linter.unusedVariables false
set_option linter.unusedSimpArgs false

/-- A list of cells that fills a point of the document. -/
structure Rl (L : List Value) : Prop where
  len : L.length = 4
  one : L.toArray.all (·.oneCell') = true
theorem Rl.il {L : List Value} (h : Rl L) : (Tryd.prog.info? 37).map (·.size) = some L.length := by rw [h.len]; kernel_rfl
theorem Rl.is {L : List Value} (h : Rl L) : (Tryd.prog.info? 37).map (·.size) = some L.toArray.size := by rw [List.size_toArray]; exact h.il
theorem rl_of (a b c : Option Addr) (n1 n2 n3 c1 c2 c3 : Nat) (t : Bool) : Rl [.slice a n1 c1, .slice b n2 c2, .slice c n3 c3, .bool t] := ⟨rfl, by kernel_rfl⟩
theorem pm_list {W : World} {v : Value} {P : Pt} (h : Pm W v P) : ∃ M : List Value, v = .agg M.toArray ∧ Rl M ∧ M[3]? = some (.bool true) ∧ (∀ x ∈ M, ∀ z, x ≠ .int .i64 z) := by
  obtain ⟨vx, vy, vz, X, Y, Z, rfl, hx, hy, hz, -⟩ := h
  obtain ⟨xa, xn, xc, rfl⟩ := hx.shape
  obtain ⟨ya, yn, yc, rfl⟩ := hy.shape
  obtain ⟨za, zn, zc, rfl⟩ := hz.shape
  exact ⟨[.slice xa xn xc, .slice ya yn yc, .slice za zn zc, .bool true], rfl, rl_of _ _ _ _ _ _ _ _ _ _, rfl, no_ints _ _ _ _ _ _ _ _ _ _⟩
end Go.Proofs.YtedhfimjcpbcpaaDoor.Ed

/-
  The law's is of layer 10: a point of the program against one of the document: the walk, given what each call answers. Conditions: as each theorem says.
-/
namespace Go.Proofs.YtedhfimjcpbcpaaDoor.Ed
open Go.RowKit
set_option linter.unusedVariables false
set_option linter.unusedSimpArgs false

end Go.Proofs.YtedhfimjcpbcpaaDoor.Ed

/-
  A region that draws its order, in which calls make memory whose place nobody knows: what is known of their answers is a fact that later worlds keep; new variables may be made at any time between them; stores into these come last. One walk in the order of the text serves every order. Conditions: as the theorems say.
-/
namespace Go.Proofs.YtedhfimjcpbcpaaDoor
open Go.RowKit
set_option linter.unusedVariables false

/-- A row of cells without numbers of the kind i64. -/
def Bare (o : Obj) : Prop := ∃ (t : TypeId) (L : List Value), o = .cells L.toArray t ∧ ∀ v ∈ L, ∀ z, v ≠ .int .i64 z
/-- So of every later world, too, though such rows turn. -/
structure Steady (Φ : World → Prop) : Prop where
  below : ∀ w w', Φ w → Below w.heap.size w w' → Φ w'
  turned : ∀ w w' g old obj, Φ w → w.heap[g]? = some old → Bare old → Turned w w' g obj → Φ w'
theorem Steady.and {Φ Ψ : World → Prop} (h : Steady Φ) (k : Steady Ψ) : Steady (fun w => Φ w ∧ Ψ w) :=
  ⟨fun w w' hw hb => ⟨h.below w w' hw.1 hb, k.below w w' hw.2 hb⟩, fun w w' g old obj hw h1 h2 h3 => ⟨h.turned w w' g old obj hw.1 h1 h2 h3, k.turned w w' g old obj hw.2 h1 h2 h3⟩⟩

section
variable {P : Program} {ops : Array Oper} {md : Region.Mode} {base : World} {ob : Nat → Option Obj} {st : Nat → Option (Nat × Obj)} {Q : Exit → Act → World → Prop}

/-- The operation is a call whose answer is told by Ψ. -/
def MemCall (P : Program) (o : Oper) (a : Act) (w : World) (Ψ : Value → World → Prop) (χ : Value → Prop) : Prop :=
  ∃ f args, (execOp a.eval o).run P w = .ok (.enter f args) w ∧ Calls P f args w fun e w'' => ∃ v, e = .returned v ∧ χ v ∧ Ψ v w'' ∧ Below w.heap.size w w''
def mOp (P : Program) (ops : Array Oper) (base : World) (ob : Nat → Option Obj) (i : Nat) (K : (Nat → Option (Nat × Obj)) → (World → Prop) → Act → Prop) (γ : Nat → Option (Nat × Obj)) (Φ : World → Prop) (a : Act) : Prop :=
  ∃ o, ops[i]? = some o ∧ ((∃ obj, ob i = some obj ∧ o.guard = none ∧ Makes P o obj ∧ ∀ g, K (upd γ i (g, obj)) Φ (a.put o.dst (.pointer (some ⟨g, 0, none⟩)))) ∨
    (ob i = none ∧ ∃ k obj g old, o.guard = none ∧ γ k = some (g, old) ∧ Bare old ∧ Stores P o a g old obj ∧ K (upd γ k (g, obj)) Φ (a.put o.dst undef)) ∨
    (ob i = none ∧ ∃ v, Yb P ops base o v a ∧ K γ Φ (a.put o.dst v)) ∨
    (ob i = none ∧ Region.wanted o (yielded ops a.tmps) = true ∧ ∃ (Ψ : Value → World → Prop) (χ : Value → Prop), (∀ v, Steady (Ψ v)) ∧ (∀ w, Below base.heap.size base w → Φ w → MemCall P o a w Ψ χ) ∧ ∀ v, χ v → K γ (fun w => Φ w ∧ Ψ v w) (a.put o.dst v)))
/-- Whatever order is picked. -/
def mAny (P : Program) (md : Region.Mode) (ops : Array Oper) (base : World) (ob : Nat → Option Obj) (Q : Exit → Act → World → Prop) : Nat → Array Bool → (Nat → Option (Nat × Obj)) → (World → Prop) → Act → Prop
  | 0, listed, γ, Φ, a => Region.ready md ops listed = [] ∧ ∀ w, Hold base γ w → Φ w → Q .normal a w
  | n + 1, listed, γ, Φ, a => Region.ready md ops listed ≠ [] ∧ ∀ i ∈ Region.ready md ops listed, mOp P ops base ob i (mAny P md ops base ob Q n (listed.setIfInBounds i true)) γ Φ a
theorem wpOp_of_mOp {i : Nat} {K : (Nat → Option (Nat × Obj)) → (World → Prop) → Act → Prop} {K' : Act → World → Prop} {γ : Nat → Option (Nat × Obj)} {Φ : World → Prop} {a : Act} {w : World} (hs : Steady Φ) (hw : Hold base γ w) (hf : Φ w)
    (h : ∀ γ Φ a w, Steady Φ → Hold base γ w → Φ w → K γ Φ a → K' a w) (hh : mOp P ops base ob i K γ Φ a) : wpOp P ops Q i K' a w := by
  obtain ⟨o, ho, hh⟩ := hh
  unfold wpOp
  simp only [ho]
  rcases hh with ⟨obj, h1, h2, h3, h4⟩ | ⟨h1, k, obj, g, old, h3, h4, hb, h5, h6⟩ | ⟨h1, v, hy, h3⟩ | ⟨h1, hwn, Ψ, χ, hΨ, hm, h3⟩
  · rw [if_pos (by unfold Region.wanted; rw [h2])]
    left
    unfold Oper.wp
    rw [h3 a w]
    exact h _ _ _ _ hs (hw.alloc i obj) (hs.below _ _ hf ((Below.refl _ _).alloc (Nat.le_refl _) _)) (h4 w.heap.size)
  · rw [if_pos (by unfold Region.wanted; rw [h3])]
    left
    have hg := (hw.own k _ h4).2.2
    obtain ⟨w', hr, ht⟩ := h5 w hg
    unfold Oper.wp
    rw [hr]
    exact h _ _ _ _ hs (hw.store k g old obj h4 ht) (hs.turned w w' g old obj hf hg hb ht) h6
  · rcases hy with ⟨hwn, hq⟩ | ⟨hwn, rfl⟩
    · rw [if_pos hwn]
      left
      have h5 := hq w hw.bel
      unfold Oper.quietAt at h5
      unfold Oper.wp
      generalize (execOp a.eval o).run P w = r at *
      cases r with
      | ok n w' =>
        cases n <;> simp only [Oper.quietUpon] at h5 <;> simp only [Oper.upon]
        case value u =>
          obtain ⟨e1, e2⟩ := h5
          rw [e1, e2]
          exact h _ _ _ _ hs hw hf h3
        case skip =>
          obtain ⟨e1, e2⟩ := h5
          rw [e1, ← e2]
          exact h _ _ _ _ hs hw hf h3
        case enter f args =>
          obtain ⟨e1, hc⟩ := h5
          rw [e1]
          exact hc.mono fun e w'' ⟨he, hw''⟩ => by subst he; exact h _ _ _ _ hs (hw.below hw'') (hs.below _ _ hf hw'') h3
      | halt x w' => simp only [Oper.quietUpon] at h5
    · rw [if_neg (by rw [hwn]; simp)]
      exact h _ _ _ _ hs hw hf h3
  · rw [if_pos hwn]
    left
    obtain ⟨f, args, hr, hc⟩ := hm w hw.bel hf
    unfold Oper.wp
    rw [hr]
    exact hc.mono fun e w'' ⟨v, he, hx, hv, hb⟩ => by subst he; exact h _ _ _ _ (hs.and (hΨ v)) (hw.below hb) ⟨hs.below _ _ hf hb, hv⟩ (h3 v hx)
theorem wpAny_of_mAny : ∀ (n : Nat) (listed : Array Bool) (γ : Nat → Option (Nat × Obj)) (Φ : World → Prop) (a : Act) (w : World), Steady Φ → Hold base γ w → Φ w → mAny P md ops base ob Q n listed γ Φ a → wpAny P md ops Q n listed a w
  | 0, _, _, _, _, _, hs, hw, hf, h => ⟨h.1, h.2 _ hw hf⟩
  | n + 1, _, _, _, _, _, hs, hw, hf, h => ⟨fun h0 => absurd h0 h.1, fun i hi => wpOp_of_mOp hs hw hf (fun γ Φ a w hs' hw' hf' hk => wpAny_of_mAny n _ γ Φ a w hs' hw' hf' hk) (h.2 i hi)⟩
/-- Once every call is done: the game of new variables and stores. -/
theorem mAny_of_gAny {Φ : World → Prop} (hob : ∀ i obj, ob i = some obj → Bare obj) (hst : ∀ i k obj, st i = some (k, obj) → Bare obj) : ∀ (n : Nat) (listed : Array Bool) (γ : Nat → Option (Nat × Obj)) (a : Act), (∀ k g old, γ k = some (g, old) → Bare old) →
    gAny P md ops base ob st (fun x a w => Φ w → Q x a w) n listed γ a → mAny P md ops base ob Q n listed γ Φ a
  | 0, _, _, _, _, h => h
  | n + 1, _, γ, _, hγ, h => ⟨h.1, fun i hi => by
    obtain ⟨o, ho, hh⟩ := h.2 i hi
    have hup : ∀ j g obj, Bare obj → ∀ k g' old, upd γ j (g, obj) k = some (g', old) → Bare old := by
      intro j g obj hb k g' old e
      unfold upd at e
      split at e
      · simp only [Option.some.injEq, Prod.mk.injEq] at e
        rw [← e.2]; exact hb
      · exact hγ k g' old e
    refine ⟨o, ho, ?_⟩
    rcases hh with ⟨obj, e1, e0, e2, e3, e4⟩ | ⟨k, obj, g, old, e1, e2, e3, e4, e5, e6⟩ | ⟨e1, e0, v, e2, e3⟩
    · exact .inl ⟨obj, e1, e2, e3, fun g => mAny_of_gAny hob hst n _ _ _ (hup i g obj (hob i obj e1)) (e4 g)⟩
    · exact .inr (.inl ⟨e1, k, obj, g, old, e3, e4, hγ k g old e4, e5, mAny_of_gAny hob hst n _ _ _ (hup k g obj (hst i k obj e2)) e6⟩)
    · exact .inr (.inr (.inl ⟨e1, v, e2, mAny_of_gAny hob hst n _ _ _ hγ e3⟩))⟩
theorem MemCall.keep {o : Oper} {a : Act} {d : Option Tmp} {u : Value} {w : World} {Ψ : Value → World → Prop} {χ : Value → Prop} (hs : ∀ cs b, o.op ≠ .select cs b) (h3 : ∀ t, d = some t → t ∉ o.looksAt ops) (hy : MemCall P o a w Ψ χ) : MemCall P o (a.put d u) w Ψ χ := by
  unfold MemCall at *
  rw [execOp_put o hs a d u h3]
  exact hy
theorem MemCall.back {o : Oper} {a : Act} {d : Option Tmp} {u : Value} {w : World} {Ψ : Value → World → Prop} {χ : Value → Prop} (hs : ∀ cs b, o.op ≠ .select cs b) (h3 : ∀ t, d = some t → t ∉ o.looksAt ops) (hy : MemCall P o (a.put d u) w Ψ χ) : MemCall P o a w Ψ χ := by
  unfold MemCall at *
  rw [execOp_put o hs a d u h3] at hy
  exact hy
/-- An operation of one value that may come up now may be taken first. -/
theorem mAny_first {i : Nat} {oi : Oper} {v : Value} (hi : ops[i]? = some oi) (hob : ob i = none) (hsel : ∀ (j : Nat) (o : Oper) cs b, ops[j]? = some o → o.op ≠ .select cs b) :
    ∀ (n : Nat) (listed : Array Bool) (γ : Nat → Option (Nat × Obj)) (Φ : World → Prop) (a : Act),
      (∀ j oj, ops[j]? = some oj → j ≠ i → listed.getD j true = false → (∀ e ∈ oj.after, Region.binds md e = true → e.on ≠ i) → oi.apart ops oj = true) →
      i ∈ Region.ready md ops listed → Yb P ops base oi v a →
      mAny P md ops base ob Q n (listed.setIfInBounds i true) γ Φ (a.put oi.dst v) → mAny P md ops base ob Q (n + 1) listed γ Φ a := by
  intro n
  induction n with
  | zero =>
    intro listed γ Φ a _ hr hy H
    refine ⟨fun h => (by rw [h] at hr; cases hr), fun j hj => ?_⟩
    by_cases hji : j = i
    · subst hji; exact ⟨oi, hi, .inr (.inr (.inl ⟨hob, v, hy, H⟩))⟩
    · have := ready_mono hj hji
      rw [H.1] at this
      cases this
  | succ n ih =>
    intro listed γ Φ a hfree hr hy H
    refine ⟨fun h => (by rw [h] at hr; cases hr), fun j hj => ?_⟩
    by_cases hji : j = i
    · subst hji; exact ⟨oi, hi, .inr (.inr (.inl ⟨hob, v, hy, H⟩))⟩
    · have h1 := H.2 j (ready_mono hj hji)
      obtain ⟨hjun, oj, hoj, -⟩ := mem_ready.1 hj
      have hap := hfree j oj hoj hji hjun (waits hj hoj (mem_ready.1 hr).1)
      obtain ⟨k1, k2, k3⟩ := Oper.apart_spec hap
      have hfree' : ∀ k ok, ops[k]? = some ok → k ≠ i → (listed.setIfInBounds j true).getD k true = false → (∀ e ∈ ok.after, Region.binds md e = true → e.on ≠ i) → oi.apart ops ok = true := fun k ok hk hki hun hno => by
        refine hfree k ok hk hki ?_ hno
        by_cases hjk : j = k
        · subst hjk; exact hjun
        · rw [getD_set_ne true hjk] at hun; exact hun
      have hr' := ready_mono hr (Ne.symm hji)
      have hsi := fun cs b => hsel i oi cs b hi
      have hsj := fun cs b => hsel j oj cs b hoj
      have hc := Array.setIfInBounds_comm (xs := listed) true true (Ne.symm hji)
      obtain ⟨o', ho', hh⟩ := h1
      rw [hoj] at ho'
      simp only [Option.some.injEq] at ho'
      subst ho'
      refine ⟨oj, hoj, ?_⟩
      rcases hh with ⟨obj, e1, e2, e3, e4⟩ | ⟨e1, k, obj, g, old, e3, e4, eb, e5, e6⟩ | ⟨e1, u, e2, e3⟩ | ⟨e1, ew, Ψ, χ, eΨ, em, e3⟩
      · refine .inl ⟨obj, e1, e2, e3, fun g => ih _ _ _ _ hfree' hr' (Yb.keep hsi k3 hy) ?_⟩
        have := e4 g
        rw [hc, Act.put_comm a v _ k2] at this
        exact this
      · refine .inr (.inl ⟨e1, k, obj, g, old, e3, e4, eb, Stores.back hsj k1 e5, ih _ _ _ _ hfree' hr' (Yb.keep hsi k3 hy) ?_⟩)
        rw [hc, Act.put_comm a v _ k2] at e6
        exact e6
      · refine .inr (.inr (.inl ⟨e1, u, Yb.back hsj k1 e2, ih _ _ _ _ hfree' hr' (Yb.keep hsi k3 hy) ?_⟩))
        rw [hc, Act.put_comm a v _ k2] at e3
        exact e3
      · rw [wanted_put oj a oi.dst v k1] at ew
        refine .inr (.inr (.inr ⟨e1, ew, Ψ, χ, eΨ, fun w hb hf => MemCall.back hsj k1 (em w hb hf), fun u hu => ih _ _ _ _ hfree' hr' (Yb.keep hsi k3 hy) ?_⟩))
        have := e3 u hu
        rw [hc, Act.put_comm a v _ k2] at this
        exact this
/-- A call that makes memory may be taken first, if nothing but new variables may come up beside it. -/
theorem mAny_call {i : Nat} {oi : Oper} (Ψ : Value → World → Prop) (χ : Value → Prop) (v0 : Value) (h0 : χ v0) (hΨ : ∀ v, Steady (Ψ v)) (hi : ops[i]? = some oi) (hob : ob i = none) (hsel : ∀ (j : Nat) (o : Oper) cs b, ops[j]? = some o → o.op ≠ .select cs b) :
    ∀ (n : Nat) (listed : Array Bool) (γ : Nat → Option (Nat × Obj)) (Φ : World → Prop) (a : Act),
      (∀ j oj, ops[j]? = some oj → j ≠ i → listed.getD j true = false → (oi.apart ops oj = true ∧ ob j ≠ none) ∨ (∃ e ∈ oj.after, Region.binds md e = true ∧ listed.getD e.on true = false ∧ ob e.on = none)) →
      i ∈ Region.ready md ops listed → Region.wanted oi (yielded ops a.tmps) = true → (∀ w, Below base.heap.size base w → Φ w → MemCall P oi a w Ψ χ) →
      (∀ v, χ v → mAny P md ops base ob Q n (listed.setIfInBounds i true) γ (fun w => Φ w ∧ Ψ v w) (a.put oi.dst v)) → mAny P md ops base ob Q (n + 1) listed γ Φ a := by
  have nowait : ∀ (listed : Array Bool) (j : Nat) (oj : Oper), ops[j]? = some oj → j ∈ Region.ready md ops listed → ¬ ∃ e ∈ oj.after, Region.binds md e = true ∧ listed.getD e.on true = false ∧ ob e.on = none := by
    rintro listed j oj hoj hj ⟨e, he, hb, hun, -⟩
    exact waits hj hoj hun e he hb rfl
  intro n
  induction n with
  | zero =>
    intro listed γ Φ a hfree hr hw hm H
    refine ⟨fun h => (by rw [h] at hr; cases hr), fun j hj => ?_⟩
    by_cases hji : j = i
    · subst hji; exact ⟨oi, hi, .inr (.inr (.inr ⟨hob, hw, Ψ, χ, hΨ, hm, H⟩))⟩
    · have := ready_mono hj hji
      rw [(H v0 h0).1] at this
      cases this
  | succ n ih =>
    intro listed γ Φ a hfree hr hw hm H
    refine ⟨fun h => (by rw [h] at hr; cases hr), fun j hj => ?_⟩
    by_cases hji : j = i
    · subst hji; exact ⟨oi, hi, .inr (.inr (.inr ⟨hob, hw, Ψ, χ, hΨ, hm, H⟩))⟩
    · obtain ⟨hjun, oj, hoj, -⟩ := mem_ready.1 hj
      obtain ⟨hap, hjo⟩ := (hfree j oj hoj hji hjun).resolve_right (nowait listed j oj hoj hj)
      obtain ⟨k1, k2, k3⟩ := Oper.apart_spec hap
      have hfree' : ∀ k ok, ops[k]? = some ok → k ≠ i → (listed.setIfInBounds j true).getD k true = false → (oi.apart ops ok = true ∧ ob k ≠ none) ∨ (∃ e ∈ ok.after, Region.binds md e = true ∧ (listed.setIfInBounds j true).getD e.on true = false ∧ ob e.on = none) := fun k ok hk hki hun => by
        have hun' : listed.getD k true = false := by
          by_cases hjk : j = k
          · subst hjk; exact hjun
          · rw [getD_set_ne true hjk] at hun; exact hun
        rcases hfree k ok hk hki hun' with h | ⟨e, he, hb, h1, h2⟩
        · exact .inl h
        · refine .inr ⟨e, he, hb, ?_, h2⟩
          rw [getD_set_ne true (fun q => hjo (by rw [q]; exact h2))]
          exact h1
      have hr' := ready_mono hr (Ne.symm hji)
      have hsi := fun cs b => hsel i oi cs b hi
      have hc := Array.setIfInBounds_comm (xs := listed) true true (Ne.symm hji)
      have hall : ∀ v, χ v → ∃ obj, ob j = some obj ∧ oj.guard = none ∧ Makes P oj obj ∧ ∀ g, mAny P md ops base ob Q n ((listed.setIfInBounds i true).setIfInBounds j true) (upd γ j (g, obj)) (fun w => Φ w ∧ Ψ v w) ((a.put oi.dst v).put oj.dst (.pointer (some ⟨g, 0, none⟩))) := by
        intro v hv
        obtain ⟨o', ho', hh⟩ := (H v hv).2 j (ready_mono hj hji)
        rw [hoj] at ho'
        simp only [Option.some.injEq] at ho'
        subst ho'
        rcases hh with h | ⟨e, -⟩ | ⟨e, -⟩ | ⟨e, -⟩
        · exact h
        · exact absurd e hjo
        · exact absurd e hjo
        · exact absurd e hjo
      obtain ⟨obj, e1, e2, e3, -⟩ := hall v0 h0
      refine ⟨oj, hoj, .inl ⟨obj, e1, e2, e3, fun g => ih _ _ _ _ hfree' hr' (by rw [wanted_put oi a oj.dst _ k3]; exact hw) (fun w hb hf => MemCall.keep hsi k3 (hm w hb hf)) fun v hv => ?_⟩⟩
      obtain ⟨obj', f1, f2, f3, f4⟩ := hall v hv
      rw [e1] at f1
      simp only [Option.some.injEq] at f1
      subst f1
      have := f4 g
      rw [hc, Act.put_comm a v _ k2] at this
      exact this
/-- Beside number i nothing but new variables may come up. -/
def aloneB (md : Region.Mode) (ops : Array Oper) (ob : Nat → Option Obj) (listed : Array Bool) (i : Nat) : Bool :=
  match ops[i]? with
  | some oi => (List.range ops.size).all fun j => j == i || listed.getD j true || match ops[j]? with
    | some oj => (oi.apart ops oj && (ob j).isSome) || oj.after.any (fun e => Region.binds md e && !listed.getD e.on true && (ob e.on).isNone)
    | none => true
  | none => false
theorem alone_of {listed : Array Bool} {i : Nat} {oi : Oper} (hi : ops[i]? = some oi) (h : aloneB md ops ob listed i = true) : ∀ j oj, ops[j]? = some oj → j ≠ i → listed.getD j true = false → (oi.apart ops oj = true ∧ ob j ≠ none) ∨ (∃ e ∈ oj.after, Region.binds md e = true ∧ listed.getD e.on true = false ∧ ob e.on = none) := by
  intro j oj hoj hji hun
  unfold aloneB at h
  rw [hi] at h
  have hlt : j < ops.size := (Array.getElem?_eq_some_iff.1 hoj).1
  have := List.all_eq_true.1 h j (List.mem_range.2 hlt)
  rw [hun, hoj] at this
  simp only [Bool.or_false, Bool.or_eq_true, beq_iff_eq, Bool.and_eq_true] at this
  rcases this with h | h | h
  · exact absurd h hji
  · exact .inl ⟨h.1, fun e => by rw [e] at h; simp at h⟩
  · obtain ⟨e, he, hb⟩ := Array.any_eq_true'.1 h
    simp only [Bool.and_eq_true, Bool.not_eq_true', Option.isNone_iff_eq_none] at hb
    exact .inr ⟨e, he, hb.1.1, hb.1.2, hb.2⟩
theorem m_first (i : Nat) (oi : Oper) (v : Value) {n : Nat} {listed : Array Bool} {γ : Nat → Option (Nat × Obj)} {Φ : World → Prop} {a : Act} (hi : ops[i]? = some oi) (hob : ob i = none) (hs : Region.noSelect ops = true) (hf : Region.free md ops listed i = true) (hr : (Region.ready md ops listed).contains i = true)
    (hy : Yb P ops base oi v a) (H : mAny P md ops base ob Q n (listed.setIfInBounds i true) γ Φ (a.put oi.dst v)) : mAny P md ops base ob Q (n + 1) listed γ Φ a :=
  mAny_first hi hob (Region.noSelect_spec hs) n listed γ Φ a (Region.free_spec hi hf) (by simpa using hr) hy H
theorem m_call (i : Nat) (oi : Oper) (Ψ : Value → World → Prop) (χ : Value → Prop) (v0 : Value) (h0 : χ v0) {n : Nat} {listed : Array Bool} {γ : Nat → Option (Nat × Obj)} {Φ : World → Prop} {a : Act} (hΨ : ∀ v, Steady (Ψ v)) (hi : ops[i]? = some oi) (hob : ob i = none) (hs : Region.noSelect ops = true)
    (hre : aloneB md ops ob listed i = true) (hr : (Region.ready md ops listed).contains i = true) (hw : Region.wanted oi (yielded ops a.tmps) = true)
    (hm : ∀ w, Below base.heap.size base w → Φ w → MemCall P oi a w Ψ χ)
    (H : ∀ v, χ v → mAny P md ops base ob Q n (listed.setIfInBounds i true) γ (fun w => Φ w ∧ Ψ v w) (a.put oi.dst v)) : mAny P md ops base ob Q (n + 1) listed γ Φ a :=
  mAny_call Ψ χ v0 h0 hΨ hi hob (Region.noSelect_spec hs) n listed γ Φ a (alone_of hi hre) (by simpa using hr) hw hm H
theorem wp_region_grow_m {id : Nat} {a : Act} {w : World} (hm : P.follows .mixedOrders = true) (h : mAny P .any ops w ob Q ops.size (Array.replicate ops.size false) (fun _ => none) (fun _ => True) a) : (Code.region id ops true).wp P Q a w :=
  wp_region_any hm (wpAny_of_mAny _ _ _ _ a w.drew ⟨fun _ _ _ _ => trivial, fun _ _ _ _ _ _ _ _ _ => trivial⟩ ⟨(Below.refl _ w).drew, fun i g hg => by simp at hg, fun i j g h _ hg => by simp at hg⟩ trivial h)
end
end Go.Proofs.YtedhfimjcpbcpaaDoor

/-
  What is known of the document's points is kept by later worlds, though rows without numbers turn. Conditions: as each theorem says.
-/
namespace Go.Proofs.YtedhfimjcpbcpaaDoor.Ed
open Go.RowKit
set_option linter.unusedVariables false
set_option linter.unusedSimpArgs false

theorem num_turned {w w' : World} {g : Nat} {old obj : Obj} {v : Value} {N : Nat} (h : Num w v N) (hg : w.heap[g]? = some old) (hb : Bare old) (ht : Turned w w' g obj) : Num w' v N := by
  obtain ⟨t, L, rfl, hL⟩ := hb
  have hA : At t w g L := hg
  exact h.oth10 ⟨ht.os, ht.tape, ht.output, by rw [ht.size]; exact Nat.le_refl _, fun k _ hk => ht.other k hk⟩ (off_none hA hL h)
theorem pm_turned {w w' : World} {g : Nat} {old obj : Obj} {v : Value} {P : Pt} (h : Pm w v P) (hg : w.heap[g]? = some old) (hb : Bare old) (ht : Turned w w' g obj) : Pm w' v P := by
  obtain ⟨vx, vy, vz, X, Y, Z, e, h1, h2, h3, h4⟩ := h
  exact ⟨vx, vy, vz, X, Y, Z, e, num_turned h1 hg hb ht, num_turned h2 hg hb ht, num_turned h3 hg hb ht, h4⟩
theorem pm_steady (v : Value) (P : Pt) : Steady (fun w => Pm w v P) := ⟨fun w w' h hb => h.below hb, fun w w' g old obj h h1 h2 h3 => pm_turned h h1 h2 h3⟩
/-- The package's variables, all of them. -/
structure Env (W : World) : Prop where
  d : Gd W
  t : GtwiceD W
  u : GbaseX W
  v : GbaseY W
  z : Gl W
theorem Env.grown {W W' : World} (h : Env W) (hb : Below W.heap.size W W') : Env W' := ⟨h.d.grown hb, h.t.grown hb, h.u.grown hb, h.v.grown hb, h.z.grown hb⟩
theorem Env.lt {W : World} (h : Env W) : 0 < W.heap.size := Nat.lt_of_le_of_lt (Nat.zero_le _) h.z.lt
/-- Cells without numbers. -/
structure Nl (L : List Value) : Prop where
  no : ∀ v ∈ L, ∀ z, v ≠ .int .i64 z
theorem bare_of (t : TypeId) (L : List Value) (h : Nl L) : Bare (.cells L.toArray t) := ⟨t, L, rfl, h.no⟩
theorem nl_nils : Nl [.slice none 0 0, .slice none 0 0, .slice none 0 0, .bool false] := ⟨by intro v hv z e; subst e; simp at hv⟩
/-- The value is such a row of cells. -/
def Lr (v : Value) : Prop := ∃ M : List Value, v = .agg M.toArray ∧ Rl M ∧ Nl M
theorem lr_nil : Lr (.agg #[.slice none 0 0, .slice none 0 0, .slice none 0 0, .bool false]) := ⟨[.slice none 0 0, .slice none 0 0, .slice none 0 0, .bool false], rfl, rl_of _ _ _ _ _ _ _ _ _ _, nl_nils⟩
theorem lr_pm {w : World} {v : Value} {P : Pt} (h : Pm w v P) : Lr v := by
  obtain ⟨M, e, h1, -, h2⟩ := pm_list h
  exact ⟨M, e, h1, ⟨h2⟩⟩
theorem two_if {α : Type} (p : α → Prop) (a b : Nat) (x y : α) (hx : p x) (hy : p y) : ∀ (i : Nat) (z : α), (if i = a then some x else if i = b then some y else none) = some z → p z := by
  intro i z h
  split at h
  · simp only [Option.some.injEq] at h; rw [← h]; exact hx
  · split at h
    · simp only [Option.some.injEq] at h; rw [← h]; exact hy
    · cases h
theorem two_if_pair {α : Type} (p : α → Prop) (a b c d : Nat) (x y : α) (hx : p x) (hy : p y) : ∀ (i k : Nat) (z : α), (if i = a then some (c, x) else if i = b then some (d, y) else none) = some (k, z) → p z := by
  intro i k z h
  split at h
  · simp only [Option.some.injEq, Prod.mk.injEq] at h; rw [← h.2]; exact hx
  · split at h
    · simp only [Option.some.injEq, Prod.mk.injEq] at h; rw [← h.2]; exact hy
    · cases h
end Go.Proofs.YtedhfimjcpbcpaaDoor.Ed

/-
  The law's awake of layer 11: the walk, given what each call answers. Conditions: as each theorem says.
-/
namespace Go.Proofs.YtedhfimjcpbcpaaDoor.Ed
open Go.RowKit
set_option linter.unusedVariables false
set_option linter.unusedSimpArgs false

set_option maxRecDepth 100000 in
set_option maxHeartbeats 16000000 in
theorem awake11_w (b t3 d t3b mz z : List Value) (b_h : Pl b) (t3_h : Pl t3) (d_h : Pl d) (t3b_h : Pl t3b) (mz_h : Pl mz) (z_h : Pl z) 
    (Q1 : Hid (∀ w : World, Env w → Calls Tryd.prog 25 #[] w fun e w' => e = .returned (.agg b.toArray) ∧ Below w.heap.size w w'))
    (Q2 : Hid (∀ w : World, Env w → Calls Tryd.prog 31 #[.agg #[.int .u64 3, .int .u64 0, .int .u64 0, .int .u64 0]] w fun e w' => e = .returned (.agg t3.toArray) ∧ Below w.heap.size w w'))
    (Q3 : Hid (∀ w : World, Env w → Calls Tryd.prog 34 #[.agg b.toArray] w fun e w' => e = .returned (.agg d.toArray) ∧ Below w.heap.size w w'))
    (Q4 : Hid (∀ w : World, Env w → Calls Tryd.prog 28 #[.agg d.toArray, .agg b.toArray] w fun e w' => e = .returned (.agg t3b.toArray) ∧ Below w.heap.size w w'))
    (Q5 : Hid (∀ w : World, Calls Tryd.prog 18 #[.agg t3.toArray, .agg t3b.toArray] w fun e w' => e = .returned (.bool true) ∧ Below w.heap.size w w'))
    (Q6 : Hid (∀ w : World, Env w → Calls Tryd.prog 9 #[.agg #[.int .u64 0, .int .u64 0, .int .u64 0, .int .u64 0], .agg b.toArray] w fun e w' => e = .returned (.agg mz.toArray) ∧ Below w.heap.size w w'))
    (Q7 : Hid (∀ w : World, Calls Tryd.prog 33 #[] w fun e w' => e = .returned (.agg z.toArray) ∧ Below w.heap.size w w'))
    (Q8 : Hid (∀ w : World, Calls Tryd.prog 18 #[.agg mz.toArray, .agg z.toArray] w fun e w' => e = .returned (.bool true) ∧ Below w.heap.size w w'))
    (Q9 : Hid (∀ w : World, Calls Tryd.prog 33 #[] w fun e w' => e = .returned (.agg z.toArray) ∧ Below w.heap.size w w'))
    (Q10 : Hid (∀ w : World, Calls Tryd.prog 18 #[.agg b.toArray, .agg z.toArray] w fun e w' => e = .returned (.bool false) ∧ Below w.heap.size w w'))
    (w : World) (E_0 : Hid (Env w)) :
    Calls Tryd.prog 6 #[] w fun e w' => e = .returned (.bool true) ∧ Below w.heap.size w w' := by
  go_enter Tryd.func6, Tryd.ntmps6
  go_upto_region 1 with fail
  have HE := E_0.out.lt
  refine wp_cut (fun V => Env V ∧ Below w.heap.size w V) ⟨?_, ?_⟩ ?_
  · refine E_0.out.grown ?_
    (repeat (first | exact Below.refl _ _ | refine Below.drew ?_ | refine below_drewN ?_ _ | refine Below.alloc ?_ (by simp <;> omega) _))
  · (repeat (first | exact Below.refl _ _ | refine Below.drew ?_ | refine below_drewN ?_ _ | refine Below.alloc ?_ (by simp <;> omega) _))
  rintro w1 ⟨k0, k1⟩
  have E_1 := hid k0
  have G_1 := hid k1
  clear k0 k1 E_0
  go_wp2_with (fail)
  refine (Q1.out _ E_1.out).mono ?_
  rintro e w2 ⟨rfl, g0⟩
  have g := g0
  clear g0
  have E_2 := hid (E_1.out.grown g)
  have G_2 := hid (G_1.out.trans (g.mono G_1.out.size))
  clear g E_1 G_1
  have szB1 : w.heap.size ≤ w2.heap.size := G_2.out.size
  go_wp2_with (first | (refine list_store_new rfl 32 _ _ rfl w2 b [.int .u64 0, .int .u64 0, .int .u64 0, .int .u64 0, .int .u64 0, .int .u64 0, .int .u64 0, .int .u64 0, .int .u64 0, .int .u64 0, .int .u64 0, .int .u64 0, .int .u64 0, .int .u64 0, .int .u64 0, .int .u64 0, .int .u64 0, .int .u64 0, .int .u64 0, .int .u64 0] rfl rfl b_h.len b_h.is b_h.one (fun w3 hC g => ?_)) | fail)
  have B1_3 := hid hC
  have E_3 := hid (E_2.out.grown g)
  have G_3 := hid (G_2.out.trans (g.mono G_2.out.size))
  clear hC g E_2 G_2
  go_wp2_with fail
  have E_3' := hid (E_3.out.grown (Below.refl _ w3).drew)
  have K3 : At 32 w3.drew w2.heap.size b := B1_3.out.drew
  refine wp_region_held_drew (S := fun w' => At 32 w' w2.heap.size b) (by kernel_rfl) K3 (fun hHeld => ?_)
  clear K3
  refine h_take 0 (v := .agg #[.int .u64 3, .int .u64 0, .int .u64 0, .int .u64 0]) rfl (by kernel_rfl) (by kernel_rfl) (by kernel_rfl) (fun _ _ _ h => h) (by rfl) ?hyr2_0 (by assumption) ?_
  case hyr2_0 =>
    intro w' hSw
    clear hSw
    go_simp
  try simp only [Act.put, List.setIfInBounds_toArray, List.set_cons_zero, List.set_cons_succ]
  refine h_take 2 (v := .agg b.toArray) rfl (by kernel_rfl) (by kernel_rfl) (by kernel_rfl) (fun _ _ _ h => h) (by rfl) ?hyr2_2 (by assumption) ?_
  case hyr2_2 =>
    intro w' hSw
    exact load_run 32 _ rfl _ 0 rfl b _ (at_mid hSw 0 _ (by simp)) Tryd.underlying32 rfl b_h.il
  try simp only [Act.put, List.setIfInBounds_toArray, List.set_cons_zero, List.set_cons_succ]
  refine h_take 4 (v := .agg b.toArray) rfl (by kernel_rfl) (by kernel_rfl) (by kernel_rfl) (fun _ _ _ h => h) (by rfl) ?hyr2_4 (by assumption) ?_
  case hyr2_4 =>
    intro w' hSw
    exact load_run 32 _ rfl _ 0 rfl b _ (at_mid hSw 0 _ (by simp)) Tryd.underlying32 rfl b_h.il
  try simp only [Act.put, List.setIfInBounds_toArray, List.set_cons_zero, List.set_cons_succ]
  refine h_call 1 rfl (by kernel_rfl) (by rfl) (fun Kk hK => ?_)
  go_simp
  (refine (Q2.out _ E_3'.out).mono ?_)
  rintro e w4 ⟨rfl, g0⟩
  have g : Below w3.heap.size w3 w4 := (Below.refl _ w3).drew.trans g0
  clear g0
  have B1_4 := hid (B1_3.out.below g)
  have E_4 := hid (E_3.out.grown g)
  have G_4 := hid (G_3.out.trans (g.mono G_3.out.size))
  clear g B1_3 E_3 G_3
  clear E_3'
  have K4 := B1_4.out
  go_wp2_with fail
  clear hHeld
  refine hK.out _ _ K4 (fun hHeld => ?_)
  clear hK Kk K4
  try simp only [Act.put, List.setIfInBounds_toArray, List.set_cons_zero, List.set_cons_succ]
  refine h_call 3 rfl (by kernel_rfl) (by rfl) (fun Kk hK => ?_)
  go_simp
  (refine (Q3.out _ E_4.out).mono ?_)
  rintro e w5 ⟨rfl, g0⟩
  have g := g0
  clear g0
  have B1_5 := hid (B1_4.out.below g)
  have E_5 := hid (E_4.out.grown g)
  have G_5 := hid (G_4.out.trans (g.mono G_4.out.size))
  clear g B1_4 E_4 G_4
  have K5 := B1_5.out
  go_wp2_with fail
  clear hHeld
  refine hK.out _ _ K5 (fun hHeld => ?_)
  clear hK Kk K5
  try simp only [Act.put, List.setIfInBounds_toArray, List.set_cons_zero, List.set_cons_succ]
  refine h_call 5 rfl (by kernel_rfl) (by rfl) (fun Kk hK => ?_)
  go_simp
  (refine (Q4.out _ E_5.out).mono ?_)
  rintro e w6 ⟨rfl, g0⟩
  have g := g0
  clear g0
  have B1_6 := hid (B1_5.out.below g)
  have E_6 := hid (E_5.out.grown g)
  have G_6 := hid (G_5.out.trans (g.mono G_5.out.size))
  clear g B1_5 E_5 G_5
  have K6 := B1_6.out
  go_wp2_with fail
  clear hHeld
  refine hK.out _ _ K6 (fun hHeld => ?_)
  clear hK Kk K6
  try simp only [Act.put, List.setIfInBounds_toArray, List.set_cons_zero, List.set_cons_succ]
  refine h_call 6 rfl (by kernel_rfl) (by rfl) (fun Kk hK => ?_)
  go_simp
  (refine (Q5.out _).mono ?_)
  rintro e w7 ⟨rfl, g0⟩
  have g := g0
  clear g0
  have B1_7 := hid (B1_6.out.below g)
  have E_7 := hid (E_6.out.grown g)
  have G_7 := hid (G_6.out.trans (g.mono G_6.out.size))
  clear g B1_6 E_6 G_6
  have K7 := B1_7.out
  go_wp2_with fail
  clear hHeld
  refine hK.out _ _ K7 (fun hHeld => ?_)
  clear hK Kk K7
  try simp only [Act.put, List.setIfInBounds_toArray, List.set_cons_zero, List.set_cons_succ]
  refine h_take 7 (v := .bool true) rfl (by kernel_rfl) (by kernel_rfl) (by kernel_rfl) (fun _ _ _ h => h) (by rfl) ?hyr2_7 (by assumption) ?_
  case hyr2_7 =>
    intro w' hSw
    clear hSw
    go_simp
  try simp only [Act.put, List.setIfInBounds_toArray, List.set_cons_zero, List.set_cons_succ]
  refine h_take 8 (v := .agg #[.int .u64 0, .int .u64 0, .int .u64 0, .int .u64 0]) rfl (by kernel_rfl) (by kernel_rfl) (by kernel_rfl) (fun _ _ _ h => h) (by rfl) ?hyr2_8 (by assumption) ?_
  case hyr2_8 =>
    intro w' hSw
    clear hSw
    go_simp
  try simp only [Act.put, List.setIfInBounds_toArray, List.set_cons_zero, List.set_cons_succ]
  refine h_take 9 (v := .agg b.toArray) rfl (by kernel_rfl) (by kernel_rfl) (by kernel_rfl) (fun _ _ _ h => h) (by rfl) ?hyr2_9 (by assumption) ?_
  case hyr2_9 =>
    intro w' hSw
    exact load_run 32 _ rfl _ 0 rfl b _ (at_mid hSw 0 _ (by simp)) Tryd.underlying32 rfl b_h.il
  try simp only [Act.put, List.setIfInBounds_toArray, List.set_cons_zero, List.set_cons_succ]
  refine h_call 10 rfl (by kernel_rfl) (by rfl) (fun Kk hK => ?_)
  go_simp
  (refine (Q6.out _ E_7.out).mono ?_)
  rintro e w8 ⟨rfl, g0⟩
  have g := g0
  clear g0
  have B1_8 := hid (B1_7.out.below g)
  have E_8 := hid (E_7.out.grown g)
  have G_8 := hid (G_7.out.trans (g.mono G_7.out.size))
  clear g B1_7 E_7 G_7
  have K8 := B1_8.out
  go_wp2_with fail
  clear hHeld
  refine hK.out _ _ K8 (fun hHeld => ?_)
  clear hK Kk K8
  try simp only [Act.put, List.setIfInBounds_toArray, List.set_cons_zero, List.set_cons_succ]
  refine h_call 11 rfl (by kernel_rfl) (by rfl) (fun Kk hK => ?_)
  go_simp
  (refine (Q7.out _).mono ?_)
  rintro e w9 ⟨rfl, g0⟩
  have g := g0
  clear g0
  have B1_9 := hid (B1_8.out.below g)
  have E_9 := hid (E_8.out.grown g)
  have G_9 := hid (G_8.out.trans (g.mono G_8.out.size))
  clear g B1_8 E_8 G_8
  have K9 := B1_9.out
  go_wp2_with fail
  clear hHeld
  refine hK.out _ _ K9 (fun hHeld => ?_)
  clear hK Kk K9
  try simp only [Act.put, List.setIfInBounds_toArray, List.set_cons_zero, List.set_cons_succ]
  refine h_call 12 rfl (by kernel_rfl) (by rfl) (fun Kk hK => ?_)
  go_simp
  (refine (Q8.out _).mono ?_)
  rintro e w10 ⟨rfl, g0⟩
  have g := g0
  clear g0
  have B1_10 := hid (B1_9.out.below g)
  have E_10 := hid (E_9.out.grown g)
  have G_10 := hid (G_9.out.trans (g.mono G_9.out.size))
  clear g B1_9 E_9 G_9
  have K10 := B1_10.out
  go_wp2_with fail
  clear hHeld
  refine hK.out _ _ K10 (fun hHeld => ?_)
  clear hK Kk K10
  try simp only [Act.put, List.setIfInBounds_toArray, List.set_cons_zero, List.set_cons_succ]
  refine h_take 13 (v := .bool true) rfl (by kernel_rfl) (by kernel_rfl) (by kernel_rfl) (fun _ _ _ h => h) (by rfl) ?hyr2_13 (by assumption) ?_
  case hyr2_13 =>
    intro w' hSw
    clear hSw
    go_simp
  try simp only [Act.put, List.setIfInBounds_toArray, List.set_cons_zero, List.set_cons_succ]
  refine h_take 14 (v := .bool true) rfl (by kernel_rfl) (by kernel_rfl) (by kernel_rfl) (fun _ _ _ h => h) (by rfl) ?hyr2_14 (by assumption) ?_
  case hyr2_14 =>
    intro w' hSw
    clear hSw
    go_simp
  try simp only [Act.put, List.setIfInBounds_toArray, List.set_cons_zero, List.set_cons_succ]
  refine h_take 15 (v := .agg b.toArray) rfl (by kernel_rfl) (by kernel_rfl) (by kernel_rfl) (fun _ _ _ h => h) (by rfl) ?hyr2_15 (by assumption) ?_
  case hyr2_15 =>
    intro w' hSw
    exact load_run 32 _ rfl _ 0 rfl b _ (at_mid hSw 0 _ (by simp)) Tryd.underlying32 rfl b_h.il
  try simp only [Act.put, List.setIfInBounds_toArray, List.set_cons_zero, List.set_cons_succ]
  refine h_call 16 rfl (by kernel_rfl) (by rfl) (fun Kk hK => ?_)
  go_simp
  (refine (Q9.out _).mono ?_)
  rintro e w11 ⟨rfl, g0⟩
  have g := g0
  clear g0
  have B1_11 := hid (B1_10.out.below g)
  have E_11 := hid (E_10.out.grown g)
  have G_11 := hid (G_10.out.trans (g.mono G_10.out.size))
  clear g B1_10 E_10 G_10
  have K11 := B1_11.out
  go_wp2_with fail
  clear hHeld
  refine hK.out _ _ K11 (fun hHeld => ?_)
  clear hK Kk K11
  try simp only [Act.put, List.setIfInBounds_toArray, List.set_cons_zero, List.set_cons_succ]
  refine h_call 17 rfl (by kernel_rfl) (by rfl) (fun Kk hK => ?_)
  go_simp
  (refine (Q10.out _).mono ?_)
  rintro e w12 ⟨rfl, g0⟩
  have g := g0
  clear g0
  have B1_12 := hid (B1_11.out.below g)
  have E_12 := hid (E_11.out.grown g)
  have G_12 := hid (G_11.out.trans (g.mono G_11.out.size))
  clear g B1_11 E_11 G_11
  have K12 := B1_12.out
  go_wp2_with fail
  clear hHeld
  refine hK.out _ _ K12 (fun hHeld => ?_)
  clear hK Kk K12
  try simp only [Act.put, List.setIfInBounds_toArray, List.set_cons_zero, List.set_cons_succ]
  refine h_take 18 (v := .bool true) rfl (by kernel_rfl) (by kernel_rfl) (by kernel_rfl) (fun _ _ _ h => h) (by rfl) ?hyr2_18 (by assumption) ?_
  case hyr2_18 =>
    intro w' hSw
    clear hSw
    go_simp
  try simp only [Act.put, List.setIfInBounds_toArray, List.set_cons_zero, List.set_cons_succ]
  refine h_take 19 (v := .bool true) rfl (by kernel_rfl) (by kernel_rfl) (by kernel_rfl) (fun _ _ _ h => h) (by rfl) ?hyr2_19 (by assumption) ?_
  case hyr2_19 =>
    intro w' hSw
    clear hSw
    go_simp
  try simp only [Act.put, List.setIfInBounds_toArray, List.set_cons_zero, List.set_cons_succ]
  refine h_take 20 (v := .bool true) rfl (by kernel_rfl) (by kernel_rfl) (by kernel_rfl) (fun _ _ _ h => h) (by rfl) ?hyr2_20 (by assumption) ?_
  case hyr2_20 =>
    intro w' hSw
    clear hSw
    go_simp
  try simp only [Act.put, List.setIfInBounds_toArray, List.set_cons_zero, List.set_cons_succ]
  refine wpAnyH_done (by kernel_rfl) ?_ _
  clear hHeld
  go_wp2_with fail
  go_ret
  exact ⟨rfl, G_12.out⟩
end Go.Proofs.YtedhfimjcpbcpaaDoor.Ed

/-
  What the laws of layer 11 ask of the program alone: Of at any bytes, Same, awake, Order. Conditions: the package's variables are as the program lays them.
-/
namespace Go.Proofs.YtedhfimjcpbcpaaDoor.Ed
open Go.RowKit
set_option linter.unusedVariables false
set_option linter.unusedSimpArgs false

/-- What the program's Of makes of any bytes. -/
theorem ofF_any (l : List Nat) (hb : Bb l) : (∃ P, bytesOf P = l) ∨ ∃ c : P4, ∀ (v : Value) (w : World), SK .u8 w v l → Gd w → Gl w → Calls Tryd.prog 7 #[v] w fun e w' => e = .returned (.tuple #[.agg c.l.toArray, .bool false]) ∧ Below w.heap.size w w' := by
  by_cases h : ∃ P, bytesOf P = l
  · exact Or.inl h
  · exact Or.inr ⟨nilP, fun v w hs hD hZ => of_no_p l hb (fun P hP => h ⟨P, hP⟩) v w hs hD hZ⟩
theorem same_yes (p q : P4) (P Q : Pt) (hp : p.Is P) (hq : q.Is Q) (h : P = Q) : ∀ w : World, Calls Tryd.prog 18 #[.agg p.l.toArray, .agg q.l.toArray] w fun e w' => e = .returned (.bool true) ∧ Below w.heap.size w w' := by
  obtain ⟨b, hb, qb⟩ := same_p p q P Q hp hq
  rw [hb.2 h] at qb
  exact qb
theorem same_no (p q : P4) (P Q : Pt) (hp : p.Is P) (hq : q.Is Q) (h : ¬ P = Q) : ∀ w : World, Calls Tryd.prog 18 #[.agg p.l.toArray, .agg q.l.toArray] w fun e w' => e = .returned (.bool false) ∧ Below w.heap.size w w' := by
  obtain ⟨b, hb, qb⟩ := same_p p q P Q hp hq
  cases b with
  | true => exact absurd (hb.1 rfl) h
  | false => exact qb
theorem base_ne : ¬ baseP = Pt.zero := fun h => absurd ((S4.none_is _ _ base_is).2 h) (by decide +kernel)
theorem ws_3 : wv (ws 3) = [.int .u64 3, .int .u64 0, .int .u64 0, .int .u64 0] := by
  have h : ws 3 = [3, 0, 0, 0] := by decide +kernel
  rw [wv, h]
  rfl
theorem ws_0 : wv (ws 0) = [.int .u64 0, .int .u64 0, .int .u64 0, .int .u64 0] := by
  have h : ws 0 = [0, 0, 0, 0] := by decide +kernel
  rw [wv, h]
  rfl
theorem awake11 (w : World) (hE : Env w) : Calls Tryd.prog 6 #[] w fun e w' => e = .returned (.bool true) ∧ Below w.heap.size w w' := by
  obtain ⟨b, hb, qb⟩ := base_p
  obtain ⟨t, ht, qt⟩ := baseK_p 3 (by decide)
  obtain ⟨d, hd, qd⟩ := double_p b _ hb
  obtain ⟨s, hs, qs⟩ := add_p d b _ _ hd hb
  obtain ⟨m, hm, qm⟩ := mul_p b _ hb 0 (by decide)
  obtain ⟨z, hz, qz⟩ := zero_p
  rw [ws_3] at qt
  rw [ws_0] at qm
  have e3 : Pt.mul 3 baseP = (baseP.add baseP).add baseP := by rw [show (3 : Nat) = 2 + 1 from rfl, Pt.mul_next, mul_twice]
  exact awake11_w b.l t.l d.l s.l m.l z.l b.pl t.pl d.pl s.pl m.pl z.pl (fun w h => qb w h.u h.v) (fun w h => qt w h.u h.v h.t h.z.f) (fun w h => qd w h.z.f) (fun w h => qs w h.t h.z.f)
    (same_yes t s _ _ ht hs e3) (fun w h => qm w h.t h.z.f) qz (same_yes m z _ _ hm hz rfl) qz (same_no b z _ _ hb hz base_ne) w hE
end Go.Proofs.YtedhfimjcpbcpaaDoor.Ed
