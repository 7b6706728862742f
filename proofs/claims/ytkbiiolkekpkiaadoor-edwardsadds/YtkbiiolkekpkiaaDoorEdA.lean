/-
  The contracts of the document's own Add of layer 10. Conditions: as each theorem says.
-/
import Derived.Test.YtkbiiolkekpkiaaDoorEdR
import Derived.Test.YtkbiiolkekpkiaaDoorEdV
namespace Go.Proofs.YtkbiiolkekpkiaaDoor.Ed
open Go.RowKit
set_option linter.unusedVariables false
set_option linter.unusedSimpArgs false

theorem _root_.Go.Proofs.YtkbiiolkekpkiaaDoor.Num.oth10 {b : Nat} {w W : World} {v : Value} {N : Nat} (h : Num w v N) (ho : Oth b w W) (hv : Off b v) : Num W v N := by
  obtain ⟨l, h1, h2, h3, h4⟩ := h
  exact ⟨l, SK.oth (k := .i64) h1 ho hv, h2, h3, h4⟩
/-- A number's digits don't lie in a block that holds none. -/
theorem off_none {T : TypeId} {W : World} {b : Nat} {L : List Value} (hA : At T W b L) (hL : ∀ v ∈ L, ∀ z, v ≠ .int .i64 z) {v : Value} {N : Nat} (h : Num W v N) : Off b v := by
  intro a n c e hn x hx hb
  obtain ⟨l, h1, -, -, -⟩ := h
  have hs : SK .i64 W v l := h1
  rw [e] at hs
  obtain ⟨b', o, e2, -, -, hcell⟩ := hs.at (by omega)
  rw [e2] at hx
  cases hx
  simp only at hb
  subst hb
  have h0 := hcell 0 (by omega)
  rw [hA.cell] at h0
  exact hL _ (List.mem_of_getElem? h0) _ rfl
theorem no_ints (a b c : Option Addr) (n1 n2 n3 c1 c2 c3 : Nat) (t : Bool) : ∀ v ∈ [Value.slice a n1 c1, .slice b n2 c2, .slice c n3 c3, .bool t], ∀ z, v ≠ .int .i64 z := by
  intro v hv z
  simp only [List.mem_cons, List.not_mem_nil, or_false] at hv
  rcases hv with rfl | rfl | rfl | rfl <;> simp

set_option maxRecDepth 100000 in
set_option maxHeartbeats 8000000 in
theorem addD_pt (X1 Y1 Z1 X2 Y2 Z2 z zz xx yy s e m p c1 c2 c f X3 ga ha Y3 Z3 : Nat) (vx1 vy1 vz1 vx2 vy2 vz2 vd : Value) (t1 t2 : Bool) (w : World)
    (hx1 : Num w vx1 X1) (hy1 : Num w vy1 Y1) (hz1 : Num w vz1 Z1) (hx2 : Num w vx2 X2) (hy2 : Num w vy2 Y2) (hz2 : Num w vz2 Z2) (hd : Num w vd D25)
    (lx1 : X1 < P25) (ly1 : Y1 < P25) (lz1 : Z1 < P25) (lx2 : X2 < P25) (ly2 : Y2 < P25) (lz2 : Z2 < P25)
    (q_z : Z1 * Z2 % P25 = z) (q_zz : z * z % P25 = zz) (q_xx : X1 * X2 % P25 = xx) (q_yy : Y1 * Y2 % P25 = yy) (q_s : xx * yy % P25 = s) (q_e : D25 * s % P25 = e) (q_m : (zz + P25 - e) % P25 = m) (q_p : (zz + e) % P25 = p) (q_c1 : X1 * Y2 % P25 = c1) (q_c2 : Y1 * X2 % P25 = c2) (q_c : (c1 + c2) % P25 = c) (q_f : z * c % P25 = f) (q_X3 : f * m % P25 = X3) (q_ga : (yy + xx) % P25 = ga) (q_ha : z * ga % P25 = ha) (q_Y3 : ha * p % P25 = Y3) (q_Z3 : m * p % P25 = Z3) :
    Calls Tryd.prog 21 #[.agg #[vx1, vy1, vz1, .bool t1], .agg #[vx2, vy2, vz2, .bool t2], vd] w fun e w' => ∃ v1 v2 v3, e = .returned (.agg #[v1, v2, v3, .bool true]) ∧ Num w' v1 X3 ∧ Num w' v2 Y3 ∧ Num w' v3 Z3 ∧ Below w.heap.size w w' := by
  have E_z : Hid (Z1 * Z2 % P25 = z) := q_z
  have L_z : Hid (z < P25) := by rw [← q_z]; exact mod_P _
  have E_zz : Hid (z * z % P25 = zz) := q_zz
  have L_zz : Hid (zz < P25) := by rw [← q_zz]; exact mod_P _
  have E_xx : Hid (X1 * X2 % P25 = xx) := q_xx
  have L_xx : Hid (xx < P25) := by rw [← q_xx]; exact mod_P _
  have E_yy : Hid (Y1 * Y2 % P25 = yy) := q_yy
  have L_yy : Hid (yy < P25) := by rw [← q_yy]; exact mod_P _
  have E_s : Hid (xx * yy % P25 = s) := q_s
  have L_s : Hid (s < P25) := by rw [← q_s]; exact mod_P _
  have E_e : Hid (D25 * s % P25 = e) := q_e
  have L_e : Hid (e < P25) := by rw [← q_e]; exact mod_P _
  have E_m : Hid ((zz + P25 - e) % P25 = m) := q_m
  have L_m : Hid (m < P25) := by rw [← q_m]; exact mod_P _
  have E_p : Hid ((zz + e) % P25 = p) := q_p
  have L_p : Hid (p < P25) := by rw [← q_p]; exact mod_P _
  have E_c1 : Hid (X1 * Y2 % P25 = c1) := q_c1
  have L_c1 : Hid (c1 < P25) := by rw [← q_c1]; exact mod_P _
  have E_c2 : Hid (Y1 * X2 % P25 = c2) := q_c2
  have L_c2 : Hid (c2 < P25) := by rw [← q_c2]; exact mod_P _
  have E_c : Hid ((c1 + c2) % P25 = c) := q_c
  have L_c : Hid (c < P25) := by rw [← q_c]; exact mod_P _
  have E_f : Hid (z * c % P25 = f) := q_f
  have L_f : Hid (f < P25) := by rw [← q_f]; exact mod_P _
  have E_X3 : Hid (f * m % P25 = X3) := q_X3
  have L_X3 : Hid (X3 < P25) := by rw [← q_X3]; exact mod_P _
  have E_ga : Hid ((yy + xx) % P25 = ga) := q_ga
  have L_ga : Hid (ga < P25) := by rw [← q_ga]; exact mod_P _
  have E_ha : Hid (z * ga % P25 = ha) := q_ha
  have L_ha : Hid (ha < P25) := by rw [← q_ha]; exact mod_P _
  have E_Y3 : Hid (ha * p % P25 = Y3) := q_Y3
  have L_Y3 : Hid (Y3 < P25) := by rw [← q_Y3]; exact mod_P _
  have E_Z3 : Hid (m * p % P25 = Z3) := q_Z3
  have L_Z3 : Hid (Z3 < P25) := by rw [← q_Z3]; exact mod_P _
  have L_X1 : Hid (X1 < P25) := lx1
  obtain ⟨ax1, nx1, cx1, rfl⟩ := hx1.shape
  have L_Y1 : Hid (Y1 < P25) := ly1
  obtain ⟨ay1, ny1, cy1, rfl⟩ := hy1.shape
  have L_Z1 : Hid (Z1 < P25) := lz1
  obtain ⟨az1, nz1, cz1, rfl⟩ := hz1.shape
  have L_X2 : Hid (X2 < P25) := lx2
  obtain ⟨ax2, nx2, cx2, rfl⟩ := hx2.shape
  have L_Y2 : Hid (Y2 < P25) := ly2
  obtain ⟨ay2, ny2, cy2, rfl⟩ := hy2.shape
  have L_Z2 : Hid (Z2 < P25) := lz2
  obtain ⟨az2, nz2, cz2, rfl⟩ := hz2.shape
  obtain ⟨ad, nd, cd, rfl⟩ := hd.shape
  have kM : Hid (∀ (A B C : Nat) v v' W, A < P25 → B < P25 → A * B % P25 = C → Num W v A → Num W v' B → Calls Tryd.prog 44 #[v, v'] W fun e w' => ∃ u, e = .returned u ∧ Num w' u C ∧ Below W.heap.size W w') := fun A B C v v' W h1 h2 h3 h4 h5 => by rw [← h3]; exact mulD_num A B v v' W h4 h5 (lt11 h1) (lt11 h2)
  have kA : Hid (∀ (A B C : Nat) v v' W, A < P25 → B < P25 → (A + B) % P25 = C → Num W v A → Num W v' B → Calls Tryd.prog 47 #[v, v'] W fun e w' => ∃ u, e = .returned u ∧ Num w' u C ∧ Below W.heap.size W w') := fun A B C v v' W h1 h2 h3 h4 h5 => by rw [← h3]; exact addD_num A B v v' W h4 h5 (lt11 h1) (lt11 h2)
  have kS : Hid (∀ (A B C : Nat) v v' W, A < P25 → B < P25 → (A + P25 - B) % P25 = C → Num W v A → Num W v' B → Calls Tryd.prog 46 #[v, v'] W fun e w' => ∃ u, e = .returned u ∧ Num w' u C ∧ Below W.heap.size W w') := fun A B C v v' W h1 h2 h3 h4 h5 => by rw [← h3]; exact subD_num A B v v' W h4 h5 (lt11 h1) (by omega)
  have L_D : Hid (D25 < P25) := by unfold Hid; decide +kernel
  obtain ⟨w0, hw0⟩ : ∃ V, Hid ((((w.alloc (.cells #[.slice ax1 nx1 cx1, .slice ay1 ny1 cy1, .slice az1 nz1 cz1, .bool t1] 35)).alloc (.cells #[.slice ax2 nx2 cx2, .slice ay2 ny2 cy2, .slice az2 nz2 cz2, .bool t2] 35)).alloc (.cells #[.slice none 0 0, .slice none 0 0, .slice none 0 0, .bool false] 35)) = V) := ⟨_, rfl⟩
  have g0 : Below w.heap.size w w0 := by rw [← hw0.out]; exact (((Below.refl _ _).alloc (Nat.le_refl _) _).alloc (by simp) _).alloc (by simp; omega) _
  have G_0 : Hid (Below w.heap.size w w0) := g0
  have A_0 : Hid (At 35 w0 w.heap.size [.slice ax1 nx1 cx1, .slice ay1 ny1 cy1, .slice az1 nz1 cz1, .bool t1]) := by unfold Hid; rw [← hw0.out]; exact ((at_new 35 w [.slice ax1 nx1 cx1, .slice ay1 ny1 cy1, .slice az1 nz1 cz1, .bool t1]).below ((Below.refl _ _).alloc (Nat.le_refl _) _)).below ((Below.refl _ _).alloc (Nat.le_refl _) _)
  have B_0 : Hid (At 35 w0 (w.heap.size + 1) [.slice ax2 nx2 cx2, .slice ay2 ny2 cy2, .slice az2 nz2 cz2, .bool t2]) := by
    unfold Hid; rw [← hw0.out]
    have h := (at_new 35 (w.alloc (.cells #[.slice ax1 nx1 cx1, .slice ay1 ny1 cy1, .slice az1 nz1 cz1, .bool t1] 35)) [.slice ax2 nx2 cx2, .slice ay2 ny2 cy2, .slice az2 nz2 cz2, .bool t2]).below (W' := ((w.alloc (.cells #[.slice ax1 nx1 cx1, .slice ay1 ny1 cy1, .slice az1 nz1 cz1, .bool t1] 35)).alloc (.cells #[.slice ax2 nx2 cx2, .slice ay2 ny2 cy2, .slice az2 nz2 cz2, .bool t2] 35)).alloc (.cells #[.slice none 0 0, .slice none 0 0, .slice none 0 0, .bool false] 35)) ((Below.refl _ _).alloc (Nat.le_refl _) _)
    rwa [World.size_alloc] at h
  have C_0 : Hid (At 35 w0 (w.heap.size + 1 + 1) [.slice none 0 0, .slice none 0 0, .slice none 0 0, .bool false]) := by
    unfold Hid; rw [← hw0.out]
    have h := at_new 35 ((w.alloc (.cells #[.slice ax1 nx1 cx1, .slice ay1 ny1 cy1, .slice az1 nz1 cz1, .bool t1] 35)).alloc (.cells #[.slice ax2 nx2 cx2, .slice ay2 ny2 cy2, .slice az2 nz2 cz2, .bool t2] 35)) [.slice none 0 0, .slice none 0 0, .slice none 0 0, .bool false]
    rwa [World.size_alloc, World.size_alloc] at h
  have X1_0 : Hid (Num w0 (.slice ax1 nx1 cx1) X1) := hx1.below g0
  have Y1_0 : Hid (Num w0 (.slice ay1 ny1 cy1) Y1) := hy1.below g0
  have Z1_0 : Hid (Num w0 (.slice az1 nz1 cz1) Z1) := hz1.below g0
  have X2_0 : Hid (Num w0 (.slice ax2 nx2 cx2) X2) := hx2.below g0
  have Y2_0 : Hid (Num w0 (.slice ay2 ny2 cy2) Y2) := hy2.below g0
  have Z2_0 : Hid (Num w0 (.slice az2 nz2 cz2) Z2) := hz2.below g0
  have VD_0 : Hid (Num w0 (.slice ad nd cd) D25) := hd.below g0
  clear hx1 hy1 hz1 hx2 hy2 hz2 hd lx1 ly1 lz1 lx2 ly2 lz2 g0 q_z q_zz q_xx q_yy q_s q_e q_m q_p q_c1 q_c2 q_c q_f q_X3 q_ga q_ha q_Y3 q_Z3
  go_enter Tryd.func21, Tryd.ntmps21
  go_upto_region 1 with fail
  rw [hw0.out]
  clear hw0
  have cA0 := A_0.out.cell 0
  have cA1 := A_0.out.cell 1
  have cA2 := A_0.out.cell 2
  have cB0 := B_0.out.cell 0
  have cB1 := B_0.out.cell 1
  have cB2 := B_0.out.cell 2
  simp only [List.getElem?_cons_zero, List.getElem?_cons_succ] at cA0 cA1 cA2 cB0 cB1 cB2
  go_wp2_with fail
  refine (kM.out Z1 Z2 z _ _ _ L_Z1.out L_Z2.out E_z.out Z1_0.out Z2_0.out).mono ?_
  rintro e w1 ⟨v, rfl, hn, g⟩
  obtain ⟨Ea, Ec, Ed, rfl⟩ := hn.shape
  have E_1 : Hid (Num w1 (.slice Ea Ec Ed) (z)) := hn
  have X1_1 := hold (X1_0.out.below g)
  have Y1_1 := hold (Y1_0.out.below g)
  have Z1_1 := hold (Z1_0.out.below g)
  have X2_1 := hold (X2_0.out.below g)
  have Y2_1 := hold (Y2_0.out.below g)
  have Z2_1 := hold (Z2_0.out.below g)
  have VD_1 := hold (VD_0.out.below g)
  have A_1 := hold (A_0.out.below g)
  have B_1 := hold (B_0.out.below g)
  have C_1 := hold (C_0.out.below g)
  have G_1 := hold (G_0.out.trans (g.mono G_0.out.size))
  clear X1_0 Y1_0 Z1_0 X2_0 Y2_0 Z2_0 VD_0 A_0 B_0 C_0 G_0 hn g
  clear cA0 cA1 cA2 cB0 cB1 cB2
  go_wp2_with fail
  refine (kM.out z z zz _ _ _ L_z.out L_z.out E_zz.out E_1.out E_1.out).mono ?_
  rintro e w2 ⟨v, rfl, hn, g⟩
  obtain ⟨Fa, Fc, Fd, rfl⟩ := hn.shape
  have F_2 : Hid (Num w2 (.slice Fa Fc Fd) (zz)) := hn
  have X1_2 := hold (X1_1.out.below g)
  have Y1_2 := hold (Y1_1.out.below g)
  have Z1_2 := hold (Z1_1.out.below g)
  have X2_2 := hold (X2_1.out.below g)
  have Y2_2 := hold (Y2_1.out.below g)
  have Z2_2 := hold (Z2_1.out.below g)
  have VD_2 := hold (VD_1.out.below g)
  have A_2 := hold (A_1.out.below g)
  have B_2 := hold (B_1.out.below g)
  have C_2 := hold (C_1.out.below g)
  have E_2 := hold (E_1.out.below g)
  have G_2 := hold (G_1.out.trans (g.mono G_1.out.size))
  clear X1_1 Y1_1 Z1_1 X2_1 Y2_1 Z2_1 VD_1 A_1 B_1 C_1 E_1 G_1 hn g
  have cA0 := A_2.out.cell 0
  have cA1 := A_2.out.cell 1
  have cA2 := A_2.out.cell 2
  have cB0 := B_2.out.cell 0
  have cB1 := B_2.out.cell 1
  have cB2 := B_2.out.cell 2
  simp only [List.getElem?_cons_zero, List.getElem?_cons_succ] at cA0 cA1 cA2 cB0 cB1 cB2
  go_wp2_with fail
  refine (kM.out X1 X2 xx _ _ _ L_X1.out L_X2.out E_xx.out X1_2.out X2_2.out).mono ?_
  rintro e w3 ⟨v, rfl, hn, g⟩
  obtain ⟨Ha, Hc, Hd, rfl⟩ := hn.shape
  have H_3 : Hid (Num w3 (.slice Ha Hc Hd) (xx)) := hn
  have X1_3 := hold (X1_2.out.below g)
  have Y1_3 := hold (Y1_2.out.below g)
  have Z1_3 := hold (Z1_2.out.below g)
  have X2_3 := hold (X2_2.out.below g)
  have Y2_3 := hold (Y2_2.out.below g)
  have Z2_3 := hold (Z2_2.out.below g)
  have VD_3 := hold (VD_2.out.below g)
  have A_3 := hold (A_2.out.below g)
  have B_3 := hold (B_2.out.below g)
  have C_3 := hold (C_2.out.below g)
  have E_3 := hold (E_2.out.below g)
  have F_3 := hold (F_2.out.below g)
  have G_3 := hold (G_2.out.trans (g.mono G_2.out.size))
  clear X1_2 Y1_2 Z1_2 X2_2 Y2_2 Z2_2 VD_2 A_2 B_2 C_2 E_2 F_2 G_2 hn g
  clear cA0 cA1 cA2 cB0 cB1 cB2
  have cA0 := A_3.out.cell 0
  have cA1 := A_3.out.cell 1
  have cA2 := A_3.out.cell 2
  have cB0 := B_3.out.cell 0
  have cB1 := B_3.out.cell 1
  have cB2 := B_3.out.cell 2
  simp only [List.getElem?_cons_zero, List.getElem?_cons_succ] at cA0 cA1 cA2 cB0 cB1 cB2
  go_wp2_with fail
  refine (kM.out Y1 Y2 yy _ _ _ L_Y1.out L_Y2.out E_yy.out Y1_3.out Y2_3.out).mono ?_
  rintro e w4 ⟨v, rfl, hn, g⟩
  obtain ⟨Ia, Ic, Id, rfl⟩ := hn.shape
  have I_4 : Hid (Num w4 (.slice Ia Ic Id) (yy)) := hn
  have X1_4 := hold (X1_3.out.below g)
  have Y1_4 := hold (Y1_3.out.below g)
  have Z1_4 := hold (Z1_3.out.below g)
  have X2_4 := hold (X2_3.out.below g)
  have Y2_4 := hold (Y2_3.out.below g)
  have Z2_4 := hold (Z2_3.out.below g)
  have VD_4 := hold (VD_3.out.below g)
  have A_4 := hold (A_3.out.below g)
  have B_4 := hold (B_3.out.below g)
  have C_4 := hold (C_3.out.below g)
  have E_4 := hold (E_3.out.below g)
  have F_4 := hold (F_3.out.below g)
  have H_4 := hold (H_3.out.below g)
  have G_4 := hold (G_3.out.trans (g.mono G_3.out.size))
  clear X1_3 Y1_3 Z1_3 X2_3 Y2_3 Z2_3 VD_3 A_3 B_3 C_3 E_3 F_3 H_3 G_3 hn g
  clear cA0 cA1 cA2 cB0 cB1 cB2
  go_wp2_with fail
  refine (kM.out xx yy s _ _ _ L_xx.out L_yy.out E_s.out H_4.out I_4.out).mono ?_
  rintro e w5 ⟨v, rfl, hn, g⟩
  obtain ⟨Ja, Jc, Jd, rfl⟩ := hn.shape
  have J_5 : Hid (Num w5 (.slice Ja Jc Jd) (s)) := hn
  have X1_5 := hold (X1_4.out.below g)
  have Y1_5 := hold (Y1_4.out.below g)
  have Z1_5 := hold (Z1_4.out.below g)
  have X2_5 := hold (X2_4.out.below g)
  have Y2_5 := hold (Y2_4.out.below g)
  have Z2_5 := hold (Z2_4.out.below g)
  have VD_5 := hold (VD_4.out.below g)
  have A_5 := hold (A_4.out.below g)
  have B_5 := hold (B_4.out.below g)
  have C_5 := hold (C_4.out.below g)
  have E_5 := hold (E_4.out.below g)
  have F_5 := hold (F_4.out.below g)
  have H_5 := hold (H_4.out.below g)
  have I_5 := hold (I_4.out.below g)
  have G_5 := hold (G_4.out.trans (g.mono G_4.out.size))
  clear X1_4 Y1_4 Z1_4 X2_4 Y2_4 Z2_4 VD_4 A_4 B_4 C_4 E_4 F_4 H_4 I_4 G_4 hn g
  go_wp2_with fail
  refine (kM.out D25 s e _ _ _ L_D.out L_s.out E_e.out VD_5.out J_5.out).mono ?_
  rintro e w6 ⟨v, rfl, hn, g⟩
  obtain ⟨Ka, Kc, Kd, rfl⟩ := hn.shape
  have K_6 : Hid (Num w6 (.slice Ka Kc Kd) (e)) := hn
  have X1_6 := hold (X1_5.out.below g)
  have Y1_6 := hold (Y1_5.out.below g)
  have Z1_6 := hold (Z1_5.out.below g)
  have X2_6 := hold (X2_5.out.below g)
  have Y2_6 := hold (Y2_5.out.below g)
  have Z2_6 := hold (Z2_5.out.below g)
  have A_6 := hold (A_5.out.below g)
  have B_6 := hold (B_5.out.below g)
  have C_6 := hold (C_5.out.below g)
  have E_6 := hold (E_5.out.below g)
  have F_6 := hold (F_5.out.below g)
  have H_6 := hold (H_5.out.below g)
  have I_6 := hold (I_5.out.below g)
  have G_6 := hold (G_5.out.trans (g.mono G_5.out.size))
  clear X1_5 Y1_5 Z1_5 X2_5 Y2_5 Z2_5 VD_5 A_5 B_5 C_5 E_5 F_5 H_5 I_5 J_5 G_5 hn g
  go_wp2_with fail
  refine (kS.out zz e m _ _ _ L_zz.out L_e.out E_m.out F_6.out K_6.out).mono ?_
  rintro e w7 ⟨v, rfl, hn, g⟩
  obtain ⟨Ma, Mc, Md, rfl⟩ := hn.shape
  have M_7 : Hid (Num w7 (.slice Ma Mc Md) (m)) := hn
  have X1_7 := hold (X1_6.out.below g)
  have Y1_7 := hold (Y1_6.out.below g)
  have Z1_7 := hold (Z1_6.out.below g)
  have X2_7 := hold (X2_6.out.below g)
  have Y2_7 := hold (Y2_6.out.below g)
  have Z2_7 := hold (Z2_6.out.below g)
  have A_7 := hold (A_6.out.below g)
  have B_7 := hold (B_6.out.below g)
  have C_7 := hold (C_6.out.below g)
  have E_7 := hold (E_6.out.below g)
  have F_7 := hold (F_6.out.below g)
  have H_7 := hold (H_6.out.below g)
  have I_7 := hold (I_6.out.below g)
  have K_7 := hold (K_6.out.below g)
  have G_7 := hold (G_6.out.trans (g.mono G_6.out.size))
  clear X1_6 Y1_6 Z1_6 X2_6 Y2_6 Z2_6 A_6 B_6 C_6 E_6 F_6 H_6 I_6 K_6 G_6 hn g
  go_wp2_with fail
  refine (kA.out zz e p _ _ _ L_zz.out L_e.out E_p.out F_7.out K_7.out).mono ?_
  rintro e w8 ⟨v, rfl, hn, g⟩
  obtain ⟨Na, Nc, Nd, rfl⟩ := hn.shape
  have N_8 : Hid (Num w8 (.slice Na Nc Nd) (p)) := hn
  have X1_8 := hold (X1_7.out.below g)
  have Y1_8 := hold (Y1_7.out.below g)
  have Z1_8 := hold (Z1_7.out.below g)
  have X2_8 := hold (X2_7.out.below g)
  have Y2_8 := hold (Y2_7.out.below g)
  have Z2_8 := hold (Z2_7.out.below g)
  have A_8 := hold (A_7.out.below g)
  have B_8 := hold (B_7.out.below g)
  have C_8 := hold (C_7.out.below g)
  have E_8 := hold (E_7.out.below g)
  have H_8 := hold (H_7.out.below g)
  have I_8 := hold (I_7.out.below g)
  have M_8 := hold (M_7.out.below g)
  have G_8 := hold (G_7.out.trans (g.mono G_7.out.size))
  clear X1_7 Y1_7 Z1_7 X2_7 Y2_7 Z2_7 A_7 B_7 C_7 E_7 F_7 H_7 I_7 K_7 M_7 G_7 hn g
  go_wp2_with fail
  have KK : w8.drew.cell? ⟨w.heap.size, 0, none⟩ = some (.slice ax1 nx1 cx1) ∧ w8.drew.cell? ⟨w.heap.size, 1, none⟩ = some (.slice ay1 ny1 cy1) ∧ w8.drew.cell? ⟨w.heap.size + 1, 0, none⟩ = some (.slice ax2 nx2 cx2) ∧ w8.drew.cell? ⟨w.heap.size + 1, 1, none⟩ = some (.slice ay2 ny2 cy2) := ⟨A_8.out.cell 0, A_8.out.cell 1, B_8.out.cell 0, B_8.out.cell 1⟩
  refine wp_region_held_drew (S := fun w' => w'.cell? ⟨w.heap.size, 0, none⟩ = some (.slice ax1 nx1 cx1) ∧ w'.cell? ⟨w.heap.size, 1, none⟩ = some (.slice ay1 ny1 cy1) ∧ w'.cell? ⟨w.heap.size + 1, 0, none⟩ = some (.slice ax2 nx2 cx2) ∧ w'.cell? ⟨w.heap.size + 1, 1, none⟩ = some (.slice ay2 ny2 cy2)) (by kernel_rfl) KK (fun hHeld => ?_)
  refine h_take 0 (v := ?v0) rfl (by kernel_rfl) (by kernel_rfl) (by kernel_rfl) (fun _ _ _ h => h) (by rfl) ?hy0 (by assumption) ?_
  case hy0 =>
    intro w' hSw
    try dsimp only at hSw
    go_simp
    try with_reducible rfl
  try simp only [Act.put, List.setIfInBounds_toArray, List.set_cons_zero, List.set_cons_succ]
  refine h_take 1 (v := ?v1) rfl (by kernel_rfl) (by kernel_rfl) (by kernel_rfl) (fun _ _ _ h => h) (by rfl) ?hy1 (by assumption) ?_
  case hy1 =>
    intro w' hSw
    try dsimp only at hSw
    go_simp
    try with_reducible rfl
  try simp only [Act.put, List.setIfInBounds_toArray, List.set_cons_zero, List.set_cons_succ]
  refine h_take 2 (v := ?v2) rfl (by kernel_rfl) (by kernel_rfl) (by kernel_rfl) (fun _ _ _ h => h) (by rfl) ?hy2 (by assumption) ?_
  case hy2 =>
    intro w' hSw
    try dsimp only at hSw
    go_simp
    try with_reducible rfl
  try simp only [Act.put, List.setIfInBounds_toArray, List.set_cons_zero, List.set_cons_succ]
  refine h_take 3 (v := ?v3) rfl (by kernel_rfl) (by kernel_rfl) (by kernel_rfl) (fun _ _ _ h => h) (by rfl) ?hy3 (by assumption) ?_
  case hy3 =>
    intro w' hSw
    try dsimp only at hSw
    go_simp
    try with_reducible rfl
  try simp only [Act.put, List.setIfInBounds_toArray, List.set_cons_zero, List.set_cons_succ]
  refine h_take 5 (v := ?v5) rfl (by kernel_rfl) (by kernel_rfl) (by kernel_rfl) (fun _ _ _ h => h) (by rfl) ?hy5 (by assumption) ?_
  case hy5 =>
    intro w' hSw
    try dsimp only at hSw
    go_simp
    try with_reducible rfl
  try simp only [Act.put, List.setIfInBounds_toArray, List.set_cons_zero, List.set_cons_succ]
  refine h_take 6 (v := ?v6) rfl (by kernel_rfl) (by kernel_rfl) (by kernel_rfl) (fun _ _ _ h => h) (by rfl) ?hy6 (by assumption) ?_
  case hy6 =>
    intro w' hSw
    try dsimp only at hSw
    go_simp
    try with_reducible rfl
  try simp only [Act.put, List.setIfInBounds_toArray, List.set_cons_zero, List.set_cons_succ]
  refine h_take 7 (v := ?v7) rfl (by kernel_rfl) (by kernel_rfl) (by kernel_rfl) (fun _ _ _ h => h) (by rfl) ?hy7 (by assumption) ?_
  case hy7 =>
    intro w' hSw
    try dsimp only at hSw
    go_simp
    try with_reducible rfl
  try simp only [Act.put, List.setIfInBounds_toArray, List.set_cons_zero, List.set_cons_succ]
  refine h_take 8 (v := ?v8) rfl (by kernel_rfl) (by kernel_rfl) (by kernel_rfl) (fun _ _ _ h => h) (by rfl) ?hy8 (by assumption) ?_
  case hy8 =>
    intro w' hSw
    try dsimp only at hSw
    go_simp
    try with_reducible rfl
  try simp only [Act.put, List.setIfInBounds_toArray, List.set_cons_zero, List.set_cons_succ]
  refine h_call 4 rfl (by kernel_rfl) (by rfl) (fun Kk hK => ?_)
  go_simp
  refine (kM.out X1 Y2 c1 _ _ w8.drew L_X1.out L_Y2.out E_c1.out X1_8.out Y2_8.out).mono ?_
  rintro e w9 ⟨v, rfl, hn, g'⟩
  have g : Below w8.heap.size w8 w9 := (Below.refl _ w8).drew.trans g'
  obtain ⟨Oa, Oc, Od, rfl⟩ := hn.shape
  have O_9 : Hid (Num w9 (.slice Oa Oc Od) (c1)) := hn
  have X1_9 := hold (X1_8.out.below g)
  have Y1_9 := hold (Y1_8.out.below g)
  have Z1_9 := hold (Z1_8.out.below g)
  have X2_9 := hold (X2_8.out.below g)
  have Y2_9 := hold (Y2_8.out.below g)
  have Z2_9 := hold (Z2_8.out.below g)
  have A_9 := hold (A_8.out.below g)
  have B_9 := hold (B_8.out.below g)
  have C_9 := hold (C_8.out.below g)
  have E_9 := hold (E_8.out.below g)
  have H_9 := hold (H_8.out.below g)
  have I_9 := hold (I_8.out.below g)
  have M_9 := hold (M_8.out.below g)
  have N_9 := hold (N_8.out.below g)
  have G_9 := hold (G_8.out.trans (g.mono G_8.out.size))
  clear X1_8 Y1_8 Z1_8 X2_8 Y2_8 Z2_8 A_8 B_8 C_8 E_8 H_8 I_8 M_8 N_8 G_8 hn g g'
  have KK9 : w9.cell? ⟨w.heap.size, 0, none⟩ = some (.slice ax1 nx1 cx1) ∧ w9.cell? ⟨w.heap.size, 1, none⟩ = some (.slice ay1 ny1 cy1) ∧ w9.cell? ⟨w.heap.size + 1, 0, none⟩ = some (.slice ax2 nx2 cx2) ∧ w9.cell? ⟨w.heap.size + 1, 1, none⟩ = some (.slice ay2 ny2 cy2) := ⟨A_9.out.cell 0, A_9.out.cell 1, B_9.out.cell 0, B_9.out.cell 1⟩
  clear hHeld
  refine hK.out _ _ KK9 (fun hHeld => ?_)
  clear hK Kk
  try simp only [Act.put, List.setIfInBounds_toArray, List.set_cons_zero, List.set_cons_succ]
  refine h_call 9 rfl (by kernel_rfl) (by rfl) (fun Kk hK => ?_)
  go_simp
  refine (kM.out Y1 X2 c2 _ _ _ L_Y1.out L_X2.out E_c2.out Y1_9.out X2_9.out).mono ?_
  rintro e w10 ⟨v, rfl, hn, g'⟩
  have g : Below w9.heap.size w9 w10 := g'
  obtain ⟨Pa, Pc, Pd, rfl⟩ := hn.shape
  have P_10 : Hid (Num w10 (.slice Pa Pc Pd) (c2)) := hn
  have X1_10 := hold (X1_9.out.below g)
  have Y1_10 := hold (Y1_9.out.below g)
  have Z1_10 := hold (Z1_9.out.below g)
  have X2_10 := hold (X2_9.out.below g)
  have Y2_10 := hold (Y2_9.out.below g)
  have Z2_10 := hold (Z2_9.out.below g)
  have A_10 := hold (A_9.out.below g)
  have B_10 := hold (B_9.out.below g)
  have C_10 := hold (C_9.out.below g)
  have E_10 := hold (E_9.out.below g)
  have H_10 := hold (H_9.out.below g)
  have I_10 := hold (I_9.out.below g)
  have M_10 := hold (M_9.out.below g)
  have N_10 := hold (N_9.out.below g)
  have O_10 := hold (O_9.out.below g)
  have G_10 := hold (G_9.out.trans (g.mono G_9.out.size))
  clear X1_9 Y1_9 Z1_9 X2_9 Y2_9 Z2_9 A_9 B_9 C_9 E_9 H_9 I_9 M_9 N_9 O_9 G_9 hn g g'
  have KK10 : w10.cell? ⟨w.heap.size, 0, none⟩ = some (.slice ax1 nx1 cx1) ∧ w10.cell? ⟨w.heap.size, 1, none⟩ = some (.slice ay1 ny1 cy1) ∧ w10.cell? ⟨w.heap.size + 1, 0, none⟩ = some (.slice ax2 nx2 cx2) ∧ w10.cell? ⟨w.heap.size + 1, 1, none⟩ = some (.slice ay2 ny2 cy2) := ⟨A_10.out.cell 0, A_10.out.cell 1, B_10.out.cell 0, B_10.out.cell 1⟩
  clear hHeld
  refine hK.out _ _ KK10 (fun hHeld => ?_)
  clear hK Kk
  try simp only [Act.put, List.setIfInBounds_toArray, List.set_cons_zero, List.set_cons_succ]
  refine h_call 10 rfl (by kernel_rfl) (by rfl) (fun Kk hK => ?_)
  go_simp
  refine (kA.out c1 c2 c _ _ _ L_c1.out L_c2.out E_c.out O_10.out P_10.out).mono ?_
  rintro e w11 ⟨v, rfl, hn, g'⟩
  have g : Below w10.heap.size w10 w11 := g'
  obtain ⟨Qa, Qc, Qd, rfl⟩ := hn.shape
  have Q_11 : Hid (Num w11 (.slice Qa Qc Qd) (c)) := hn
  have X1_11 := hold (X1_10.out.below g)
  have Y1_11 := hold (Y1_10.out.below g)
  have Z1_11 := hold (Z1_10.out.below g)
  have X2_11 := hold (X2_10.out.below g)
  have Y2_11 := hold (Y2_10.out.below g)
  have Z2_11 := hold (Z2_10.out.below g)
  have A_11 := hold (A_10.out.below g)
  have B_11 := hold (B_10.out.below g)
  have C_11 := hold (C_10.out.below g)
  have E_11 := hold (E_10.out.below g)
  have H_11 := hold (H_10.out.below g)
  have I_11 := hold (I_10.out.below g)
  have M_11 := hold (M_10.out.below g)
  have N_11 := hold (N_10.out.below g)
  have O_11 := hold (O_10.out.below g)
  have P_11 := hold (P_10.out.below g)
  have G_11 := hold (G_10.out.trans (g.mono G_10.out.size))
  clear X1_10 Y1_10 Z1_10 X2_10 Y2_10 Z2_10 A_10 B_10 C_10 E_10 H_10 I_10 M_10 N_10 O_10 P_10 G_10 hn g g'
  have KK11 : w11.cell? ⟨w.heap.size, 0, none⟩ = some (.slice ax1 nx1 cx1) ∧ w11.cell? ⟨w.heap.size, 1, none⟩ = some (.slice ay1 ny1 cy1) ∧ w11.cell? ⟨w.heap.size + 1, 0, none⟩ = some (.slice ax2 nx2 cx2) ∧ w11.cell? ⟨w.heap.size + 1, 1, none⟩ = some (.slice ay2 ny2 cy2) := ⟨A_11.out.cell 0, A_11.out.cell 1, B_11.out.cell 0, B_11.out.cell 1⟩
  clear hHeld
  refine hK.out _ _ KK11 (fun hHeld => ?_)
  clear hK Kk
  try simp only [Act.put, List.setIfInBounds_toArray, List.set_cons_zero, List.set_cons_succ]
  refine h_take 11 (v := ?v11) rfl (by kernel_rfl) (by kernel_rfl) (by kernel_rfl) (fun _ _ _ h => h) (by rfl) ?hy11 (by assumption) ?_
  case hy11 =>
    intro w' hSw
    try dsimp only at hSw
    go_simp
    try with_reducible rfl
  try simp only [Act.put, List.setIfInBounds_toArray, List.set_cons_zero, List.set_cons_succ]
  refine wpAnyH_done (by kernel_rfl) ?_ _
  clear hHeld O_11 P_11 X1_11 Y1_11 Z1_11 X2_11 Y2_11 Z2_11 A_11 B_11
  go_wp2_with fail
  refine (kM.out z c f _ _ _ L_z.out L_c.out E_f.out E_11.out Q_11.out).mono ?_
  rintro e w12 ⟨v, rfl, hn, g⟩
  obtain ⟨Ra, Rc, Rd, rfl⟩ := hn.shape
  have R_12 : Hid (Num w12 (.slice Ra Rc Rd) (f)) := hn
  have C_12 := hold (C_11.out.below g)
  have E_12 := hold (E_11.out.below g)
  have H_12 := hold (H_11.out.below g)
  have I_12 := hold (I_11.out.below g)
  have M_12 := hold (M_11.out.below g)
  have N_12 := hold (N_11.out.below g)
  have G_12 := hold (G_11.out.trans (g.mono G_11.out.size))
  clear C_11 E_11 H_11 I_11 M_11 N_11 Q_11 G_11 hn g
  go_wp2_with fail
  refine (kM.out f m X3 _ _ _ L_f.out L_m.out E_X3.out R_12.out M_12.out).mono ?_
  rintro e w13 ⟨v, rfl, hn, g⟩
  obtain ⟨Ta, Tc, Td, rfl⟩ := hn.shape
  have T_13 : Hid (Num w13 (.slice Ta Tc Td) (X3)) := hn
  have C_13 := hold (C_12.out.below g)
  have E_13 := hold (E_12.out.below g)
  have H_13 := hold (H_12.out.below g)
  have I_13 := hold (I_12.out.below g)
  have M_13 := hold (M_12.out.below g)
  have N_13 := hold (N_12.out.below g)
  have G_13 := hold (G_12.out.trans (g.mono G_12.out.size))
  clear C_12 E_12 H_12 I_12 M_12 N_12 R_12 G_12 hn g
  go_wp2_with fail
  refine (kA.out yy xx ga _ _ _ L_yy.out L_xx.out E_ga.out I_13.out H_13.out).mono ?_
  rintro e w14 ⟨v, rfl, hn, g⟩
  obtain ⟨Ua, Uc, Ud, rfl⟩ := hn.shape
  have U_14 : Hid (Num w14 (.slice Ua Uc Ud) (ga)) := hn
  have C_14 := hold (C_13.out.below g)
  have E_14 := hold (E_13.out.below g)
  have M_14 := hold (M_13.out.below g)
  have N_14 := hold (N_13.out.below g)
  have T_14 := hold (T_13.out.below g)
  have G_14 := hold (G_13.out.trans (g.mono G_13.out.size))
  clear C_13 E_13 H_13 I_13 M_13 N_13 T_13 G_13 hn g
  go_wp2_with fail
  refine (kM.out z ga ha _ _ _ L_z.out L_ga.out E_ha.out E_14.out U_14.out).mono ?_
  rintro e w15 ⟨v, rfl, hn, g⟩
  obtain ⟨Va, Vc, Vd, rfl⟩ := hn.shape
  have V_15 : Hid (Num w15 (.slice Va Vc Vd) (ha)) := hn
  have C_15 := hold (C_14.out.below g)
  have M_15 := hold (M_14.out.below g)
  have N_15 := hold (N_14.out.below g)
  have T_15 := hold (T_14.out.below g)
  have G_15 := hold (G_14.out.trans (g.mono G_14.out.size))
  clear C_14 E_14 M_14 N_14 T_14 U_14 G_14 hn g
  go_wp2_with fail
  refine (kM.out ha p Y3 _ _ _ L_ha.out L_p.out E_Y3.out V_15.out N_15.out).mono ?_
  rintro e w16 ⟨v, rfl, hn, g⟩
  obtain ⟨Xa, Xc, Xd, rfl⟩ := hn.shape
  have X_16 : Hid (Num w16 (.slice Xa Xc Xd) (Y3)) := hn
  have C_16 := hold (C_15.out.below g)
  have M_16 := hold (M_15.out.below g)
  have N_16 := hold (N_15.out.below g)
  have T_16 := hold (T_15.out.below g)
  have G_16 := hold (G_15.out.trans (g.mono G_15.out.size))
  clear C_15 M_15 N_15 T_15 V_15 G_15 hn g
  go_wp2_with fail
  refine (kM.out m p Z3 _ _ _ L_m.out L_p.out E_Z3.out M_16.out N_16.out).mono ?_
  rintro e w17 ⟨v, rfl, hn, g⟩
  obtain ⟨Ya, Yc, Yd, rfl⟩ := hn.shape
  have Y_17 : Hid (Num w17 (.slice Ya Yc Yd) (Z3)) := hn
  have C_17 := hold (C_16.out.below g)
  have T_17 := hold (T_16.out.below g)
  have X_17 := hold (X_16.out.below g)
  have G_17 := hold (G_16.out.trans (g.mono G_16.out.size))
  clear C_16 M_16 N_16 T_16 X_16 G_16 hn g
  have r0 := C_17.out.cell 0
  have r1 := C_17.out.cell 1
  have r2 := C_17.out.cell 2
  have r3 := C_17.out.cell 3
  simp only [List.getElem?_cons_zero, List.getElem?_cons_succ] at r0 r1 r2 r3
  have s0 := C_17.out.free 0
  have s1 := C_17.out.free 1
  have s2 := C_17.out.free 2
  have s3 := C_17.out.free 3
  go_wp2_with fail
  clear r0 r1 r2 r3 s0 s1 s2 s3
  have o1 : Off (w.heap.size + 1 + 1) (.slice Ta Tc Td) := off_none C_17.out (no_ints _ _ _ _ _ _ _ _ _ _) T_17.out
  have o2 : Off (w.heap.size + 1 + 1) (.slice Xa Xc Xd) := off_none C_17.out (no_ints _ _ _ _ _ _ _ _ _ _) X_17.out
  have o3 : Off (w.heap.size + 1 + 1) (.slice Ya Yc Yd) := off_none C_17.out (no_ints _ _ _ _ _ _ _ _ _ _) Y_17.out
  have hF := ((((Oth.refl (w.heap.size + 1 + 1) w17).set 0 (.slice Ta Tc Td)).set 1 (.slice Xa Xc Xd)).set 2 (.slice Ya Yc Yd)).set 3 (.bool true)
  refine body_cut' (fun F => At 35 F (w.heap.size + 1 + 1) [.slice Ta Tc Td, .slice Xa Xc Xd, .slice Ya Yc Yd, .bool true] ∧ Num F (.slice Ta Tc Td) X3 ∧ Num F (.slice Xa Xc Xd) Y3 ∧ Num F (.slice Ya Yc Yd) Z3 ∧ Below w.heap.size w F)
    ⟨(((C_17.out.set 0 _).set 1 _).set 2 _).set 3 _, T_17.out.oth10 hF o1, X_17.out.oth10 hF o2, Y_17.out.oth10 hF o3, Oth.bel G_17.out hF (by omega)⟩ ?_
  rintro F ⟨hC, h1, h2, h3, hB⟩
  exact bodyPost_ret (v := .agg #[.slice Ta Tc Td, .slice Xa Xc Xd, .slice Ya Yc Yd, .bool true]) (results_mid (Tryd.results21) _ F (w.heap.size + 1 + 1) 0 [.slice Ta Tc Td, .slice Xa Xc Xd, .slice Ya Yc Yd, .bool true] _ rfl hC.range Tryd.underlying35 rfl (by kernel_rfl)) rfl ⟨_, _, _, rfl, h1, h2, h3, hB⟩
end Go.Proofs.YtkbiiolkekpkiaaDoor.Ed

/-
  The contracts of the document's own Add, Neg, Bytes of layer 10, of points of the curve. Conditions: as each theorem says.
-/
namespace Go.Proofs.YtkbiiolkekpkiaaDoor.Ed
open Go.RowKit
set_option linter.unusedVariables false
set_option linter.unusedSimpArgs false

/-- The value leads to numbers that stand for the point. -/
def Pm (W : World) (v : Value) (p : Pt) : Prop := ∃ vx vy vz X Y Z, v = .agg #[vx, vy, vz, .bool true] ∧ Num W vx X ∧ Num W vy Y ∧ Num W vz Z ∧ Rp X Y Z p
theorem Pm.below {W W' : World} {v : Value} {p : Pt} (h : Pm W v p) (hb : Below W.heap.size W W') : Pm W' v p := by
  obtain ⟨vx, vy, vz, X, Y, Z, e, h1, h2, h3, h4⟩ := h
  exact ⟨vx, vy, vz, X, Y, Z, e, h1.below hb, h2.below hb, h3.below hb, h4⟩
theorem add_pt (P Q : Pt) (v v' vd : Value) (w : World) (h : Pm w v P) (h' : Pm w v' Q) (hd : Num w vd D25) :
    Calls Tryd.prog 21 #[v, v', vd] w fun e w' => ∃ u, e = .returned u ∧ Pm w' u (P.add Q) ∧ Below w.heap.size w w' := by
  obtain ⟨vx1, vy1, vz1, X1, Y1, Z1, rfl, hx1, hy1, hz1, r1⟩ := h
  obtain ⟨vx2, vy2, vz2, X2, Y2, Z2, rfl, hx2, hy2, hz2, r2⟩ := h'
  have R1 := r1
  have R2 := r2
  obtain ⟨l1, l2, l3, -⟩ := r1
  obtain ⟨l4, l5, l6, -⟩ := r2
  refine (addD_pt X1 Y1 Z1 X2 Y2 Z2 _ _ _ _ _ _ _ _ _ _ _ _ _ _ _ _ _ vx1 vy1 vz1 vx2 vy2 vz2 vd true true w hx1 hy1 hz1 hx2 hy2 hz2 hd l1 l2 l3 l4 l5 l6 rfl rfl rfl rfl rfl rfl rfl rfl rfl rfl rfl rfl rfl rfl rfl rfl rfl).mono ?_
  rintro e w' ⟨v1, v2, v3, rfl, k1, k2, k3, g⟩
  exact ⟨_, rfl, ⟨v1, v2, v3, _, _, _, rfl, k1, k2, k3, rp_add X1 Y1 Z1 X2 Y2 Z2 _ _ _ _ _ _ _ _ _ _ _ _ _ _ _ _ _ P Q R1 R2 rfl rfl rfl rfl rfl rfl rfl rfl rfl rfl rfl rfl rfl rfl rfl rfl rfl⟩, g⟩

set_option maxRecDepth 100000 in
set_option maxHeartbeats 4000000 in
theorem negD_num (X Y Z : Nat) (vx vy vz : Value) (tb : Bool) (w : World) (hx : Num w vx X) (hy : Num w vy Y) (hz : Num w vz Z) (lx : X < P25) :
    Calls Tryd.prog 25 #[.agg #[vx, vy, vz, .bool tb]] w fun e w' => ∃ v1 v2 v3, e = .returned (.agg #[v1, v2, v3, .bool tb]) ∧ Num w' v1 ((0 + P25 - X) % P25) ∧ Num w' v2 Y ∧ Num w' v3 Z ∧ Below w.heap.size w w' := by
  have kS : Hid (∀ v W, Num W v X → Calls Tryd.prog 46 #[.slice none 0 0, v] W fun e w' => ∃ v, e = .returned v ∧ Num w' v ((0 + P25 - X) % P25) ∧ Below W.heap.size W w') := fun v W h => subD_num 0 X _ v W (num_none W) h (by decide +kernel) (by omega)
  obtain ⟨xa, xn, xc, rfl⟩ := hx.shape
  obtain ⟨ya, yn, yc, rfl⟩ := hy.shape
  obtain ⟨za, zn, zc, rfl⟩ := hz.shape
  obtain ⟨w0, hw0⟩ : ∃ V, Hid (((w.alloc (.cells #[.slice xa xn xc, .slice ya yn yc, .slice za zn zc, .bool tb] 35)).alloc (.cells #[.slice none 0 0, .slice none 0 0, .slice none 0 0, .bool false] 35)) = V) := ⟨_, rfl⟩
  have g0 : Below w.heap.size w w0 := by rw [← hw0.out]; exact ((Below.refl _ _).alloc (Nat.le_refl _) _).alloc (by simp) _
  have G0 : Hid (Below w.heap.size w w0) := g0
  have A0 : Hid (At 35 w0 w.heap.size [.slice xa xn xc, .slice ya yn yc, .slice za zn zc, .bool tb]) := by unfold Hid; rw [← hw0.out]; exact (at_new 35 w [.slice xa xn xc, .slice ya yn yc, .slice za zn zc, .bool tb]).below ((Below.refl _ _).alloc (Nat.le_refl _) _)
  have C0 : Hid (At 35 w0 (w.heap.size + 1) [.slice none 0 0, .slice none 0 0, .slice none 0 0, .bool false]) := by
    unfold Hid; rw [← hw0.out]
    have h := at_new 35 (w.alloc (.cells #[.slice xa xn xc, .slice ya yn yc, .slice za zn zc, .bool tb] 35)) [.slice none 0 0, .slice none 0 0, .slice none 0 0, .bool false]
    rwa [World.size_alloc] at h
  have X0 : Hid (Num w0 (.slice xa xn xc) X) := hx.below g0
  have Y0 : Hid (Num w0 (.slice ya yn yc) Y) := hy.below g0
  have Z0 : Hid (Num w0 (.slice za zn zc) Z) := hz.below g0
  have hK0 : w0.drew.cell? ⟨w.heap.size, 0, none⟩ = some (.slice xa xn xc) ∧ w0.drew.cell? ⟨w.heap.size, 1, none⟩ = some (.slice ya yn yc) ∧ w0.drew.cell? ⟨w.heap.size, 2, none⟩ = some (.slice za zn zc) ∧ w0.drew.cell? ⟨w.heap.size, 3, none⟩ = some (.bool tb) := ⟨A0.out.cell 0, A0.out.cell 1, A0.out.cell 2, A0.out.cell 3⟩
  clear hx hy hz lx g0
  go_enter Tryd.func25, Tryd.ntmps25
  go_upto_region 1 with fail
  rw [hw0.out]
  clear hw0
  refine wp_region_late (L := 10) (S := fun w' => w'.cell? ⟨w.heap.size, 0, none⟩ = some (.slice xa xn xc) ∧ w'.cell? ⟨w.heap.size, 1, none⟩ = some (.slice ya yn yc) ∧ w'.cell? ⟨w.heap.size, 2, none⟩ = some (.slice za zn zc) ∧ w'.cell? ⟨w.heap.size, 3, none⟩ = some (.bool tb)) (by kernel_rfl) hK0 (fun hHeld => ?_)
  refine l_take 0 (v := ?v0) rfl (by kernel_rfl) (by kernel_rfl) (by kernel_rfl) (by kernel_rfl) (fun _ _ _ h => h) (by rfl) ?hy0 (by assumption) ?_
  case hy0 =>
    intro w' hSw
    try dsimp only at hSw
    go_simp
    try with_reducible rfl
  try simp only [Act.put, List.setIfInBounds_toArray, List.set_cons_zero, List.set_cons_succ]
  refine l_take 1 (v := ?v1) rfl (by kernel_rfl) (by kernel_rfl) (by kernel_rfl) (by kernel_rfl) (fun _ _ _ h => h) (by rfl) ?hy1 (by assumption) ?_
  case hy1 =>
    intro w' hSw
    try dsimp only at hSw
    go_simp
    try with_reducible rfl
  try simp only [Act.put, List.setIfInBounds_toArray, List.set_cons_zero, List.set_cons_succ]
  refine l_take 3 (v := ?v3) rfl (by kernel_rfl) (by kernel_rfl) (by kernel_rfl) (by kernel_rfl) (fun _ _ _ h => h) (by rfl) ?hy3 (by assumption) ?_
  case hy3 =>
    intro w' hSw
    try dsimp only at hSw
    go_simp
    try with_reducible rfl
  try simp only [Act.put, List.setIfInBounds_toArray, List.set_cons_zero, List.set_cons_succ]
  refine l_take 4 (v := ?v4) rfl (by kernel_rfl) (by kernel_rfl) (by kernel_rfl) (by kernel_rfl) (fun _ _ _ h => h) (by rfl) ?hy4 (by assumption) ?_
  case hy4 =>
    intro w' hSw
    try dsimp only at hSw
    go_simp
    try with_reducible rfl
  try simp only [Act.put, List.setIfInBounds_toArray, List.set_cons_zero, List.set_cons_succ]
  refine l_take 5 (v := ?v5) rfl (by kernel_rfl) (by kernel_rfl) (by kernel_rfl) (by kernel_rfl) (fun _ _ _ h => h) (by rfl) ?hy5 (by assumption) ?_
  case hy5 =>
    intro w' hSw
    try dsimp only at hSw
    go_simp
    try with_reducible rfl
  try simp only [Act.put, List.setIfInBounds_toArray, List.set_cons_zero, List.set_cons_succ]
  refine l_take 6 (v := ?v6) rfl (by kernel_rfl) (by kernel_rfl) (by kernel_rfl) (by kernel_rfl) (fun _ _ _ h => h) (by rfl) ?hy6 (by assumption) ?_
  case hy6 =>
    intro w' hSw
    try dsimp only at hSw
    go_simp
    try with_reducible rfl
  try simp only [Act.put, List.setIfInBounds_toArray, List.set_cons_zero, List.set_cons_succ]
  refine l_take 7 (v := ?v7) rfl (by kernel_rfl) (by kernel_rfl) (by kernel_rfl) (by kernel_rfl) (fun _ _ _ h => h) (by rfl) ?hy7 (by assumption) ?_
  case hy7 =>
    intro w' hSw
    try dsimp only at hSw
    go_simp
    try with_reducible rfl
  try simp only [Act.put, List.setIfInBounds_toArray, List.set_cons_zero, List.set_cons_succ]
  refine l_take 8 (v := ?v8) rfl (by kernel_rfl) (by kernel_rfl) (by kernel_rfl) (by kernel_rfl) (fun _ _ _ h => h) (by rfl) ?hy8 (by assumption) ?_
  case hy8 =>
    intro w' hSw
    try dsimp only at hSw
    go_simp
    try with_reducible rfl
  try simp only [Act.put, List.setIfInBounds_toArray, List.set_cons_zero, List.set_cons_succ]
  refine l_call 2 rfl (by kernel_rfl) (by rfl) (fun Kk hK => ?_)
  go_simp
  refine (kS.out _ w0.drew X0.out).mono ?_
  rintro e w2 ⟨v2, rfl, hn2, g2'⟩
  have g2 : Below w0.heap.size w0 w2 := (Below.refl _ w0).drew.trans g2'
  clear g2'
  have A2 := hold (A0.out.below g2)
  have C2 := hold (C0.out.below g2)
  have X2 : Hid (Num w2 v2 ((0 + P25 - X) % P25)) := hn2
  have Y2 := hold (Y0.out.below g2)
  have Z2 := hold (Z0.out.below g2)
  have G2 := hold (G0.out.trans (g2.mono G0.out.size))
  have K2 : w2.cell? ⟨w.heap.size, 0, none⟩ = some (.slice xa xn xc) ∧ w2.cell? ⟨w.heap.size, 1, none⟩ = some (.slice ya yn yc) ∧ w2.cell? ⟨w.heap.size, 2, none⟩ = some (.slice za zn zc) ∧ w2.cell? ⟨w.heap.size, 3, none⟩ = some (.bool tb) := ⟨A2.out.cell 0, A2.out.cell 1, A2.out.cell 2, A2.out.cell 3⟩
  obtain ⟨a2, b2, d2, rfl⟩ := hn2.shape
  clear hn2 g2
  clear hHeld
  refine hK.out _ _ (Or.inr K2) ?_
  have hHeld := K2
  clear hK Kk
  try simp only [Act.put, List.setIfInBounds_toArray, List.set_cons_zero, List.set_cons_succ]
  refine l_take 9 (v := ?v9) rfl (by kernel_rfl) (by kernel_rfl) (by kernel_rfl) (by kernel_rfl) (fun _ _ _ h => h) (by rfl) ?hy9 (by assumption) ?_
  case hy9 =>
    intro w' hSw
    try dsimp only at hSw
    go_simp
    try with_reducible rfl
  try simp only [Act.put, List.setIfInBounds_toArray, List.set_cons_zero, List.set_cons_succ]
  refine l_call 10 rfl (by kernel_rfl) (by rfl) (fun Kk hK => ?_)
  have r0 := C2.out.cell 0
  have r1 := C2.out.cell 1
  have r2 := C2.out.cell 2
  have r3 := C2.out.cell 3
  simp only [List.getElem?_cons_zero, List.getElem?_cons_succ] at r0 r1 r2 r3
  have s0 := C2.out.free 0
  have s1 := C2.out.free 1
  have s2 := C2.out.free 2
  have s3 := C2.out.free 3
  go_simp
  refine hK.out _ _ (Or.inl rfl) ?_
  clear hK Kk
  try simp only [Act.put, List.setIfInBounds_toArray, List.set_cons_zero, List.set_cons_succ]
  refine l_done (by kernel_rfl) ?_ _
  clear r0 r1 r2 r3 s0 s1 s2 s3
  go_wp2_with fail
  have o1 : Off (w.heap.size + 1) (.slice a2 b2 d2) := off_none C2.out (no_ints _ _ _ _ _ _ _ _ _ _) X2.out
  have o2 : Off (w.heap.size + 1) (.slice ya yn yc) := off_none C2.out (no_ints _ _ _ _ _ _ _ _ _ _) Y2.out
  have o3 : Off (w.heap.size + 1) (.slice za zn zc) := off_none C2.out (no_ints _ _ _ _ _ _ _ _ _ _) Z2.out
  have hF := ((((Oth.refl (w.heap.size + 1) w2).set 0 (.slice a2 b2 d2)).set 1 (.slice ya yn yc)).set 2 (.slice za zn zc)).set 3 (.bool tb)
  refine body_cut' (fun F => At 35 F (w.heap.size + 1) [.slice a2 b2 d2, .slice ya yn yc, .slice za zn zc, .bool tb] ∧ Num F (.slice a2 b2 d2) ((0 + P25 - X) % P25) ∧ Num F (.slice ya yn yc) Y ∧ Num F (.slice za zn zc) Z ∧ Below w.heap.size w F)
    ⟨(((C2.out.set 0 _).set 1 _).set 2 _).set 3 _, X2.out.oth10 hF o1, Y2.out.oth10 hF o2, Z2.out.oth10 hF o3, Oth.bel G2.out hF (by omega)⟩ ?_
  rintro F ⟨hC, h1, h2, h3, hB⟩
  exact bodyPost_ret (v := .agg #[.slice a2 b2 d2, .slice ya yn yc, .slice za zn zc, .bool tb]) (results_mid (Tryd.results25) _ F (w.heap.size + 1) 0 [.slice a2 b2 d2, .slice ya yn yc, .slice za zn zc, .bool tb] _ rfl hC.range Tryd.underlying35 rfl (by kernel_rfl)) rfl ⟨_, _, _, rfl, h1, h2, h3, hB⟩
theorem neg_pt (P : Pt) (v : Value) (w : World) (h : Pm w v P) :
    Calls Tryd.prog 25 #[v] w fun e w' => ∃ u, e = .returned u ∧ Pm w' u P.neg ∧ Below w.heap.size w w' := by
  obtain ⟨vx, vy, vz, X, Y, Z, rfl, hx, hy, hz, r⟩ := h
  refine (negD_num X Y Z vx vy vz true w hx hy hz r.1).mono ?_
  rintro e w' ⟨v1, v2, v3, rfl, k1, k2, k3, g⟩
  exact ⟨_, rfl, ⟨v1, v2, v3, _, _, _, rfl, k1, k2, k3, rp_neg X Y Z P r⟩, g⟩

set_option maxRecDepth 100000 in
set_option maxHeartbeats 4000000 in
theorem zero_pt (w : World) :
    Calls Tryd.prog 29 #[] w fun e w' => ∃ u, e = .returned u ∧ Pm w' u Pt.zero ∧ Below w.heap.size w w' := by
  have C0 : Hid (At 35 (w.alloc (.cells #[.slice none 0 0, .slice none 0 0, .slice none 0 0, .bool false] 35)) w.heap.size [.slice none 0 0, .slice none 0 0, .slice none 0 0, .bool false]) := at_new 35 w [.slice none 0 0, .slice none 0 0, .slice none 0 0, .bool false]
  obtain ⟨w0, hw0⟩ : ∃ V, Hid ((w.alloc (.cells #[.slice none 0 0, .slice none 0 0, .slice none 0 0, .bool false] 35)) = V) := ⟨_, rfl⟩
  have g0 : Hid (Below w.heap.size w w0) := by unfold Hid; rw [← hw0.out]; exact (Below.refl _ _).alloc (Nat.le_refl _) _
  rw [hw0.out] at C0
  have gl : ∀ W : World, Below W.heap.size W (W.alloc (.cells #[.int .i64 1] 3)) := fun W => (Below.refl _ _).alloc (Nat.le_refl _) _
  have C2 : Hid (At 35 ((w0.alloc (.cells #[.int .i64 1] 3)).alloc (.cells #[.int .i64 1] 3)) w.heap.size [.slice none 0 0, .slice none 0 0, .slice none 0 0, .bool false]) := (C0.out.below (gl _)).below (gl _)
  have G2 : Hid (Below w.heap.size w ((w0.alloc (.cells #[.int .i64 1] 3)).alloc (.cells #[.int .i64 1] 3))) := (g0.out.trans ((gl _).mono g0.out.size)).trans ((gl _).mono (by have := g0.out.size; simp; omega))
  have Y2 : Hid (Num ((w0.alloc (.cells #[.int .i64 1] 3)).alloc (.cells #[.int .i64 1] 3)) (.slice (some ⟨w0.heap.size, 0, none⟩) 1 1) 1) := (num_lit w0 1 (by omega) (by omega)).below (gl _)
  have Z2 : Hid (Num ((w0.alloc (.cells #[.int .i64 1] 3)).alloc (.cells #[.int .i64 1] 3)) (.slice (some ⟨w0.heap.size + 1, 0, none⟩) 1 1) 1) := by
    have h := num_lit (w0.alloc (.cells #[.int .i64 1] 3)) 1 (by omega) (by omega)
    rwa [World.size_alloc] at h
  go_enter Tryd.func29, Tryd.ntmps29
  go_upto_region 1 with fail
  rw [hw0.out]
  clear hw0 g0 C0 gl
  have r0 := C2.out.cell 0
  have r1 := C2.out.cell 1
  have r2 := C2.out.cell 2
  have r3 := C2.out.cell 3
  simp only [List.getElem?_cons_zero, List.getElem?_cons_succ] at r0 r1 r2 r3
  have s0 := C2.out.free 0
  have s1 := C2.out.free 1
  have s2 := C2.out.free 2
  have s3 := C2.out.free 3
  go_wp2_with fail
  clear r0 r1 r2 r3 s0 s1 s2 s3
  obtain ⟨w2, hw2⟩ : ∃ V, Hid (((w0.alloc (.cells #[.int .i64 1] 3)).alloc (.cells #[.int .i64 1] 3)) = V) := ⟨_, rfl⟩
  rw [hw2.out] at C2 G2 Y2 Z2 ⊢
  have X2 : Num w2 (.slice none 0 0) 0 := num_none _
  have o2 : Off w.heap.size (.slice (some ⟨w0.heap.size, 0, none⟩) 1 1) := off_none C2.out (no_ints _ _ _ _ _ _ _ _ _ _) Y2.out
  have o3 : Off w.heap.size (.slice (some ⟨w0.heap.size + 1, 0, none⟩) 1 1) := off_none C2.out (no_ints _ _ _ _ _ _ _ _ _ _) Z2.out
  have hF := ((((Oth.refl w.heap.size w2).set 0 (.slice none 0 0)).set 1 (.slice (some ⟨w0.heap.size, 0, none⟩) 1 1)).set 2 (.slice (some ⟨w0.heap.size + 1, 0, none⟩) 1 1)).set 3 (.bool true)
  refine body_cut' (fun F => At 35 F w.heap.size [.slice none 0 0, .slice (some ⟨w0.heap.size, 0, none⟩) 1 1, .slice (some ⟨w0.heap.size + 1, 0, none⟩) 1 1, .bool true] ∧ Num F (.slice (some ⟨w0.heap.size, 0, none⟩) 1 1) 1 ∧ Num F (.slice (some ⟨w0.heap.size + 1, 0, none⟩) 1 1) 1 ∧ Below w.heap.size w F)
    ⟨(((C2.out.set 0 _).set 1 _).set 2 _).set 3 _, Y2.out.oth10 hF o2, Z2.out.oth10 hF o3, Oth.bel G2.out hF (Nat.le_refl _)⟩ ?_
  rintro F ⟨hC, h2, h3, hB⟩
  exact bodyPost_ret (v := .agg #[.slice none 0 0, .slice (some ⟨w0.heap.size, 0, none⟩) 1 1, .slice (some ⟨w0.heap.size + 1, 0, none⟩) 1 1, .bool true]) (results_mid (Tryd.results29) _ F w.heap.size 0 [.slice none 0 0, .slice (some ⟨w0.heap.size, 0, none⟩) 1 1, .slice (some ⟨w0.heap.size + 1, 0, none⟩) 1 1, .bool true] _ rfl hC.range Tryd.underlying35 rfl (by kernel_rfl)) rfl ⟨_, rfl, ⟨_, _, _, _, _, _, rfl, num_none _, h2, h3, rp_zero⟩, hB⟩
end Go.Proofs.YtkbiiolkekpkiaaDoor.Ed

/-
  The contracts of the document's own Same of layer 10. Conditions: as each theorem says.
-/
namespace Go.Proofs.YtkbiiolkekpkiaaDoor.Ed
open Go.RowKit
set_option linter.unusedVariables false
set_option linter.unusedSimpArgs false

set_option maxRecDepth 100000 in
set_option maxHeartbeats 8000000 in
theorem sameD_yes (X1 Y1 Z1 X2 Y2 Z2 p q r s : Nat) (vx1 vy1 vz1 vx2 vy2 vz2 : Value) (t1 t2 : Bool) (w : World)
    (hx1 : Num w vx1 X1) (hy1 : Num w vy1 Y1) (hz1 : Num w vz1 Z1) (hx2 : Num w vx2 X2) (hy2 : Num w vy2 Y2) (hz2 : Num w vz2 Z2)
    (lx1 : X1 < P25) (ly1 : Y1 < P25) (lz1 : Z1 < P25) (lx2 : X2 < P25) (ly2 : Y2 < P25) (lz2 : Z2 < P25)
    (q_p : X1 * Z2 % P25 = p) (q_q : X2 * Z1 % P25 = q) (q_r : Y1 * Z2 % P25 = r) (q_s : Y2 * Z1 % P25 = s) (hpq : p = q) :
    Calls Tryd.prog 28 #[.agg #[vx1, vy1, vz1, .bool t1], .agg #[vx2, vy2, vz2, .bool t2]] w fun e w' => e = .returned (.bool (decide (r = s))) ∧ Below w.heap.size w w' := by
  have E_p : Hid (X1 * Z2 % P25 = p) := q_p
  have L_p : Hid (p < P25) := by rw [← q_p]; exact mod_P _
  have E_q : Hid (X2 * Z1 % P25 = q) := q_q
  have L_q : Hid (q < P25) := by rw [← q_q]; exact mod_P _
  have E_r : Hid (Y1 * Z2 % P25 = r) := q_r
  have L_r : Hid (r < P25) := by rw [← q_r]; exact mod_P _
  have E_s : Hid (Y2 * Z1 % P25 = s) := q_s
  have L_s : Hid (s < P25) := by rw [← q_s]; exact mod_P _
  have L_X1 : Hid (X1 < P25) := lx1
  obtain ⟨ax1, nx1, cx1, rfl⟩ := hx1.shape
  have L_Y1 : Hid (Y1 < P25) := ly1
  obtain ⟨ay1, ny1, cy1, rfl⟩ := hy1.shape
  have L_Z1 : Hid (Z1 < P25) := lz1
  obtain ⟨az1, nz1, cz1, rfl⟩ := hz1.shape
  have L_X2 : Hid (X2 < P25) := lx2
  obtain ⟨ax2, nx2, cx2, rfl⟩ := hx2.shape
  have L_Y2 : Hid (Y2 < P25) := ly2
  obtain ⟨ay2, ny2, cy2, rfl⟩ := hy2.shape
  have L_Z2 : Hid (Z2 < P25) := lz2
  obtain ⟨az2, nz2, cz2, rfl⟩ := hz2.shape
  have kM : Hid (∀ (A B C : Nat) v v' W, A < P25 → B < P25 → A * B % P25 = C → Num W v A → Num W v' B → Calls Tryd.prog 44 #[v, v'] W fun e w' => ∃ u, e = .returned u ∧ Num w' u C ∧ Below W.heap.size W w') := fun A B C v v' W h1 h2 h3 h4 h5 => by rw [← h3]; exact mulD_num A B v v' W h4 h5 (lt11 h1) (lt11 h2)
  obtain ⟨w0, hw0⟩ : ∃ V, Hid (((w.alloc (.cells #[.slice ax1 nx1 cx1, .slice ay1 ny1 cy1, .slice az1 nz1 cz1, .bool t1] 35)).alloc (.cells #[.slice ax2 nx2 cx2, .slice ay2 ny2 cy2, .slice az2 nz2 cz2, .bool t2] 35)) = V) := ⟨_, rfl⟩
  have g0 : Below w.heap.size w w0 := by rw [← hw0.out]; exact ((Below.refl _ _).alloc (Nat.le_refl _) _).alloc (by simp) _
  have G_0 : Hid (Below w.heap.size w w0) := g0
  have A_0 : Hid (At 35 w0 w.heap.size [.slice ax1 nx1 cx1, .slice ay1 ny1 cy1, .slice az1 nz1 cz1, .bool t1]) := by unfold Hid; rw [← hw0.out]; exact (at_new 35 w [.slice ax1 nx1 cx1, .slice ay1 ny1 cy1, .slice az1 nz1 cz1, .bool t1]).below ((Below.refl _ _).alloc (Nat.le_refl _) _)
  have B_0 : Hid (At 35 w0 (w.heap.size + 1) [.slice ax2 nx2 cx2, .slice ay2 ny2 cy2, .slice az2 nz2 cz2, .bool t2]) := by
    unfold Hid; rw [← hw0.out]
    have h := at_new 35 (w.alloc (.cells #[.slice ax1 nx1 cx1, .slice ay1 ny1 cy1, .slice az1 nz1 cz1, .bool t1] 35)) [.slice ax2 nx2 cx2, .slice ay2 ny2 cy2, .slice az2 nz2 cz2, .bool t2]
    rwa [World.size_alloc] at h
  have X1_0 : Hid (Num w0 (.slice ax1 nx1 cx1) X1) := hx1.below g0
  have Y1_0 : Hid (Num w0 (.slice ay1 ny1 cy1) Y1) := hy1.below g0
  have Z1_0 : Hid (Num w0 (.slice az1 nz1 cz1) Z1) := hz1.below g0
  have X2_0 : Hid (Num w0 (.slice ax2 nx2 cx2) X2) := hx2.below g0
  have Y2_0 : Hid (Num w0 (.slice ay2 ny2 cy2) Y2) := hy2.below g0
  have Z2_0 : Hid (Num w0 (.slice az2 nz2 cz2) Z2) := hz2.below g0
  have hK0 : w0.drew.cell? ⟨w.heap.size, 0, none⟩ = some (.slice ax1 nx1 cx1) ∧ w0.drew.cell? ⟨w.heap.size, 1, none⟩ = some (.slice ay1 ny1 cy1) ∧ w0.drew.cell? ⟨w.heap.size, 2, none⟩ = some (.slice az1 nz1 cz1) ∧ w0.drew.cell? ⟨w.heap.size + 1, 0, none⟩ = some (.slice ax2 nx2 cx2) ∧ w0.drew.cell? ⟨w.heap.size + 1, 1, none⟩ = some (.slice ay2 ny2 cy2) ∧ w0.drew.cell? ⟨w.heap.size + 1, 2, none⟩ = some (.slice az2 nz2 cz2) := ⟨A_0.out.cell 0, A_0.out.cell 1, A_0.out.cell 2, B_0.out.cell 0, B_0.out.cell 1, B_0.out.cell 2⟩
  have hc1 : (ord (p : Int) (q : Int) == 0) = true := by rw [beq_iff_eq]; exact (ord_zero p q).2 hpq
  have hc2 : (ord (r : Int) (s : Int) == 0) = decide (r = s) := by
    rw [Bool.eq_iff_iff]
    simp only [beq_iff_eq, decide_eq_true_eq]
    exact ord_zero r s
  obtain ⟨T, hT⟩ : ∃ T, decide (r = s) = T := ⟨_, rfl⟩
  rw [hT] at hc2 ⊢
  clear hT
  clear hx1 hy1 hz1 hx2 hy2 hz2 lx1 ly1 lz1 lx2 ly2 lz2 g0 hpq q_p q_q q_r q_s
  go_enter Tryd.func28, Tryd.ntmps28
  go_upto_region 1 with fail
  rw [hw0.out]
  clear hw0
  refine wp_region_held_drew (S := fun w' => w'.cell? ⟨w.heap.size, 0, none⟩ = some (.slice ax1 nx1 cx1) ∧ w'.cell? ⟨w.heap.size, 1, none⟩ = some (.slice ay1 ny1 cy1) ∧ w'.cell? ⟨w.heap.size, 2, none⟩ = some (.slice az1 nz1 cz1) ∧ w'.cell? ⟨w.heap.size + 1, 0, none⟩ = some (.slice ax2 nx2 cx2) ∧ w'.cell? ⟨w.heap.size + 1, 1, none⟩ = some (.slice ay2 ny2 cy2) ∧ w'.cell? ⟨w.heap.size + 1, 2, none⟩ = some (.slice az2 nz2 cz2)) (by kernel_rfl) hK0 (fun hHeld => ?_)
  refine h_take 0 (v := ?v0) rfl (by kernel_rfl) (by kernel_rfl) (by kernel_rfl) (fun _ _ _ h => h) (by rfl) ?hy0 (by assumption) ?_
  case hy0 =>
    intro w' hSw
    try dsimp only at hSw
    go_simp
    try with_reducible rfl
  try simp only [Act.put, List.setIfInBounds_toArray, List.set_cons_zero, List.set_cons_succ]
  refine h_take 1 (v := ?v1) rfl (by kernel_rfl) (by kernel_rfl) (by kernel_rfl) (fun _ _ _ h => h) (by rfl) ?hy1 (by assumption) ?_
  case hy1 =>
    intro w' hSw
    try dsimp only at hSw
    go_simp
    try with_reducible rfl
  try simp only [Act.put, List.setIfInBounds_toArray, List.set_cons_zero, List.set_cons_succ]
  refine h_take 2 (v := ?v2) rfl (by kernel_rfl) (by kernel_rfl) (by kernel_rfl) (fun _ _ _ h => h) (by rfl) ?hy2 (by assumption) ?_
  case hy2 =>
    intro w' hSw
    try dsimp only at hSw
    go_simp
    try with_reducible rfl
  try simp only [Act.put, List.setIfInBounds_toArray, List.set_cons_zero, List.set_cons_succ]
  refine h_take 3 (v := ?v3) rfl (by kernel_rfl) (by kernel_rfl) (by kernel_rfl) (fun _ _ _ h => h) (by rfl) ?hy3 (by assumption) ?_
  case hy3 =>
    intro w' hSw
    try dsimp only at hSw
    go_simp
    try with_reducible rfl
  try simp only [Act.put, List.setIfInBounds_toArray, List.set_cons_zero, List.set_cons_succ]
  refine h_take 5 (v := ?v5) rfl (by kernel_rfl) (by kernel_rfl) (by kernel_rfl) (fun _ _ _ h => h) (by rfl) ?hy5 (by assumption) ?_
  case hy5 =>
    intro w' hSw
    try dsimp only at hSw
    go_simp
    try with_reducible rfl
  try simp only [Act.put, List.setIfInBounds_toArray, List.set_cons_zero, List.set_cons_succ]
  refine h_take 6 (v := ?v6) rfl (by kernel_rfl) (by kernel_rfl) (by kernel_rfl) (fun _ _ _ h => h) (by rfl) ?hy6 (by assumption) ?_
  case hy6 =>
    intro w' hSw
    try dsimp only at hSw
    go_simp
    try with_reducible rfl
  try simp only [Act.put, List.setIfInBounds_toArray, List.set_cons_zero, List.set_cons_succ]
  refine h_take 7 (v := ?v7) rfl (by kernel_rfl) (by kernel_rfl) (by kernel_rfl) (fun _ _ _ h => h) (by rfl) ?hy7 (by assumption) ?_
  case hy7 =>
    intro w' hSw
    try dsimp only at hSw
    go_simp
    try with_reducible rfl
  try simp only [Act.put, List.setIfInBounds_toArray, List.set_cons_zero, List.set_cons_succ]
  refine h_take 8 (v := ?v8) rfl (by kernel_rfl) (by kernel_rfl) (by kernel_rfl) (fun _ _ _ h => h) (by rfl) ?hy8 (by assumption) ?_
  case hy8 =>
    intro w' hSw
    try dsimp only at hSw
    go_simp
    try with_reducible rfl
  try simp only [Act.put, List.setIfInBounds_toArray, List.set_cons_zero, List.set_cons_succ]
  refine h_call 4 rfl (by kernel_rfl) (by rfl) (fun Kk hK => ?_)
  go_simp
  refine (kM.out X1 Z2 p _ _ w0.drew L_X1.out L_Z2.out E_p.out X1_0.out Z2_0.out).mono ?_
  rintro e w1 ⟨v, rfl, hn, g'⟩
  obtain ⟨Pa, Pc, Pd, rfl⟩ := hn.shape
  have g : Below w0.heap.size w0 w1 := (Below.refl _ w0).drew.trans g'
  have P_1 : Hid (Num w1 (.slice Pa Pc Pd) (p)) := hn
  have X1_1 := hold (X1_0.out.below g)
  have Y1_1 := hold (Y1_0.out.below g)
  have Z1_1 := hold (Z1_0.out.below g)
  have X2_1 := hold (X2_0.out.below g)
  have Y2_1 := hold (Y2_0.out.below g)
  have Z2_1 := hold (Z2_0.out.below g)
  have A_1 := hold (A_0.out.below g)
  have B_1 := hold (B_0.out.below g)
  have G_1 := hold (G_0.out.trans (g.mono G_0.out.size))
  have KK1 : w1.cell? ⟨w.heap.size, 0, none⟩ = some (.slice ax1 nx1 cx1) ∧ w1.cell? ⟨w.heap.size, 1, none⟩ = some (.slice ay1 ny1 cy1) ∧ w1.cell? ⟨w.heap.size, 2, none⟩ = some (.slice az1 nz1 cz1) ∧ w1.cell? ⟨w.heap.size + 1, 0, none⟩ = some (.slice ax2 nx2 cx2) ∧ w1.cell? ⟨w.heap.size + 1, 1, none⟩ = some (.slice ay2 ny2 cy2) ∧ w1.cell? ⟨w.heap.size + 1, 2, none⟩ = some (.slice az2 nz2 cz2) := ⟨A_1.out.cell 0, A_1.out.cell 1, A_1.out.cell 2, B_1.out.cell 0, B_1.out.cell 1, B_1.out.cell 2⟩
  clear X1_0 Y1_0 Z1_0 X2_0 Y2_0 Z2_0 A_0 B_0 G_0 hn g g'
  clear hHeld
  refine hK.out _ _ KK1 (fun hHeld => ?_)
  clear hK Kk
  try simp only [Act.put, List.setIfInBounds_toArray, List.set_cons_zero, List.set_cons_succ]
  refine h_call 9 rfl (by kernel_rfl) (by rfl) (fun Kk hK => ?_)
  go_simp
  refine (kM.out X2 Z1 q _ _ _ L_X2.out L_Z1.out E_q.out X2_1.out Z1_1.out).mono ?_
  rintro e w2 ⟨v, rfl, hn, g'⟩
  obtain ⟨Qa, Qc, Qd, rfl⟩ := hn.shape
  have g : Below w1.heap.size w1 w2 := g'
  have Q_2 : Hid (Num w2 (.slice Qa Qc Qd) (q)) := hn
  have X1_2 := hold (X1_1.out.below g)
  have Y1_2 := hold (Y1_1.out.below g)
  have Z1_2 := hold (Z1_1.out.below g)
  have X2_2 := hold (X2_1.out.below g)
  have Y2_2 := hold (Y2_1.out.below g)
  have Z2_2 := hold (Z2_1.out.below g)
  have A_2 := hold (A_1.out.below g)
  have B_2 := hold (B_1.out.below g)
  have P_2 := hold (P_1.out.below g)
  have G_2 := hold (G_1.out.trans (g.mono G_1.out.size))
  have KK2 : w2.cell? ⟨w.heap.size, 0, none⟩ = some (.slice ax1 nx1 cx1) ∧ w2.cell? ⟨w.heap.size, 1, none⟩ = some (.slice ay1 ny1 cy1) ∧ w2.cell? ⟨w.heap.size, 2, none⟩ = some (.slice az1 nz1 cz1) ∧ w2.cell? ⟨w.heap.size + 1, 0, none⟩ = some (.slice ax2 nx2 cx2) ∧ w2.cell? ⟨w.heap.size + 1, 1, none⟩ = some (.slice ay2 ny2 cy2) ∧ w2.cell? ⟨w.heap.size + 1, 2, none⟩ = some (.slice az2 nz2 cz2) := ⟨A_2.out.cell 0, A_2.out.cell 1, A_2.out.cell 2, B_2.out.cell 0, B_2.out.cell 1, B_2.out.cell 2⟩
  clear X1_1 Y1_1 Z1_1 X2_1 Y2_1 Z2_1 A_1 B_1 P_1 G_1 hn g g'
  clear hHeld
  refine hK.out _ _ KK2 (fun hHeld => ?_)
  clear hK Kk
  try simp only [Act.put, List.setIfInBounds_toArray, List.set_cons_zero, List.set_cons_succ]
  refine h_call 10 rfl (by kernel_rfl) (by rfl) (fun Kk hK => ?_)
  go_simp
  refine (cmp_num p q _ _ _ P_2.out Q_2.out 11 (lt11 L_p.out) (lt11 L_q.out) (by omega)).mono ?_
  rintro e w3 ⟨rfl, g'⟩
  have g : Below w2.heap.size w2 w3 := g'
  have X1_3 := hold (X1_2.out.below g)
  have Y1_3 := hold (Y1_2.out.below g)
  have Z1_3 := hold (Z1_2.out.below g)
  have X2_3 := hold (X2_2.out.below g)
  have Y2_3 := hold (Y2_2.out.below g)
  have Z2_3 := hold (Z2_2.out.below g)
  have A_3 := hold (A_2.out.below g)
  have B_3 := hold (B_2.out.below g)
  have G_3 := hold (G_2.out.trans (g.mono G_2.out.size))
  have KK3 : w3.cell? ⟨w.heap.size, 0, none⟩ = some (.slice ax1 nx1 cx1) ∧ w3.cell? ⟨w.heap.size, 1, none⟩ = some (.slice ay1 ny1 cy1) ∧ w3.cell? ⟨w.heap.size, 2, none⟩ = some (.slice az1 nz1 cz1) ∧ w3.cell? ⟨w.heap.size + 1, 0, none⟩ = some (.slice ax2 nx2 cx2) ∧ w3.cell? ⟨w.heap.size + 1, 1, none⟩ = some (.slice ay2 ny2 cy2) ∧ w3.cell? ⟨w.heap.size + 1, 2, none⟩ = some (.slice az2 nz2 cz2) := ⟨A_3.out.cell 0, A_3.out.cell 1, A_3.out.cell 2, B_3.out.cell 0, B_3.out.cell 1, B_3.out.cell 2⟩
  clear X1_2 Y1_2 Z1_2 X2_2 Y2_2 Z2_2 A_2 B_2 P_2 Q_2 G_2  g g'
  clear hHeld
  refine hK.out _ _ KK3 (fun hHeld => ?_)
  clear hK Kk
  try simp only [Act.put, List.setIfInBounds_toArray, List.set_cons_zero, List.set_cons_succ]
  refine h_take 11 (v := ?v11) rfl (by kernel_rfl) (by kernel_rfl) (by kernel_rfl) (fun _ _ _ h => h) (by rfl) ?hy11 (by assumption) ?_
  case hy11 =>
    intro w' hSw
    try dsimp only at hSw
    go_simp
    try with_reducible rfl
  try simp only [Act.put, List.setIfInBounds_toArray, List.set_cons_zero, List.set_cons_succ]
  refine h_take 12 (v := ?v12) rfl (by kernel_rfl) (by kernel_rfl) (by kernel_rfl) (fun _ _ _ h => h) (by rfl) ?hy12 (by assumption) ?_
  case hy12 =>
    intro w' hSw
    try dsimp only at hSw
    go_simp
    try with_reducible rfl
  try simp only [Act.put, List.setIfInBounds_toArray, List.set_cons_zero, List.set_cons_succ]
  refine h_take 13 (v := ?v13) rfl (by kernel_rfl) (by kernel_rfl) (by kernel_rfl) (fun _ _ _ h => h) (by rfl) ?hy13 (by assumption) ?_
  case hy13 =>
    intro w' hSw
    try dsimp only at hSw
    go_simp
    try with_reducible rfl
  try simp only [Act.put, List.setIfInBounds_toArray, List.set_cons_zero, List.set_cons_succ]
  refine h_take 14 (v := ?v14) rfl (by kernel_rfl) (by kernel_rfl) (by kernel_rfl) (fun _ _ _ h => h) (by rfl) ?hy14 (by assumption) ?_
  case hy14 =>
    intro w' hSw
    try dsimp only at hSw
    go_simp
    try with_reducible rfl
  try simp only [Act.put, List.setIfInBounds_toArray, List.set_cons_zero, List.set_cons_succ]
  refine h_take 15 (v := ?v15) rfl (by kernel_rfl) (by kernel_rfl) (by kernel_rfl) (fun _ _ _ h => h) (by rfl) ?hy15 (by assumption) ?_
  case hy15 =>
    intro w' hSw
    try dsimp only at hSw
    go_simp
    try with_reducible rfl
  try simp only [Act.put, List.setIfInBounds_toArray, List.set_cons_zero, List.set_cons_succ]
  refine h_take 16 (v := ?v16) rfl (by kernel_rfl) (by kernel_rfl) (by kernel_rfl) (fun _ _ _ h => h) (by rfl) ?hy16 (by assumption) ?_
  case hy16 =>
    intro w' hSw
    try dsimp only at hSw
    go_simp
    try with_reducible rfl
  try simp only [Act.put, List.setIfInBounds_toArray, List.set_cons_zero, List.set_cons_succ]
  refine h_take 18 (v := ?v18) rfl (by kernel_rfl) (by kernel_rfl) (by kernel_rfl) (fun _ _ _ h => h) (by rfl) ?hy18 (by assumption) ?_
  case hy18 =>
    intro w' hSw
    try dsimp only at hSw
    go_simp
    try with_reducible rfl
  try simp only [Act.put, List.setIfInBounds_toArray, List.set_cons_zero, List.set_cons_succ]
  refine h_take 19 (v := ?v19) rfl (by kernel_rfl) (by kernel_rfl) (by kernel_rfl) (fun _ _ _ h => h) (by rfl) ?hy19 (by assumption) ?_
  case hy19 =>
    intro w' hSw
    try dsimp only at hSw
    go_simp
    try with_reducible rfl
  try simp only [Act.put, List.setIfInBounds_toArray, List.set_cons_zero, List.set_cons_succ]
  refine h_take 20 (v := ?v20) rfl (by kernel_rfl) (by kernel_rfl) (by kernel_rfl) (fun _ _ _ h => h) (by rfl) ?hy20 (by assumption) ?_
  case hy20 =>
    intro w' hSw
    try dsimp only at hSw
    go_simp
    try with_reducible rfl
  try simp only [Act.put, List.setIfInBounds_toArray, List.set_cons_zero, List.set_cons_succ]
  refine h_take 21 (v := ?v21) rfl (by kernel_rfl) (by kernel_rfl) (by kernel_rfl) (fun _ _ _ h => h) (by rfl) ?hy21 (by assumption) ?_
  case hy21 =>
    intro w' hSw
    try dsimp only at hSw
    go_simp
    try with_reducible rfl
  try simp only [Act.put, List.setIfInBounds_toArray, List.set_cons_zero, List.set_cons_succ]
  refine h_call 17 rfl (by kernel_rfl) (by rfl) (fun Kk hK => ?_)
  go_simp
  refine (kM.out Y1 Z2 r _ _ _ L_Y1.out L_Z2.out E_r.out Y1_3.out Z2_3.out).mono ?_
  rintro e w4 ⟨v, rfl, hn, g'⟩
  obtain ⟨Ra, Rc, Rd, rfl⟩ := hn.shape
  have g : Below w3.heap.size w3 w4 := g'
  have R_4 : Hid (Num w4 (.slice Ra Rc Rd) (r)) := hn
  have X1_4 := hold (X1_3.out.below g)
  have Y1_4 := hold (Y1_3.out.below g)
  have Z1_4 := hold (Z1_3.out.below g)
  have X2_4 := hold (X2_3.out.below g)
  have Y2_4 := hold (Y2_3.out.below g)
  have Z2_4 := hold (Z2_3.out.below g)
  have A_4 := hold (A_3.out.below g)
  have B_4 := hold (B_3.out.below g)
  have G_4 := hold (G_3.out.trans (g.mono G_3.out.size))
  have KK4 : w4.cell? ⟨w.heap.size, 0, none⟩ = some (.slice ax1 nx1 cx1) ∧ w4.cell? ⟨w.heap.size, 1, none⟩ = some (.slice ay1 ny1 cy1) ∧ w4.cell? ⟨w.heap.size, 2, none⟩ = some (.slice az1 nz1 cz1) ∧ w4.cell? ⟨w.heap.size + 1, 0, none⟩ = some (.slice ax2 nx2 cx2) ∧ w4.cell? ⟨w.heap.size + 1, 1, none⟩ = some (.slice ay2 ny2 cy2) ∧ w4.cell? ⟨w.heap.size + 1, 2, none⟩ = some (.slice az2 nz2 cz2) := ⟨A_4.out.cell 0, A_4.out.cell 1, A_4.out.cell 2, B_4.out.cell 0, B_4.out.cell 1, B_4.out.cell 2⟩
  clear X1_3 Y1_3 Z1_3 X2_3 Y2_3 Z2_3 A_3 B_3 G_3 hn g g'
  clear hHeld
  refine hK.out _ _ KK4 (fun hHeld => ?_)
  clear hK Kk
  try simp only [Act.put, List.setIfInBounds_toArray, List.set_cons_zero, List.set_cons_succ]
  refine h_call 22 rfl (by kernel_rfl) (by rfl) (fun Kk hK => ?_)
  go_simp
  refine (kM.out Y2 Z1 s _ _ _ L_Y2.out L_Z1.out E_s.out Y2_4.out Z1_4.out).mono ?_
  rintro e w5 ⟨v, rfl, hn, g'⟩
  obtain ⟨Sa, Sc, Sd, rfl⟩ := hn.shape
  have g : Below w4.heap.size w4 w5 := g'
  have S_5 : Hid (Num w5 (.slice Sa Sc Sd) (s)) := hn
  have X1_5 := hold (X1_4.out.below g)
  have Y1_5 := hold (Y1_4.out.below g)
  have Z1_5 := hold (Z1_4.out.below g)
  have X2_5 := hold (X2_4.out.below g)
  have Y2_5 := hold (Y2_4.out.below g)
  have Z2_5 := hold (Z2_4.out.below g)
  have A_5 := hold (A_4.out.below g)
  have B_5 := hold (B_4.out.below g)
  have R_5 := hold (R_4.out.below g)
  have G_5 := hold (G_4.out.trans (g.mono G_4.out.size))
  have KK5 : w5.cell? ⟨w.heap.size, 0, none⟩ = some (.slice ax1 nx1 cx1) ∧ w5.cell? ⟨w.heap.size, 1, none⟩ = some (.slice ay1 ny1 cy1) ∧ w5.cell? ⟨w.heap.size, 2, none⟩ = some (.slice az1 nz1 cz1) ∧ w5.cell? ⟨w.heap.size + 1, 0, none⟩ = some (.slice ax2 nx2 cx2) ∧ w5.cell? ⟨w.heap.size + 1, 1, none⟩ = some (.slice ay2 ny2 cy2) ∧ w5.cell? ⟨w.heap.size + 1, 2, none⟩ = some (.slice az2 nz2 cz2) := ⟨A_5.out.cell 0, A_5.out.cell 1, A_5.out.cell 2, B_5.out.cell 0, B_5.out.cell 1, B_5.out.cell 2⟩
  clear X1_4 Y1_4 Z1_4 X2_4 Y2_4 Z2_4 A_4 B_4 R_4 G_4 hn g g'
  clear hHeld
  refine hK.out _ _ KK5 (fun hHeld => ?_)
  clear hK Kk
  try simp only [Act.put, List.setIfInBounds_toArray, List.set_cons_zero, List.set_cons_succ]
  refine h_call 23 rfl (by kernel_rfl) (by rfl) (fun Kk hK => ?_)
  go_simp
  refine (cmp_num r s _ _ _ R_5.out S_5.out 11 (lt11 L_r.out) (lt11 L_s.out) (by omega)).mono ?_
  rintro e w6 ⟨rfl, g'⟩
  have g : Below w5.heap.size w5 w6 := g'
  have X1_6 := hold (X1_5.out.below g)
  have Y1_6 := hold (Y1_5.out.below g)
  have Z1_6 := hold (Z1_5.out.below g)
  have X2_6 := hold (X2_5.out.below g)
  have Y2_6 := hold (Y2_5.out.below g)
  have Z2_6 := hold (Z2_5.out.below g)
  have A_6 := hold (A_5.out.below g)
  have B_6 := hold (B_5.out.below g)
  have G_6 := hold (G_5.out.trans (g.mono G_5.out.size))
  have KK6 : w6.cell? ⟨w.heap.size, 0, none⟩ = some (.slice ax1 nx1 cx1) ∧ w6.cell? ⟨w.heap.size, 1, none⟩ = some (.slice ay1 ny1 cy1) ∧ w6.cell? ⟨w.heap.size, 2, none⟩ = some (.slice az1 nz1 cz1) ∧ w6.cell? ⟨w.heap.size + 1, 0, none⟩ = some (.slice ax2 nx2 cx2) ∧ w6.cell? ⟨w.heap.size + 1, 1, none⟩ = some (.slice ay2 ny2 cy2) ∧ w6.cell? ⟨w.heap.size + 1, 2, none⟩ = some (.slice az2 nz2 cz2) := ⟨A_6.out.cell 0, A_6.out.cell 1, A_6.out.cell 2, B_6.out.cell 0, B_6.out.cell 1, B_6.out.cell 2⟩
  clear X1_5 Y1_5 Z1_5 X2_5 Y2_5 Z2_5 A_5 B_5 R_5 S_5 G_5  g g'
  clear hHeld
  refine hK.out _ _ KK6 (fun hHeld => ?_)
  clear hK Kk
  try simp only [Act.put, List.setIfInBounds_toArray, List.set_cons_zero, List.set_cons_succ]
  refine h_take 24 (v := ?v24) rfl (by kernel_rfl) (by kernel_rfl) (by kernel_rfl) (fun _ _ _ h => h) (by rfl) ?hy24 (by assumption) ?_
  case hy24 =>
    intro w' hSw
    try dsimp only at hSw
    go_simp
    try with_reducible rfl
  try simp only [Act.put, List.setIfInBounds_toArray, List.set_cons_zero, List.set_cons_succ]
  refine h_take 25 (v := ?v25) rfl (by kernel_rfl) (by kernel_rfl) (by kernel_rfl) (fun _ _ _ h => h) (by rfl) ?hy25 (by assumption) ?_
  case hy25 =>
    intro w' hSw
    try dsimp only at hSw
    go_simp
    try with_reducible rfl
  try simp only [Act.put, List.setIfInBounds_toArray, List.set_cons_zero, List.set_cons_succ]
  refine h_take 26 (v := ?v26) rfl (by kernel_rfl) (by kernel_rfl) (by kernel_rfl) (fun _ _ _ h => h) (by rfl) ?hy26 (by assumption) ?_
  case hy26 =>
    intro w' hSw
    try dsimp only at hSw
    go_simp
    try with_reducible rfl
  try simp only [Act.put, List.setIfInBounds_toArray, List.set_cons_zero, List.set_cons_succ]
  refine wpAnyH_done (by kernel_rfl) ?_ _
  clear hHeld
  go_wp2_with fail
  go_ret
  exact ⟨rfl, G_6.out⟩

set_option maxRecDepth 100000 in
set_option maxHeartbeats 8000000 in
theorem sameD_no (X1 Y1 Z1 X2 Y2 Z2 p q r s : Nat) (vx1 vy1 vz1 vx2 vy2 vz2 : Value) (t1 t2 : Bool) (w : World)
    (hx1 : Num w vx1 X1) (hy1 : Num w vy1 Y1) (hz1 : Num w vz1 Z1) (hx2 : Num w vx2 X2) (hy2 : Num w vy2 Y2) (hz2 : Num w vz2 Z2)
    (lx1 : X1 < P25) (ly1 : Y1 < P25) (lz1 : Z1 < P25) (lx2 : X2 < P25) (ly2 : Y2 < P25) (lz2 : Z2 < P25)
    (q_p : X1 * Z2 % P25 = p) (q_q : X2 * Z1 % P25 = q) (q_r : Y1 * Z2 % P25 = r) (q_s : Y2 * Z1 % P25 = s) (hpq : ¬ p = q) :
    Calls Tryd.prog 28 #[.agg #[vx1, vy1, vz1, .bool t1], .agg #[vx2, vy2, vz2, .bool t2]] w fun e w' => e = .returned (.bool (false)) ∧ Below w.heap.size w w' := by
  have E_p : Hid (X1 * Z2 % P25 = p) := q_p
  have L_p : Hid (p < P25) := by rw [← q_p]; exact mod_P _
  have E_q : Hid (X2 * Z1 % P25 = q) := q_q
  have L_q : Hid (q < P25) := by rw [← q_q]; exact mod_P _
  have E_r : Hid (Y1 * Z2 % P25 = r) := q_r
  have L_r : Hid (r < P25) := by rw [← q_r]; exact mod_P _
  have E_s : Hid (Y2 * Z1 % P25 = s) := q_s
  have L_s : Hid (s < P25) := by rw [← q_s]; exact mod_P _
  have L_X1 : Hid (X1 < P25) := lx1
  obtain ⟨ax1, nx1, cx1, rfl⟩ := hx1.shape
  have L_Y1 : Hid (Y1 < P25) := ly1
  obtain ⟨ay1, ny1, cy1, rfl⟩ := hy1.shape
  have L_Z1 : Hid (Z1 < P25) := lz1
  obtain ⟨az1, nz1, cz1, rfl⟩ := hz1.shape
  have L_X2 : Hid (X2 < P25) := lx2
  obtain ⟨ax2, nx2, cx2, rfl⟩ := hx2.shape
  have L_Y2 : Hid (Y2 < P25) := ly2
  obtain ⟨ay2, ny2, cy2, rfl⟩ := hy2.shape
  have L_Z2 : Hid (Z2 < P25) := lz2
  obtain ⟨az2, nz2, cz2, rfl⟩ := hz2.shape
  have kM : Hid (∀ (A B C : Nat) v v' W, A < P25 → B < P25 → A * B % P25 = C → Num W v A → Num W v' B → Calls Tryd.prog 44 #[v, v'] W fun e w' => ∃ u, e = .returned u ∧ Num w' u C ∧ Below W.heap.size W w') := fun A B C v v' W h1 h2 h3 h4 h5 => by rw [← h3]; exact mulD_num A B v v' W h4 h5 (lt11 h1) (lt11 h2)
  obtain ⟨w0, hw0⟩ : ∃ V, Hid (((w.alloc (.cells #[.slice ax1 nx1 cx1, .slice ay1 ny1 cy1, .slice az1 nz1 cz1, .bool t1] 35)).alloc (.cells #[.slice ax2 nx2 cx2, .slice ay2 ny2 cy2, .slice az2 nz2 cz2, .bool t2] 35)) = V) := ⟨_, rfl⟩
  have g0 : Below w.heap.size w w0 := by rw [← hw0.out]; exact ((Below.refl _ _).alloc (Nat.le_refl _) _).alloc (by simp) _
  have G_0 : Hid (Below w.heap.size w w0) := g0
  have A_0 : Hid (At 35 w0 w.heap.size [.slice ax1 nx1 cx1, .slice ay1 ny1 cy1, .slice az1 nz1 cz1, .bool t1]) := by unfold Hid; rw [← hw0.out]; exact (at_new 35 w [.slice ax1 nx1 cx1, .slice ay1 ny1 cy1, .slice az1 nz1 cz1, .bool t1]).below ((Below.refl _ _).alloc (Nat.le_refl _) _)
  have B_0 : Hid (At 35 w0 (w.heap.size + 1) [.slice ax2 nx2 cx2, .slice ay2 ny2 cy2, .slice az2 nz2 cz2, .bool t2]) := by
    unfold Hid; rw [← hw0.out]
    have h := at_new 35 (w.alloc (.cells #[.slice ax1 nx1 cx1, .slice ay1 ny1 cy1, .slice az1 nz1 cz1, .bool t1] 35)) [.slice ax2 nx2 cx2, .slice ay2 ny2 cy2, .slice az2 nz2 cz2, .bool t2]
    rwa [World.size_alloc] at h
  have X1_0 : Hid (Num w0 (.slice ax1 nx1 cx1) X1) := hx1.below g0
  have Y1_0 : Hid (Num w0 (.slice ay1 ny1 cy1) Y1) := hy1.below g0
  have Z1_0 : Hid (Num w0 (.slice az1 nz1 cz1) Z1) := hz1.below g0
  have X2_0 : Hid (Num w0 (.slice ax2 nx2 cx2) X2) := hx2.below g0
  have Y2_0 : Hid (Num w0 (.slice ay2 ny2 cy2) Y2) := hy2.below g0
  have Z2_0 : Hid (Num w0 (.slice az2 nz2 cz2) Z2) := hz2.below g0
  have hK0 : w0.drew.cell? ⟨w.heap.size, 0, none⟩ = some (.slice ax1 nx1 cx1) ∧ w0.drew.cell? ⟨w.heap.size, 1, none⟩ = some (.slice ay1 ny1 cy1) ∧ w0.drew.cell? ⟨w.heap.size, 2, none⟩ = some (.slice az1 nz1 cz1) ∧ w0.drew.cell? ⟨w.heap.size + 1, 0, none⟩ = some (.slice ax2 nx2 cx2) ∧ w0.drew.cell? ⟨w.heap.size + 1, 1, none⟩ = some (.slice ay2 ny2 cy2) ∧ w0.drew.cell? ⟨w.heap.size + 1, 2, none⟩ = some (.slice az2 nz2 cz2) := ⟨A_0.out.cell 0, A_0.out.cell 1, A_0.out.cell 2, B_0.out.cell 0, B_0.out.cell 1, B_0.out.cell 2⟩
  have hc1 : (ord (p : Int) (q : Int) == 0) = false := by rw [beq_eq_false_iff_ne]; exact fun h => hpq ((ord_zero p q).1 h)
  clear hx1 hy1 hz1 hx2 hy2 hz2 lx1 ly1 lz1 lx2 ly2 lz2 g0 hpq q_p q_q q_r q_s
  go_enter Tryd.func28, Tryd.ntmps28
  go_upto_region 1 with fail
  rw [hw0.out]
  clear hw0
  refine wp_region_held_drew (S := fun w' => w'.cell? ⟨w.heap.size, 0, none⟩ = some (.slice ax1 nx1 cx1) ∧ w'.cell? ⟨w.heap.size, 1, none⟩ = some (.slice ay1 ny1 cy1) ∧ w'.cell? ⟨w.heap.size, 2, none⟩ = some (.slice az1 nz1 cz1) ∧ w'.cell? ⟨w.heap.size + 1, 0, none⟩ = some (.slice ax2 nx2 cx2) ∧ w'.cell? ⟨w.heap.size + 1, 1, none⟩ = some (.slice ay2 ny2 cy2) ∧ w'.cell? ⟨w.heap.size + 1, 2, none⟩ = some (.slice az2 nz2 cz2)) (by kernel_rfl) hK0 (fun hHeld => ?_)
  refine h_take 0 (v := ?v0) rfl (by kernel_rfl) (by kernel_rfl) (by kernel_rfl) (fun _ _ _ h => h) (by rfl) ?hy0 (by assumption) ?_
  case hy0 =>
    intro w' hSw
    try dsimp only at hSw
    go_simp
    try with_reducible rfl
  try simp only [Act.put, List.setIfInBounds_toArray, List.set_cons_zero, List.set_cons_succ]
  refine h_take 1 (v := ?v1) rfl (by kernel_rfl) (by kernel_rfl) (by kernel_rfl) (fun _ _ _ h => h) (by rfl) ?hy1 (by assumption) ?_
  case hy1 =>
    intro w' hSw
    try dsimp only at hSw
    go_simp
    try with_reducible rfl
  try simp only [Act.put, List.setIfInBounds_toArray, List.set_cons_zero, List.set_cons_succ]
  refine h_take 2 (v := ?v2) rfl (by kernel_rfl) (by kernel_rfl) (by kernel_rfl) (fun _ _ _ h => h) (by rfl) ?hy2 (by assumption) ?_
  case hy2 =>
    intro w' hSw
    try dsimp only at hSw
    go_simp
    try with_reducible rfl
  try simp only [Act.put, List.setIfInBounds_toArray, List.set_cons_zero, List.set_cons_succ]
  refine h_take 3 (v := ?v3) rfl (by kernel_rfl) (by kernel_rfl) (by kernel_rfl) (fun _ _ _ h => h) (by rfl) ?hy3 (by assumption) ?_
  case hy3 =>
    intro w' hSw
    try dsimp only at hSw
    go_simp
    try with_reducible rfl
  try simp only [Act.put, List.setIfInBounds_toArray, List.set_cons_zero, List.set_cons_succ]
  refine h_take 5 (v := ?v5) rfl (by kernel_rfl) (by kernel_rfl) (by kernel_rfl) (fun _ _ _ h => h) (by rfl) ?hy5 (by assumption) ?_
  case hy5 =>
    intro w' hSw
    try dsimp only at hSw
    go_simp
    try with_reducible rfl
  try simp only [Act.put, List.setIfInBounds_toArray, List.set_cons_zero, List.set_cons_succ]
  refine h_take 6 (v := ?v6) rfl (by kernel_rfl) (by kernel_rfl) (by kernel_rfl) (fun _ _ _ h => h) (by rfl) ?hy6 (by assumption) ?_
  case hy6 =>
    intro w' hSw
    try dsimp only at hSw
    go_simp
    try with_reducible rfl
  try simp only [Act.put, List.setIfInBounds_toArray, List.set_cons_zero, List.set_cons_succ]
  refine h_take 7 (v := ?v7) rfl (by kernel_rfl) (by kernel_rfl) (by kernel_rfl) (fun _ _ _ h => h) (by rfl) ?hy7 (by assumption) ?_
  case hy7 =>
    intro w' hSw
    try dsimp only at hSw
    go_simp
    try with_reducible rfl
  try simp only [Act.put, List.setIfInBounds_toArray, List.set_cons_zero, List.set_cons_succ]
  refine h_take 8 (v := ?v8) rfl (by kernel_rfl) (by kernel_rfl) (by kernel_rfl) (fun _ _ _ h => h) (by rfl) ?hy8 (by assumption) ?_
  case hy8 =>
    intro w' hSw
    try dsimp only at hSw
    go_simp
    try with_reducible rfl
  try simp only [Act.put, List.setIfInBounds_toArray, List.set_cons_zero, List.set_cons_succ]
  refine h_call 4 rfl (by kernel_rfl) (by rfl) (fun Kk hK => ?_)
  go_simp
  refine (kM.out X1 Z2 p _ _ w0.drew L_X1.out L_Z2.out E_p.out X1_0.out Z2_0.out).mono ?_
  rintro e w1 ⟨v, rfl, hn, g'⟩
  obtain ⟨Pa, Pc, Pd, rfl⟩ := hn.shape
  have g : Below w0.heap.size w0 w1 := (Below.refl _ w0).drew.trans g'
  have P_1 : Hid (Num w1 (.slice Pa Pc Pd) (p)) := hn
  have X1_1 := hold (X1_0.out.below g)
  have Y1_1 := hold (Y1_0.out.below g)
  have Z1_1 := hold (Z1_0.out.below g)
  have X2_1 := hold (X2_0.out.below g)
  have Y2_1 := hold (Y2_0.out.below g)
  have Z2_1 := hold (Z2_0.out.below g)
  have A_1 := hold (A_0.out.below g)
  have B_1 := hold (B_0.out.below g)
  have G_1 := hold (G_0.out.trans (g.mono G_0.out.size))
  have KK1 : w1.cell? ⟨w.heap.size, 0, none⟩ = some (.slice ax1 nx1 cx1) ∧ w1.cell? ⟨w.heap.size, 1, none⟩ = some (.slice ay1 ny1 cy1) ∧ w1.cell? ⟨w.heap.size, 2, none⟩ = some (.slice az1 nz1 cz1) ∧ w1.cell? ⟨w.heap.size + 1, 0, none⟩ = some (.slice ax2 nx2 cx2) ∧ w1.cell? ⟨w.heap.size + 1, 1, none⟩ = some (.slice ay2 ny2 cy2) ∧ w1.cell? ⟨w.heap.size + 1, 2, none⟩ = some (.slice az2 nz2 cz2) := ⟨A_1.out.cell 0, A_1.out.cell 1, A_1.out.cell 2, B_1.out.cell 0, B_1.out.cell 1, B_1.out.cell 2⟩
  clear X1_0 Y1_0 Z1_0 X2_0 Y2_0 Z2_0 A_0 B_0 G_0 hn g g'
  clear hHeld
  refine hK.out _ _ KK1 (fun hHeld => ?_)
  clear hK Kk
  try simp only [Act.put, List.setIfInBounds_toArray, List.set_cons_zero, List.set_cons_succ]
  refine h_call 9 rfl (by kernel_rfl) (by rfl) (fun Kk hK => ?_)
  go_simp
  refine (kM.out X2 Z1 q _ _ _ L_X2.out L_Z1.out E_q.out X2_1.out Z1_1.out).mono ?_
  rintro e w2 ⟨v, rfl, hn, g'⟩
  obtain ⟨Qa, Qc, Qd, rfl⟩ := hn.shape
  have g : Below w1.heap.size w1 w2 := g'
  have Q_2 : Hid (Num w2 (.slice Qa Qc Qd) (q)) := hn
  have X1_2 := hold (X1_1.out.below g)
  have Y1_2 := hold (Y1_1.out.below g)
  have Z1_2 := hold (Z1_1.out.below g)
  have X2_2 := hold (X2_1.out.below g)
  have Y2_2 := hold (Y2_1.out.below g)
  have Z2_2 := hold (Z2_1.out.below g)
  have A_2 := hold (A_1.out.below g)
  have B_2 := hold (B_1.out.below g)
  have P_2 := hold (P_1.out.below g)
  have G_2 := hold (G_1.out.trans (g.mono G_1.out.size))
  have KK2 : w2.cell? ⟨w.heap.size, 0, none⟩ = some (.slice ax1 nx1 cx1) ∧ w2.cell? ⟨w.heap.size, 1, none⟩ = some (.slice ay1 ny1 cy1) ∧ w2.cell? ⟨w.heap.size, 2, none⟩ = some (.slice az1 nz1 cz1) ∧ w2.cell? ⟨w.heap.size + 1, 0, none⟩ = some (.slice ax2 nx2 cx2) ∧ w2.cell? ⟨w.heap.size + 1, 1, none⟩ = some (.slice ay2 ny2 cy2) ∧ w2.cell? ⟨w.heap.size + 1, 2, none⟩ = some (.slice az2 nz2 cz2) := ⟨A_2.out.cell 0, A_2.out.cell 1, A_2.out.cell 2, B_2.out.cell 0, B_2.out.cell 1, B_2.out.cell 2⟩
  clear X1_1 Y1_1 Z1_1 X2_1 Y2_1 Z2_1 A_1 B_1 P_1 G_1 hn g g'
  clear hHeld
  refine hK.out _ _ KK2 (fun hHeld => ?_)
  clear hK Kk
  try simp only [Act.put, List.setIfInBounds_toArray, List.set_cons_zero, List.set_cons_succ]
  refine h_call 10 rfl (by kernel_rfl) (by rfl) (fun Kk hK => ?_)
  go_simp
  refine (cmp_num p q _ _ _ P_2.out Q_2.out 11 (lt11 L_p.out) (lt11 L_q.out) (by omega)).mono ?_
  rintro e w3 ⟨rfl, g'⟩
  have g : Below w2.heap.size w2 w3 := g'
  have X1_3 := hold (X1_2.out.below g)
  have Y1_3 := hold (Y1_2.out.below g)
  have Z1_3 := hold (Z1_2.out.below g)
  have X2_3 := hold (X2_2.out.below g)
  have Y2_3 := hold (Y2_2.out.below g)
  have Z2_3 := hold (Z2_2.out.below g)
  have A_3 := hold (A_2.out.below g)
  have B_3 := hold (B_2.out.below g)
  have G_3 := hold (G_2.out.trans (g.mono G_2.out.size))
  have KK3 : w3.cell? ⟨w.heap.size, 0, none⟩ = some (.slice ax1 nx1 cx1) ∧ w3.cell? ⟨w.heap.size, 1, none⟩ = some (.slice ay1 ny1 cy1) ∧ w3.cell? ⟨w.heap.size, 2, none⟩ = some (.slice az1 nz1 cz1) ∧ w3.cell? ⟨w.heap.size + 1, 0, none⟩ = some (.slice ax2 nx2 cx2) ∧ w3.cell? ⟨w.heap.size + 1, 1, none⟩ = some (.slice ay2 ny2 cy2) ∧ w3.cell? ⟨w.heap.size + 1, 2, none⟩ = some (.slice az2 nz2 cz2) := ⟨A_3.out.cell 0, A_3.out.cell 1, A_3.out.cell 2, B_3.out.cell 0, B_3.out.cell 1, B_3.out.cell 2⟩
  clear X1_2 Y1_2 Z1_2 X2_2 Y2_2 Z2_2 A_2 B_2 P_2 Q_2 G_2  g g'
  clear hHeld
  refine hK.out _ _ KK3 (fun hHeld => ?_)
  clear hK Kk
  try simp only [Act.put, List.setIfInBounds_toArray, List.set_cons_zero, List.set_cons_succ]
  refine h_take 11 (v := ?v11) rfl (by kernel_rfl) (by kernel_rfl) (by kernel_rfl) (fun _ _ _ h => h) (by rfl) ?hy11 (by assumption) ?_
  case hy11 =>
    intro w' hSw
    try dsimp only at hSw
    go_simp
    try with_reducible rfl
  try simp only [Act.put, List.setIfInBounds_toArray, List.set_cons_zero, List.set_cons_succ]
  refine h_take 12 (v := ?v12) rfl (by kernel_rfl) (by kernel_rfl) (by kernel_rfl) (fun _ _ _ h => h) (by rfl) ?hy12 (by assumption) ?_
  case hy12 =>
    intro w' hSw
    try dsimp only at hSw
    go_simp
    try with_reducible rfl
  try simp only [Act.put, List.setIfInBounds_toArray, List.set_cons_zero, List.set_cons_succ]
  refine h_skip 13 rfl (by kernel_rfl) (by kernel_rfl) (by kernel_rfl) (fun _ _ _ h => h) (by rfl) (by assumption) ?_
  try simp only [Act.put, List.setIfInBounds_toArray, List.set_cons_zero, List.set_cons_succ]
  refine h_skip 14 rfl (by kernel_rfl) (by kernel_rfl) (by kernel_rfl) (fun _ _ _ h => h) (by rfl) (by assumption) ?_
  try simp only [Act.put, List.setIfInBounds_toArray, List.set_cons_zero, List.set_cons_succ]
  refine h_skip 15 rfl (by kernel_rfl) (by kernel_rfl) (by kernel_rfl) (fun _ _ _ h => h) (by rfl) (by assumption) ?_
  try simp only [Act.put, List.setIfInBounds_toArray, List.set_cons_zero, List.set_cons_succ]
  refine h_skip 16 rfl (by kernel_rfl) (by kernel_rfl) (by kernel_rfl) (fun _ _ _ h => h) (by rfl) (by assumption) ?_
  try simp only [Act.put, List.setIfInBounds_toArray, List.set_cons_zero, List.set_cons_succ]
  refine h_skip 17 rfl (by kernel_rfl) (by kernel_rfl) (by kernel_rfl) (fun _ _ _ h => h) (by rfl) (by assumption) ?_
  try simp only [Act.put, List.setIfInBounds_toArray, List.set_cons_zero, List.set_cons_succ]
  refine h_skip 18 rfl (by kernel_rfl) (by kernel_rfl) (by kernel_rfl) (fun _ _ _ h => h) (by rfl) (by assumption) ?_
  try simp only [Act.put, List.setIfInBounds_toArray, List.set_cons_zero, List.set_cons_succ]
  refine h_skip 19 rfl (by kernel_rfl) (by kernel_rfl) (by kernel_rfl) (fun _ _ _ h => h) (by rfl) (by assumption) ?_
  try simp only [Act.put, List.setIfInBounds_toArray, List.set_cons_zero, List.set_cons_succ]
  refine h_skip 20 rfl (by kernel_rfl) (by kernel_rfl) (by kernel_rfl) (fun _ _ _ h => h) (by rfl) (by assumption) ?_
  try simp only [Act.put, List.setIfInBounds_toArray, List.set_cons_zero, List.set_cons_succ]
  refine h_skip 21 rfl (by kernel_rfl) (by kernel_rfl) (by kernel_rfl) (fun _ _ _ h => h) (by rfl) (by assumption) ?_
  try simp only [Act.put, List.setIfInBounds_toArray, List.set_cons_zero, List.set_cons_succ]
  refine h_skip 22 rfl (by kernel_rfl) (by kernel_rfl) (by kernel_rfl) (fun _ _ _ h => h) (by rfl) (by assumption) ?_
  try simp only [Act.put, List.setIfInBounds_toArray, List.set_cons_zero, List.set_cons_succ]
  refine h_skip 23 rfl (by kernel_rfl) (by kernel_rfl) (by kernel_rfl) (fun _ _ _ h => h) (by rfl) (by assumption) ?_
  try simp only [Act.put, List.setIfInBounds_toArray, List.set_cons_zero, List.set_cons_succ]
  refine h_skip 24 rfl (by kernel_rfl) (by kernel_rfl) (by kernel_rfl) (fun _ _ _ h => h) (by rfl) (by assumption) ?_
  try simp only [Act.put, List.setIfInBounds_toArray, List.set_cons_zero, List.set_cons_succ]
  refine h_take 25 (v := ?v25) rfl (by kernel_rfl) (by kernel_rfl) (by kernel_rfl) (fun _ _ _ h => h) (by rfl) ?hy25 (by assumption) ?_
  case hy25 =>
    intro w' hSw
    try dsimp only at hSw
    go_simp
    try with_reducible rfl
  try simp only [Act.put, List.setIfInBounds_toArray, List.set_cons_zero, List.set_cons_succ]
  refine h_take 26 (v := ?v26) rfl (by kernel_rfl) (by kernel_rfl) (by kernel_rfl) (fun _ _ _ h => h) (by rfl) ?hy26 (by assumption) ?_
  case hy26 =>
    intro w' hSw
    try dsimp only at hSw
    go_simp
    try with_reducible rfl
  try simp only [Act.put, List.setIfInBounds_toArray, List.set_cons_zero, List.set_cons_succ]
  refine wpAnyH_done (by kernel_rfl) ?_ _
  clear hHeld
  go_wp2_with fail
  go_ret
  exact ⟨rfl, G_3.out⟩

end Go.Proofs.YtkbiiolkekpkiaaDoor.Ed

/-
  The contracts of the document's own Same and Bytes of layer 10, of points of the curve. Conditions: as each theorem says.
-/
namespace Go.Proofs.YtkbiiolkekpkiaaDoor.Ed
open Go.RowKit
set_option linter.unusedVariables false
set_option linter.unusedSimpArgs false

theorem cross_same (X1 Z1 X2 Z2 : Nat) (x y : K) (h1 : k X1 = x * k Z1) (h2 : k X2 = y * k Z2) (z1 : ¬ k Z1 = 0) (z2 : ¬ k Z2 = 0) : X1 * Z2 % P25 = X2 * Z1 % P25 ↔ x = y := by
  rw [← k_eq, k_mul, k_mul, h1, h2]
  constructor
  · intro h
    have hz := mul_ne _ _ z1 z2
    have e := factor_zero x y (k Z1) (k Z2) h
    rcases no_div _ _ e with e1 | e1
    · exact minus_zero _ _ e1
    · exact absurd e1 hz
  · intro h
    rw [h]
    exact swap_zs _ _ _
theorem same_pt (P Q : Pt) (v v' : Value) (w : World) (h : Pm w v P) (h' : Pm w v' Q) :
    Calls Tryd.prog 28 #[v, v'] w fun e w' => ∃ b : Bool, e = .returned (.bool b) ∧ (b = true ↔ P = Q) ∧ Below w.heap.size w w' := by
  obtain ⟨vx1, vy1, vz1, X1, Y1, Z1, rfl, hx1, hy1, hz1, l1, l2, l3, z1, e1, e2⟩ := h
  obtain ⟨vx2, vy2, vz2, X2, Y2, Z2, rfl, hx2, hy2, hz2, l4, l5, l6, z2, e3, e4⟩ := h'
  have cx := cross_same X1 Z1 X2 Z2 P.x Q.x e1 e3 z1 z2
  have cy := cross_same Y1 Z1 Y2 Z2 P.y Q.y e2 e4 z1 z2
  by_cases hpq : X1 * Z2 % P25 = X2 * Z1 % P25
  · refine (sameD_yes X1 Y1 Z1 X2 Y2 Z2 _ _ _ _ vx1 vy1 vz1 vx2 vy2 vz2 true true w hx1 hy1 hz1 hx2 hy2 hz2 l1 l2 l3 l4 l5 l6 rfl rfl rfl rfl hpq).mono ?_
    rintro e w' ⟨rfl, g⟩
    refine ⟨_, rfl, ?_, g⟩
    rw [decide_eq_true_eq, cy]
    exact ⟨fun hy => Pt.ext (cx.1 hpq) hy, fun hp => by rw [hp]⟩
  · refine (sameD_no X1 Y1 Z1 X2 Y2 Z2 _ _ _ _ vx1 vy1 vz1 vx2 vy2 vz2 true true w hx1 hy1 hz1 hx2 hy2 hz2 l1 l2 l3 l4 l5 l6 rfl rfl rfl rfl hpq).mono ?_
    rintro e w' ⟨rfl, g⟩
    refine ⟨_, rfl, ?_, g⟩
    constructor
    · intro h; cases h
    · intro hp
      exact absurd (cx.2 (by rw [hp])) hpq

/-- What is by what a number is 1 by is what it stands for. -/
theorem by_inv (X Z : Nat) (x : K) (h : k X = x * k Z) (z : ¬ k Z = 0) : X * (Z ^ (P25 - 2) % P25) % P25 = x.val := by
  obtain ⟨e, he⟩ : ∃ e, P25 - 2 = e := ⟨_, rfl⟩
  have he1 : e + 1 = P25 - 1 := by rw [← he]; decide +kernel
  rw [he]
  have h1 : Z * Z ^ e % P25 = 1 := by
    rw [Nat.mul_comm, ← Nat.pow_succ]
    show Z ^ (e + 1) % P25 = 1
    rw [he1]
    exact fermat P25_prime (fun q => z ((k_nought Z).2 q))
  have h2 : k (X * (Z ^ e % P25)) = x := by
    rw [k_mul, k_mod, h, assoc_k, ← k_mul, ← k_mod, h1, k_one]
    exact times_one _
  rw [← k_val, h2]
theorem little32 (n : Nat) (va : Value) (w : World) (ha : Num w va n) (m : Nat) (hM : n < 16777216 ^ m) (hm : m ≤ 10000) :
    Calls Tryd.prog 64 #[va, .int .i64 32] w fun e w' => ∃ v, e = .returned v ∧ SK .u8 w' v (leB n 32) ∧ Below w.heap.size w w' := by
  obtain ⟨l, h1, h2, h3, rfl⟩ := ha
  have hl := nz_len l m h2 h3 hM
  exact toLittleN_any l va 32 w h1 h2 (by omega) (by omega)

set_option maxRecDepth 100000 in
set_option maxHeartbeats 4000000 in
theorem bytes_pt (P : Pt) (v : Value) (w : World) (h : Pm w v P) :
    Calls Tryd.prog 61 #[v] w fun e w' => ∃ u, e = .returned u ∧ SK .u8 w' u (bytesOf P) ∧ Below w.heap.size w w' := by
  obtain ⟨vx, vy, vz, X, Y, Z, rfl, hx, hy, hz, l1, l2, l3, z1, e1, e2⟩ := h
  have i1 := by_inv X Z P.x e1 z1
  have i2 := by_inv Y Z P.y e2 z1
  have kP : Hid (∀ W, Below w.heap.size w W → Calls Tryd.prog 11 #[.agg #[vx, vy, vz, .bool true]] W fun e w' => ∃ v1 v2, e = .returned (.tuple #[v1, v2]) ∧ Num w' v1 P.x.val ∧ Num w' v2 P.y.val ∧ Below W.heap.size W w') := by
    intro W hW
    have h := pairD_num X Y Z vx vy vz true W (hx.below hW) (hy.below hW) (hz.below hW) l1 l2 l3
    rwa [i1, i2] at h
  have hb : Hid (bytesOf P = leB (P.y.val + (if P.x.val % 2 = 1 then 2 ^ 255 else 0)) 32) := rfl
  rw [hb.out]
  have lx : Hid (P.x.val < P25) := P.x.isLt
  have ly : Hid (P.y.val < P25) := P.y.isLt
  generalize P.x.val = x at *
  generalize P.y.val = y at *
  obtain ⟨nn, hnn⟩ : ∃ n : Nat, Hid (y + (if x % 2 = 1 then 2 ^ 255 else 0) = n) := ⟨y + (if x % 2 = 1 then 2 ^ 255 else 0), rfl⟩
  rw [hnn.out]
  obtain ⟨xa, xn, xc, rfl⟩ := hx.shape
  obtain ⟨ya, yn, yc, rfl⟩ := hy.shape
  obtain ⟨za, zn, zc, rfl⟩ := hz.shape
  have A0 : Hid (At 35 (w.alloc (.cells #[.slice xa xn xc, .slice ya yn yc, .slice za zn zc, .bool true] 35)) w.heap.size [.slice xa xn xc, .slice ya yn yc, .slice za zn zc, .bool true]) := at_new _ _ _
  have G0 : Hid (Below w.heap.size w (w.alloc (.cells #[.slice xa xn xc, .slice ya yn yc, .slice za zn zc, .bool true] 35))) := (Below.refl _ _).alloc (Nat.le_refl _) _
  have hrg : Hid ((w.alloc (.cells #[.slice xa xn xc, .slice ya yn yc, .slice za zn zc, .bool true] 35)).rangeAt w.heap.size 0 [.slice xa xn xc, .slice ya yn yc, .slice za zn zc, .bool true]) := A0.out.range
  have hi : Hid ((Tryd.prog.info? 35).map (·.size) = some [Value.slice xa xn xc, .slice ya yn yc, .slice za zn zc, .bool true].length) := by unfold Hid; kernel_rfl
  have r0 := A0.out.cell 0
  have r1 := A0.out.cell 1
  have r2 := A0.out.cell 2
  have r3 := A0.out.cell 3
  simp only [List.getElem?_cons_zero, List.getElem?_cons_succ] at r0 r1 r2 r3
  clear hx hy hz l1 l2 l3 z1 e1 e2 i1 i2 hb
  go_enter Tryd.func61, Tryd.ntmps61
  go_wp2_with (refine wpList_load_mid rfl 35 _ rfl w.heap.size 0 rfl [.slice xa xn xc, .slice ya yn yc, .slice za zn zc, .bool true] _ hrg.out Tryd.underlying35 rfl hi.out ?_)
  refine (kP.out _ G0.out).mono ?_
  rintro e w1 ⟨v1, v2, rfl, hn1, hn2, g1⟩
  have X1 : Hid (Num w1 v1 x) := hn1
  have Y1 : Hid (Num w1 v2 y) := hn2
  have G1 := hold (G0.out.trans (g1.mono G0.out.size))
  obtain ⟨xa1, xn1, xc1, rfl⟩ := hn1.shape
  obtain ⟨ya1, yn1, yc1, rfl⟩ := hn2.shape
  have kO : Hid (Calls Tryd.prog 84 #[.slice xa1 xn1 xc1] w1 fun e w' => e = .returned (.bool (decide (x % 2 = 1))) ∧ Below w1.heap.size w1 w') := oddD_num x _ w1 hn1 (Nat.lt_trans lx.out P25_lt22)
  clear hn1 hn2 g1 r0 r1 r2 r3 A0 G0 hrg
  go_wp2_with fail
  refine kO.out.mono ?_
  rintro e w2 ⟨rfl, g2⟩
  have Y2 := hold (Y1.out.below g2)
  have G2 := hold (G1.out.trans (g2.mono G1.out.size))
  clear g2 X1 Y1 G1 kO
  by_cases hodd : x % 2 = 1
  · have kW : Hid (Calls Tryd.prog 42 #[.int .i64 255] w2 fun e w' => ∃ v, e = .returned v ∧ Num w' v (2 ^ 255) ∧ Below w2.heap.size w2 w') := power_any 255 w2 (by omega)
    rw [decide_eq_true hodd]
    have hn2 : Hid (y + 2 ^ 255 = nn) := by have e := hnn.out; rw [if_pos hodd] at e; exact e
    go_wp2_with fail
    refine kW.out.mono ?_
    rintro e w3 ⟨v3, rfl, hn3, g3⟩
    have Y3 := hold (Y2.out.below g3)
    have G3 := hold (G2.out.trans (g3.mono G2.out.size))
    have P3 : Hid (Num w3 v3 (2 ^ 255)) := hn3
    obtain ⟨pa3, pn3, pc3, rfl⟩ := hn3.shape
    have kA : Hid (Calls Tryd.prog 57 #[.slice ya1 yn1 yc1, .slice pa3 pn3 pc3] w3 fun e w' => ∃ v, e = .returned v ∧ Num w' v (y + 2 ^ 255) ∧ Below w3.heap.size w3 w') := add_num y (2 ^ 255) _ _ w3 Y3.out P3.out 22 (Nat.lt_trans ly.out P25_lt22) pow_lt22 (by omega)
    clear hn3 g3 kW Y2 G2
    go_wp2_with fail
    refine kA.out.mono ?_
    rintro e w4 ⟨v4, rfl, hn4, g4⟩
    have G4 := hold (G3.out.trans (g4.mono G3.out.size))
    have kL : Hid (Calls Tryd.prog 64 #[v4, .int .i64 32] w4 fun e w' => ∃ v, e = .returned v ∧ SK .u8 w' v (leB (y + 2 ^ 255) 32) ∧ Below w4.heap.size w4 w') := little32 _ _ _ hn4 22 (Nat.lt_of_lt_of_le (Nat.add_lt_add_right ly.out _) (by decide +kernel)) (by omega)
    obtain ⟨a4, n4, c4, rfl⟩ := hn4.shape
    clear hn4 g4 kA Y3 P3 G3
    go_wp2_with fail
    refine kL.out.mono ?_
    rintro e w5 ⟨v5, rfl, hs5, g5⟩
    have S5 : Hid (SK .u8 w5 v5 (leB (y + 2 ^ 255) 32)) := hs5
    have G5 := hold (G4.out.trans (g5.mono G4.out.size))
    obtain ⟨a5, c5, e5⟩ := hs5.shape
    subst e5
    clear hs5 g5 kL G4
    go_wp2_with fail
    go_ret
    exact ⟨_, rfl, by rw [← hn2.out]; exact S5.out, G5.out⟩
  · rw [decide_eq_false hodd]
    have hn2 : Hid (y + 0 = nn) := by have e := hnn.out; rw [if_neg hodd] at e; exact e
    have kL : Hid (Calls Tryd.prog 64 #[.slice ya1 yn1 yc1, .int .i64 32] w2 fun e w' => ∃ v, e = .returned v ∧ SK .u8 w' v (leB (y + 0) 32) ∧ Below w2.heap.size w2 w') := little32 _ _ _ Y2.out 22 (Nat.lt_trans ly.out P25_lt22) (by omega)
    go_wp2_with fail
    refine kL.out.mono ?_
    rintro e w5 ⟨v5, rfl, hs5, g5⟩
    have S5 : Hid (SK .u8 w5 v5 (leB (y + 0) 32)) := hs5
    have G5 := hold (G2.out.trans (g5.mono G2.out.size))
    obtain ⟨a5, c5, e5⟩ := hs5.shape
    subst e5
    clear hs5 g5 kL G2
    go_wp2_with fail
    go_ret
    exact ⟨_, rfl, by rw [← hn2.out]; exact S5.out, G5.out⟩
end Go.Proofs.YtkbiiolkekpkiaaDoor.Ed
