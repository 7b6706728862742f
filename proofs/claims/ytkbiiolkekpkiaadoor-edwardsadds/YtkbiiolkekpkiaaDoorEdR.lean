/-
  The contracts of the document's own layer 10: the curve's number, and which pairs lie on the curve. Conditions: as each theorem says.
-/
import Derived.Test.YtkbiiolkekpkiaaDoorEdM
import Derived.Test.YtkbiiolkekpkiaaDoorDA
import Derived.Test.YtkbiiolkekpkiaaDoorGX
import Derived.Test.YtkbiiolkekpkiaaDoorLate
namespace Go.Proofs.YtkbiiolkekpkiaaDoor.Ed
open Go.RowKit
set_option linter.unusedVariables false

theorem hold {P : Prop} (h : P) : Hid P := h
theorem lt11 {a : Nat} (h : a < P25) : a < 16777216 ^ 11 := Nat.lt_trans h P25_lt11
theorem mod_lt11 (a : Nat) : a % P25 < 16777216 ^ 11 := lt11_of_mod a
theorem mod_P (a : Nat) : a % P25 < P25 := Nat.mod_lt _ (by decide +kernel)
theorem D25_val (q : Nat) (hq : q = 121666) : (0 + P25 - 121665 * (q ^ (P25 - 2) % P25) % P25) % P25 = D25 := by
  have h : q ^ (P25 - 2) % P25 = pm 255 q (P25 - 2) P25 % P25 := (pm_eq P25 255 q _ (by decide +kernel)).symm
  rw [h, hq]
  decide +kernel
set_option maxRecDepth 100000 in
set_option maxHeartbeats 2000000 in
theorem dD_num  (w : World) :
    Calls Tryd.prog 20 #[] w fun e w' => ∃ v, e = .returned v ∧ Num w' v (D25) ∧ Below w.heap.size w w' := by
  obtain ⟨q, hq⟩ : ∃ q : Nat, Hid (q = 121666) := ⟨121666, rfl⟩
  have K1 : Hid (∀ W, Calls Tryd.prog 62 #[.int .i64 121665] W fun e w' => ∃ v, e = .returned v ∧ Num w' v 121665 ∧ Below W.heap.size W w') := fun W => int_any 121665 (by omega) W
  have K2 : Hid (∀ W, Calls Tryd.prog 62 #[.int .i64 121666] W fun e w' => ∃ v, e = .returned v ∧ Num w' v q ∧ Below W.heap.size W w') := fun W => by rw [hq.out]; exact int_any 121666 (by omega) W
  have hql : q < 16777216 ^ 11 := by rw [hq.out]; decide +kernel
  have Q : Hid (q < 16777216 ^ 11) := hql
  have E : Hid ((0 + P25 - 121665 * (q ^ (P25 - 2) % P25) % P25) % P25 = D25) := D25_val q hq.out
  have K3 : Hid (∀ v W, Num W v q → Calls Tryd.prog 50 #[v] W fun e w' => ∃ v, e = .returned v ∧ Num w' v (q ^ (P25 - 2) % P25) ∧ Below W.heap.size W w') := fun v W h => invD_num4 q v W h Q.out
  have M3 : Hid (q ^ (P25 - 2) % P25 < 16777216 ^ 11) := mod_lt11 _
  rw [← E.out]
  clear hql E
  generalize q ^ (P25 - 2) % P25 = r at *
  go_enter Tryd.func20, Tryd.ntmps20
  go_wp2_with fail
  refine (K1.out _).mono ?_
  rintro e w1 ⟨v, rfl, hn, g⟩
  obtain ⟨Aa, Ac, Ad, rfl⟩ := hn.shape
  have A_1 : Hid (Num w1 (.slice Aa Ac Ad) (121665)) := hn
  have G_1 : Hid (Below w.heap.size w w1) := g
  clear  hn g
  go_wp2_with fail
  refine (K2.out _).mono ?_
  rintro e w2 ⟨v, rfl, hn, g⟩
  obtain ⟨Ba, Bc, Bd, rfl⟩ := hn.shape
  have B_2 : Hid (Num w2 (.slice Ba Bc Bd) (q)) := hn
  have A_2 := hold (A_1.out.below g)
  have G_2 := hold (G_1.out.trans (g.mono G_1.out.size))
  clear A_1 G_1 hn g
  go_wp2_with fail
  refine (K3.out _ _ B_2.out).mono ?_
  rintro e w3 ⟨v, rfl, hn, g⟩
  obtain ⟨Ca, Cc, Cd, rfl⟩ := hn.shape
  have C_3 : Hid (Num w3 (.slice Ca Cc Cd) (r)) := hn
  have A_3 := hold (A_2.out.below g)
  have G_3 := hold (G_2.out.trans (g.mono G_2.out.size))
  clear A_2 B_2 G_2 hn g
  go_wp2_with fail
  refine (mulD_num 121665 r _ _ _ A_3.out C_3.out (by decide +kernel) M3.out).mono ?_
  rintro e w4 ⟨v, rfl, hn, g⟩
  obtain ⟨Ea, Ec, Ed, rfl⟩ := hn.shape
  have E_4 : Hid (Num w4 (.slice Ea Ec Ed) (121665 * r % P25)) := hn
  have G_4 := hold (G_3.out.trans (g.mono G_3.out.size))
  clear A_3 C_3 G_3 hn g
  go_wp2_with fail
  refine (subD_num 0 (121665 * r % P25) _ _ _ (num_none _) E_4.out (by decide +kernel) (by have := mod_P (121665 * r); omega)).mono ?_
  rintro e w5 ⟨v, rfl, hn, g⟩
  obtain ⟨Fa, Fc, Fd, rfl⟩ := hn.shape
  have F_5 : Hid (Num w5 (.slice Fa Fc Fd) ((0 + P25 - 121665 * r % P25) % P25)) := hn
  have G_5 := hold (G_4.out.trans (g.mono G_4.out.size))
  clear E_4 G_4 hn g
  go_wp2_with fail
  go_ret
  exact ⟨_, rfl, F_5.out, G_5.out⟩

set_option maxRecDepth 100000 in
set_option maxHeartbeats 2000000 in
theorem onD_num (X Y : Nat) (vx vy : Value) (hX : X < P25) (hY : Y < P25) (w : World) (hA : Num w vx X) (hB : Num w vy Y) :
    Calls Tryd.prog 18 #[vx, vy] w fun e w' => e = .returned (.bool (decide ((Y * Y % P25 + P25 - X * X % P25) % P25 = (1 + D25 * ((X * X % P25) * (Y * Y % P25) % P25) % P25) % P25))) ∧ Below w.heap.size w w' := by
  obtain ⟨Aa, Ac, Ad, rfl⟩ := hA.shape
  have A_0 : Hid (Num w (.slice Aa Ac Ad) (X)) := hA
  clear hA
  obtain ⟨Ba, Bc, Bd, rfl⟩ := hB.shape
  have B_0 : Hid (Num w (.slice Ba Bc Bd) (Y)) := hB
  clear hB
  obtain ⟨T, hT⟩ : ∃ T, Hid (decide ((Y * Y % P25 + P25 - X * X % P25) % P25 = (1 + D25 * ((X * X % P25) * (Y * Y % P25) % P25) % P25) % P25) = T) := ⟨_, rfl⟩
  rw [hT.out]
  have L1 : Hid (X < 16777216 ^ 11) := lt11 hX
  have L2 : Hid (Y < 16777216 ^ 11) := lt11 hY
  clear hX hY
  go_enter Tryd.func18, Tryd.ntmps18
  go_wp2_with fail
  refine (mulD_num X X _ _ _ A_0.out A_0.out L1.out L1.out).mono ?_
  rintro e w1 ⟨v, rfl, hn, g⟩
  obtain ⟨Ca, Cc, Cd, rfl⟩ := hn.shape
  have C_1 : Hid (Num w1 (.slice Ca Cc Cd) (X * X % P25)) := hn
  have B_1 := hold (B_0.out.below g)
  have G_1 : Hid (Below w.heap.size w w1) := g
  clear A_0 B_0 hn g
  go_wp2_with fail
  refine (mulD_num Y Y _ _ _ B_1.out B_1.out L2.out L2.out).mono ?_
  rintro e w2 ⟨v, rfl, hn, g⟩
  obtain ⟨Ea, Ec, Ed, rfl⟩ := hn.shape
  have E_2 : Hid (Num w2 (.slice Ea Ec Ed) (Y * Y % P25)) := hn
  have C_2 := hold (C_1.out.below g)
  have G_2 := hold (G_1.out.trans (g.mono G_1.out.size))
  clear B_1 C_1 G_1 hn g
  have M1 : Hid (X * X % P25 < P25) := mod_P _
  have M2 : Hid (Y * Y % P25 < P25) := mod_P _
  generalize X * X % P25 = x at *
  generalize Y * Y % P25 = y at *
  go_wp2_with fail
  refine (subD_num y x _ _ _ E_2.out C_2.out (lt11 M2.out) (by have := M1.out; omega)).mono ?_
  rintro e w3 ⟨v, rfl, hn, g⟩
  obtain ⟨Fa, Fc, Fd, rfl⟩ := hn.shape
  have F_3 : Hid (Num w3 (.slice Fa Fc Fd) ((y + P25 - x) % P25)) := hn
  have C_3 := hold (C_2.out.below g)
  have E_3 := hold (E_2.out.below g)
  have G_3 := hold (G_2.out.trans (g.mono G_2.out.size))
  clear C_2 E_2 G_2 hn g
  go_wp2_with fail
  refine calls_at (fun V => Num V (.slice Ca Cc Cd) (x) ∧ Num V (.slice Ea Ec Ed) (y) ∧ Num V (.slice Fa Fc Fd) ((y + P25 - x) % P25) ∧ Num V (.slice (some ⟨w3.heap.size, 0, none⟩) 1 1) 1 ∧ Below w.heap.size w V) ⟨C_3.out.below ((Below.refl _ _).alloc (Nat.le_refl _) _), E_3.out.below ((Below.refl _ _).alloc (Nat.le_refl _) _), F_3.out.below ((Below.refl _ _).alloc (Nat.le_refl _) _), num_lit w3 1 (by omega) (by omega), G_3.out.alloc G_3.out.size _⟩ ?_
  rintro w4 ⟨k0, k1, k2, k3, hG⟩
  have C_4 : Hid (Num w4 (.slice Ca Cc Cd) (x)) := k0
  have E_4 : Hid (Num w4 (.slice Ea Ec Ed) (y)) := k1
  have F_4 : Hid (Num w4 (.slice Fa Fc Fd) ((y + P25 - x) % P25)) := k2
  have L_4 : Hid (Num w4 (.slice (some ⟨w3.heap.size, 0, none⟩) 1 1) 1) := k3
  have G_4 : Hid (Below w.heap.size w w4) := hG
  clear C_3 E_3 F_3 G_3 hG k0 k1 k2 k3
  refine (dD_num _).mono ?_
  rintro e w5 ⟨v, rfl, hn, g⟩
  obtain ⟨Ha, Hc, Hd, rfl⟩ := hn.shape
  have H_5 : Hid (Num w5 (.slice Ha Hc Hd) (D25)) := hn
  have C_5 := hold (C_4.out.below g)
  have E_5 := hold (E_4.out.below g)
  have F_5 := hold (F_4.out.below g)
  have L_5 := hold (L_4.out.below g)
  have G_5 := hold (G_4.out.trans (g.mono G_4.out.size))
  clear C_4 E_4 F_4 L_4 G_4 hn g
  go_wp2_with fail
  refine (mulD_num x y _ _ _ C_5.out E_5.out (lt11 M1.out) (lt11 M2.out)).mono ?_
  rintro e w6 ⟨v, rfl, hn, g⟩
  obtain ⟨Ia, Ic, Id, rfl⟩ := hn.shape
  have I_6 : Hid (Num w6 (.slice Ia Ic Id) (x * y % P25)) := hn
  have F_6 := hold (F_5.out.below g)
  have L_6 := hold (L_5.out.below g)
  have H_6 := hold (H_5.out.below g)
  have G_6 := hold (G_5.out.trans (g.mono G_5.out.size))
  clear C_5 E_5 F_5 L_5 H_5 G_5 hn g
  go_wp2_with fail
  refine (mulD_num D25 (x * y % P25) _ _ _ H_6.out I_6.out (by decide +kernel) (mod_lt11 _)).mono ?_
  rintro e w7 ⟨v, rfl, hn, g⟩
  obtain ⟨Ja, Jc, Jd, rfl⟩ := hn.shape
  have J_7 : Hid (Num w7 (.slice Ja Jc Jd) (D25 * (x * y % P25) % P25)) := hn
  have F_7 := hold (F_6.out.below g)
  have L_7 := hold (L_6.out.below g)
  have G_7 := hold (G_6.out.trans (g.mono G_6.out.size))
  clear F_6 L_6 H_6 I_6 G_6 hn g
  go_wp2_with fail
  refine (addD_num 1 (D25 * (x * y % P25) % P25) _ _ _ L_7.out J_7.out (by decide +kernel) (mod_lt11 _)).mono ?_
  rintro e w8 ⟨v, rfl, hn, g⟩
  obtain ⟨Oa, Oc, Od, rfl⟩ := hn.shape
  have O_8 : Hid (Num w8 (.slice Oa Oc Od) ((1 + D25 * (x * y % P25) % P25) % P25)) := hn
  have F_8 := hold (F_7.out.below g)
  have G_8 := hold (G_7.out.trans (g.mono G_7.out.size))
  clear F_7 L_7 J_7 G_7 hn g
  go_wp2_with fail
  refine (cmp_num ((y + P25 - x) % P25) ((1 + D25 * (x * y % P25) % P25) % P25) _ _ _ F_8.out O_8.out 11 (mod_lt11 _) (mod_lt11 _) (by omega)).mono ?_
  rintro e w9 ⟨rfl, g⟩
  have G_9 := hold (G_8.out.trans (g.mono G_8.out.size))
  clear F_8 O_8 G_8 g
  have hz := ord_zero ((y + P25 - x) % P25) ((1 + D25 * (x * y % P25) % P25) % P25)
  have hz2 : (ord (((y + P25 - x) % P25 : Nat) : Int) (((1 + D25 * (x * y % P25) % P25) % P25 : Nat) : Int) == 0) = T := by
    rw [← hT.out, Bool.eq_iff_iff]
    simp only [beq_iff_eq, decide_eq_true_eq]
    exact hz
  clear hz hT
  generalize ord (((y + P25 - x) % P25 : Nat) : Int) (((1 + D25 * (x * y % P25) % P25) % P25 : Nat) : Int) = o at *
  go_wp2_with fail
  go_ret
  exact ⟨by first | rfl | (rw [← hz2]; rfl), G_9.out⟩

end Go.Proofs.YtkbiiolkekpkiaaDoor.Ed

/-
  The contracts of the document's own Pair of layer 10. Conditions: as each theorem says.
-/
namespace Go.Proofs.YtkbiiolkekpkiaaDoor.Ed
open Go.RowKit
set_option linter.unusedVariables false
set_option linter.unusedSimpArgs false

set_option maxRecDepth 100000 in
set_option maxHeartbeats 4000000 in
theorem pairD_num (X Y Z : Nat) (vx vy vz : Value) (tb : Bool) (w : World) (hx : Num w vx X) (hy : Num w vy Y) (hz : Num w vz Z) (lx : X < P25) (ly : Y < P25) (lz : Z < P25) :
    Calls Tryd.prog 11 #[.agg #[vx, vy, vz, .bool tb]] w fun e w' => ∃ v1 v2, e = .returned (.tuple #[v1, v2]) ∧ Num w' v1 (X * (Z ^ (P25 - 2) % P25) % P25) ∧ Num w' v2 (Y * (Z ^ (P25 - 2) % P25) % P25) ∧ Below w.heap.size w w' := by
  have kI : Hid (∀ v W, Num W v Z → Calls Tryd.prog 50 #[v] W fun e w' => ∃ v, e = .returned v ∧ Num w' v (Z ^ (P25 - 2) % P25) ∧ Below W.heap.size W w') := fun v W h => invD_num4 Z v W h (lt11 lz)
  have Lr : Hid (Z ^ (P25 - 2) % P25 < P25) := mod_P _
  generalize Z ^ (P25 - 2) % P25 = r at *
  obtain ⟨xa, xn, xc, rfl⟩ := hx.shape
  obtain ⟨ya, yn, yc, rfl⟩ := hy.shape
  obtain ⟨za, zn, zc, rfl⟩ := hz.shape
  have Lx : Hid (X < P25) := lx
  have Ly : Hid (Y < P25) := ly
  have g0 : Below w.heap.size w (w.alloc (.cells #[.slice xa xn xc, .slice ya yn yc, .slice za zn zc, .bool tb] 35)) := (Below.refl _ _).alloc (Nat.le_refl _) _
  have A0 : Hid (At 35 (w.alloc (.cells #[.slice xa xn xc, .slice ya yn yc, .slice za zn zc, .bool tb] 35)) w.heap.size [.slice xa xn xc, .slice ya yn yc, .slice za zn zc, .bool tb]) := at_new 35 w [.slice xa xn xc, .slice ya yn yc, .slice za zn zc, .bool tb]
  have X0 : Hid (Num (w.alloc (.cells #[.slice xa xn xc, .slice ya yn yc, .slice za zn zc, .bool tb] 35)) (.slice xa xn xc) X) := hx.below g0
  have Y0 : Hid (Num (w.alloc (.cells #[.slice xa xn xc, .slice ya yn yc, .slice za zn zc, .bool tb] 35)) (.slice ya yn yc) Y) := hy.below g0
  have Z0 : Hid (Num (w.alloc (.cells #[.slice xa xn xc, .slice ya yn yc, .slice za zn zc, .bool tb] 35)) (.slice za zn zc) Z) := hz.below g0
  have G0 : Hid (Below w.heap.size w (w.alloc (.cells #[.slice xa xn xc, .slice ya yn yc, .slice za zn zc, .bool tb] 35))) := g0
  have q2 := A0.out.cell 2
  simp only [List.getElem?_cons_zero, List.getElem?_cons_succ] at q2
  clear hx hy hz lx ly lz g0
  go_enter Tryd.func11, Tryd.ntmps11
  go_wp2_with fail
  refine (kI.out _ _ Z0.out).mono ?_
  rintro e w1 ⟨vi, rfl, hn1, g1⟩
  obtain ⟨ia, ic, id, rfl⟩ := hn1.shape
  have A1 := hold (A0.out.below g1)
  have N1 := hold (X0.out.below g1)
  have Y1 := hold (Y0.out.below g1)
  have I1 : Hid (Num w1 (.slice ia ic id) r) := hn1
  have G1 := hold (G0.out.trans (g1.mono G0.out.size))
  have kM : Hid (∀ (A : Nat) v W, A < P25 → Num W v A → Num W (.slice ia ic id) r → Calls Tryd.prog 44 #[v, .slice ia ic id] W fun e w' => ∃ v', e = .returned v' ∧ Num w' v' (A * r % P25) ∧ Below W.heap.size W w') := fun A v W h1 h2 h3 => mulD_num A r v _ W h2 h3 (lt11 h1) (lt11 Lr.out)
  have hK1 : w1.drew.cell? ⟨w.heap.size, 0, none⟩ = some (.slice xa xn xc) ∧ w1.drew.cell? ⟨w.heap.size, 1, none⟩ = some (.slice ya yn yc) := ⟨A1.out.cell 0, A1.out.cell 1⟩
  clear hn1 g1 q2 kI A0 X0 Y0 Z0 G0
  go_wp2_with fail
  refine wp_region_held_drew (S := fun w' => w'.cell? ⟨w.heap.size, 0, none⟩ = some (.slice xa xn xc) ∧ w'.cell? ⟨w.heap.size, 1, none⟩ = some (.slice ya yn yc)) (by kernel_rfl) hK1 (fun hHeld => ?_)
  refine h_take 0 (v := ?v0) rfl (by kernel_rfl) (by kernel_rfl) (by kernel_rfl) (fun _ _ _ h => h) (by rfl) ?hy0 (by assumption) ?_
  case hy0 =>
    intro w' hSw
    try dsimp only at hSw
    go_simp
    try with_reducible rfl
  try simp only [Act.put, List.setIfInBounds_toArray, List.set_cons_zero, List.set_cons_succ]
  refine h_take 1 (v := ?v1) rfl (by kernel_rfl) (by kernel_rfl) (by kernel_rfl) (fun _ _ _ h => h) (by rfl) ?hy1 (by assumption) ?_
  case hy1 =>
    intro w' hSw
    try dsimp only at hSw
    go_simp
    try with_reducible rfl
  try simp only [Act.put, List.setIfInBounds_toArray, List.set_cons_zero, List.set_cons_succ]
  refine h_take 2 (v := ?v2) rfl (by kernel_rfl) (by kernel_rfl) (by kernel_rfl) (fun _ _ _ h => h) (by rfl) ?hy2 (by assumption) ?_
  case hy2 =>
    intro w' hSw
    try dsimp only at hSw
    go_simp
    try with_reducible rfl
  try simp only [Act.put, List.setIfInBounds_toArray, List.set_cons_zero, List.set_cons_succ]
  refine h_take 4 (v := ?v4) rfl (by kernel_rfl) (by kernel_rfl) (by kernel_rfl) (fun _ _ _ h => h) (by rfl) ?hy4 (by assumption) ?_
  case hy4 =>
    intro w' hSw
    try dsimp only at hSw
    go_simp
    try with_reducible rfl
  try simp only [Act.put, List.setIfInBounds_toArray, List.set_cons_zero, List.set_cons_succ]
  refine h_take 5 (v := ?v5) rfl (by kernel_rfl) (by kernel_rfl) (by kernel_rfl) (fun _ _ _ h => h) (by rfl) ?hy5 (by assumption) ?_
  case hy5 =>
    intro w' hSw
    try dsimp only at hSw
    go_simp
    try with_reducible rfl
  try simp only [Act.put, List.setIfInBounds_toArray, List.set_cons_zero, List.set_cons_succ]
  refine h_take 6 (v := ?v6) rfl (by kernel_rfl) (by kernel_rfl) (by kernel_rfl) (fun _ _ _ h => h) (by rfl) ?hy6 (by assumption) ?_
  case hy6 =>
    intro w' hSw
    try dsimp only at hSw
    go_simp
    try with_reducible rfl
  try simp only [Act.put, List.setIfInBounds_toArray, List.set_cons_zero, List.set_cons_succ]
  refine h_call 3 rfl (by kernel_rfl) (by rfl) (fun Kk hK => ?_)
  go_simp
  refine (kM.out X (.slice xa xn xc) w1.drew Lx.out N1.out I1.out).mono ?_
  rintro e w2 ⟨v2, rfl, hn2, g2'⟩
  have g2 : Below w1.heap.size w1 w2 := (Below.refl _ w1).drew.trans g2'
  clear g2'
  have A2 := hold (A1.out.below g2)
  have K2 : w2.cell? ⟨w.heap.size, 0, none⟩ = some (.slice xa xn xc) ∧ w2.cell? ⟨w.heap.size, 1, none⟩ = some (.slice ya yn yc) := ⟨A2.out.cell 0, A2.out.cell 1⟩
  have R2 : Hid (Num w2 v2 (X * r % P25)) := hn2
  have Y2 := hold (Y1.out.below g2)
  have I2 := hold (I1.out.below g2)
  have G2 := hold (G1.out.trans (g2.mono G1.out.size))
  obtain ⟨a2, b2, c2, rfl⟩ := hn2.shape
  clear hn2 g2
  clear hHeld
  refine hK.out _ _ K2 (fun hHeld => ?_)
  clear hK Kk
  try simp only [Act.put, List.setIfInBounds_toArray, List.set_cons_zero, List.set_cons_succ]
  refine h_call 7 rfl (by kernel_rfl) (by rfl) (fun Kk hK => ?_)
  go_simp
  refine (kM.out Y (.slice ya yn yc) w2 Ly.out Y2.out I2.out).mono ?_
  rintro e w3 ⟨v3, rfl, hn3, g3⟩
  have A3 := hold (A2.out.below g3)
  have K3 : w3.cell? ⟨w.heap.size, 0, none⟩ = some (.slice xa xn xc) ∧ w3.cell? ⟨w.heap.size, 1, none⟩ = some (.slice ya yn yc) := ⟨A3.out.cell 0, A3.out.cell 1⟩
  have R3 := hold (R2.out.below g3)
  have Q3 : Hid (Num w3 v3 (Y * r % P25)) := hn3
  have G3 := hold (G2.out.trans (g3.mono G2.out.size))
  obtain ⟨a3, b3, c3, rfl⟩ := hn3.shape
  clear hn3 g3
  clear hHeld
  refine hK.out _ _ K3 (fun hHeld => ?_)
  clear hK Kk
  try simp only [Act.put, List.setIfInBounds_toArray, List.set_cons_zero, List.set_cons_succ]
  refine h_take 8 (v := ?v8) rfl (by kernel_rfl) (by kernel_rfl) (by kernel_rfl) (fun _ _ _ h => h) (by rfl) ?hy8 (by assumption) ?_
  case hy8 =>
    intro w' hSw
    try dsimp only at hSw
    go_simp
    try with_reducible rfl
  try simp only [Act.put, List.setIfInBounds_toArray, List.set_cons_zero, List.set_cons_succ]
  refine h_take 9 (v := ?v9) rfl (by kernel_rfl) (by kernel_rfl) (by kernel_rfl) (fun _ _ _ h => h) (by rfl) ?hy9 (by assumption) ?_
  case hy9 =>
    intro w' hSw
    try dsimp only at hSw
    go_simp
    try with_reducible rfl
  try simp only [Act.put, List.setIfInBounds_toArray, List.set_cons_zero, List.set_cons_succ]
  refine wpAnyH_done (by kernel_rfl) ?_ _
  go_wp2_with fail
  go_ret2
  exact ⟨_, _, rfl, R3.out, Q3.out, G3.out⟩
end Go.Proofs.YtkbiiolkekpkiaaDoor.Ed
