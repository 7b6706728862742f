/-
  The walk of the law RingReduces: for any modulus, any number of four words and any of eight it returns true and changes no memory that was there. Conditions: as each theorem says.
-/
import Derived.Test.YtkaekgjpjnnjpaaRingS
import Derived.Test.YtkaekgjpjnnjpaaRingT
import Derived.Test.YtkaekgjpjnnjpaaRefR
namespace Go.Proofs.Ytkaekgjpjnnjpaa
open Go.RowKit
set_option linter.unusedVariables false

set_option maxHeartbeats 1000000 in
theorem rred_no (m x y : Nat) (hm : m < M4) (hx : x < M4) (hy : y < M4 * M4) (h : m % 2 = 0 ∨ m = 1) (w : World) :
    Calls Try.prog 3 #[four m, four x, eight y] w fun e w' => e = .returned (.bool true) ∧ Below w.heap.size w w' := by
  have CN := fun w => new_none w m hm h
  have CO := fun w => odd_no m hm h w
  obtain ⟨m0, m1, m2, m3, -, -, -, -, em, -⟩ := four_open m hm
  obtain ⟨x0, x1, x2, x3, -, -, -, -, ex, -⟩ := four_open x hx
  obtain ⟨n0, n1, n2, n3, n4, n5, n6, n7, ey, -, -⟩ := eight_nat y hy
  rw [em] at CN CO
  rw [em, ex, ey]
  clear em ex ey hm hx hy h
  go_enter Try.func3, Try.ntmps3
  go_wp2_with fail
  refine (awake3_any _).mono ?_
  rintro e w1 ⟨rfl, g1⟩
  have G_1 : Hid (Below w.heap.size w w1) := Below.trans (by (repeat (first | exact Below.refl _ _ | refine Below.drew ?_ | refine Below.alloc ?_ (by first | omega | (simp <;> omega)) _ | refine Below.setCell ?_ (by first | omega | (simp <;> omega)) _)); done) (g1.mono (by first | omega | (simp <;> omega)))
  have M_1 : Hid (Blk w1 w.heap.size m0 m1 m2 m3) := Blk.below (by (repeat (first | exact Blk.new_at _ _ _ _ _ _ _ (by simp) | refine Blk.drew ?_ | refine Blk.alloc ?_ _)); done) g1
  clear g1
  obtain ⟨a0, a1, a2, a3, a4, a5⟩ := M_1.out
  go_wp2_with fail
  refine (CN _).mono ?_
  rintro e w2 ⟨rfl, g2⟩
  have G_2 : Hid (Below w.heap.size w w2) := G_1.out.trans (g2.mono G_1.out.size)
  have M_2 : Hid (Blk w2 w.heap.size m0 m1 m2 m3) := M_1.out.below g2
  clear g2 M_1 G_1 a0 a1 a2 a3 a4 a5
  obtain ⟨a0, a1, a2, a3, a4, a5⟩ := M_2.out
  go_wp2_with fail
  refine (CO _).mono ?_
  rintro e w3 ⟨rfl, g3⟩
  have G_3 : Hid (Below w.heap.size w w3) := G_2.out.trans (g3.mono G_2.out.size)
  clear g3 M_2 G_2 a0 a1 a2 a3 a4 a5
  go_wp2_with fail
  go_ret
  exact ⟨rfl, G_3.out⟩

set_option maxRecDepth 100000 in
set_option maxHeartbeats 8000000 in
theorem rred_yes (m x y : Nat) (hm : m < M4) (hx : x < M4) (hy : y < M4 * M4) (h1 : m % 2 = 1) (h2 : 1 < m) (w : World) :
    Calls Try.prog 3 #[four m, four x, eight y] w fun e w' => e = .returned (.bool true) ∧ Below w.heap.size w w' := by
  have hp : x % m < M4 := Nat.lt_trans (Nat.mod_lt _ (by omega)) hm
  have hq : y % m < M4 := Nat.lt_trans (Nat.mod_lt _ (by omega)) hm
  obtain ⟨m0, m1, m2, m3, -, -, -, -, em, -⟩ := four_open m hm
  obtain ⟨x0, x1, x2, x3, -, -, -, -, ex, -⟩ := four_open x hx
  obtain ⟨p0, p1, p2, p3, -, -, -, -, ep, -⟩ := four_open _ hp
  obtain ⟨q0, q1, q2, q3, -, -, -, -, eq, -⟩ := four_open _ hq
  obtain ⟨n0, n1, n2, n3, n4, n5, n6, n7, ey, hww, hval⟩ := eight_nat y hy
  have hX : x < 16777216 ^ 22 := Nat.lt_of_lt_of_le hx (by unfold M4; decide)
  have hY : y < 16777216 ^ 22 := Nat.lt_of_lt_of_le hy (by unfold M4; decide)
  have hM : m < 16777216 ^ 22 := Nat.lt_of_lt_of_le hm (by unfold M4; decide)
  have hP : x % m < 16777216 ^ 22 := Nat.lt_of_lt_of_le hp (by unfold M4; decide)
  have hQ : y % m < 16777216 ^ 22 := Nat.lt_of_lt_of_le hq (by unfold M4; decide)
  have CN : Hid (∀ w, Calls Try.prog 8 #[.agg #[.int .u64 m0, .int .u64 m1, .int .u64 m2, .int .u64 m3]] w fun e w' => e = .returned (.tuple #[.pointer (some ⟨w.heap.size + 1, 0, none⟩), .int .i64 0]) ∧ Rg w' (w.heap.size + 1) m ∧ Below w.heap.size w w') := by
    intro w; have := new_any w m hm h1 h2; rwa [em] at this
  have CD : Hid (∀ w, Calls Try.prog 9 #[.agg #[.int .u64 m0, .int .u64 m1, .int .u64 m2, .int .u64 m3]] w fun e w' => e = .returned (.bool true) ∧ Below w.heap.size w w') := by
    intro w; have := odd_yes m hm h1 h2 w; rwa [em] at this
  have COm : Hid (∀ w, Calls Try.prog 10 #[.agg #[.int .u64 m0, .int .u64 m1, .int .u64 m2, .int .u64 m3]] w fun e w' => ∃ v, e = .returned v ∧ Num w' v m ∧ Below w.heap.size w w') := by
    intro w; have := of_ref_any m hm w; rwa [em] at this
  have COx : Hid (∀ w, Calls Try.prog 10 #[.agg #[.int .u64 x0, .int .u64 x1, .int .u64 x2, .int .u64 x3]] w fun e w' => ∃ v, e = .returned v ∧ Num w' v x ∧ Below w.heap.size w w') := by
    intro w; have := of_ref_any x hx w; rwa [ex] at this
  have CM : Hid (∀ w b, Rg w b m → Calls Try.prog 11 #[.pointer (some ⟨b, 0, none⟩)] w fun e w' => e = .returned (.agg #[.int .u64 m0, .int .u64 m1, .int .u64 m2, .int .u64 m3]) ∧ Below w.heap.size w w') := by
    intro w b h; have := modulus_ring w b m h.1; rwa [em] at this
  have CR : Hid (∀ w b, Rg w b m → Calls Try.prog 12 #[.pointer (some ⟨b, 0, none⟩), .agg #[.int .u64 x0, .int .u64 x1, .int .u64 x2, .int .u64 x3]] w fun e w' => e = .returned (.agg #[.int .u64 p0, .int .u64 p1, .int .u64 p2, .int .u64 p3]) ∧ Below w.heap.size w w') := by
    intro w b h; have := reduce_ring w b m x h hx; rwa [ex, ep] at this
  have CW : Hid (∀ w b, Rg w b m → Calls Try.prog 15 #[.pointer (some ⟨b, 0, none⟩), .agg #[.int .u64 (n0 : Int), .int .u64 (n1 : Int), .int .u64 (n2 : Int), .int .u64 (n3 : Int), .int .u64 (n4 : Int), .int .u64 (n5 : Int), .int .u64 (n6 : Int), .int .u64 (n7 : Int)]] w fun e w' => e = .returned (.agg #[.int .u64 q0, .int .u64 q1, .int .u64 q2, .int .u64 q3]) ∧ Below w.heap.size w w') := by
    intro w b h; have := wide_ring w b m y h hy; rwa [ey, eq] at this
  have CX : Hid (∀ w va vb, Num w va x → Num w vb m → Calls Try.prog 14 #[va, vb] w fun e w' => ∃ r, e = .returned r ∧ Num w' r (x % m) ∧ Below w.heap.size w w') := fun w va vb ha hb => mod_num x m va vb w ha hb (by omega) 22 hX hM (by omega)
  have CY : Hid (∀ w va vb, Num w va y → Num w vb m → Calls Try.prog 14 #[va, vb] w fun e w' => ∃ r, e = .returned r ∧ Num w' r (y % m) ∧ Below w.heap.size w w') := fun w va vb ha hb => mod_num y m va vb w ha hb (by omega) 22 hY hM (by omega)
  have CF : Hid (∀ w va, Num w va (x % m) → Calls Try.prog 13 #[va] w fun e w' => e = .returned (.agg #[.int .u64 p0, .int .u64 p1, .int .u64 p2, .int .u64 p3]) ∧ Below w.heap.size w w') := by
    intro w va ha; have := four_num _ va w ha 22 hP (by omega); rwa [Nat.mod_eq_of_lt hp, ep] at this
  have CG : Hid (∀ w va, Num w va (y % m) → Calls Try.prog 13 #[va] w fun e w' => e = .returned (.agg #[.int .u64 q0, .int .u64 q1, .int .u64 q2, .int .u64 q3]) ∧ Below w.heap.size w w') := by
    intro w va ha; have := four_num _ va w ha 22 hQ (by omega); rwa [Nat.mod_eq_of_lt hq, eq] at this
  have CL : Hid (∀ w va, SK .u64 w va [n0, n1, n2, n3, n4, n5, n6, n7] → Calls Try.prog 16 #[va] w fun e w' => ∃ v, e = .returned v ∧ Num w' v y ∧ Below w.heap.size w w') := by
    intro w va ha; have := words_any _ va w ha hww (by simp); rwa [hval] at this
  rw [em, ex, ey]
  clear em ex ey ep eq hm hx hy hp hq hX hY hM hP hQ hww hval h1 h2
  have e4 := eql4
  have i0 := idx8_0
  have i1 := idx8_1
  have i2 := idx8_2
  have i3 := idx8_3
  have i4 := idx8_4
  have i5 := idx8_5
  have i6 := idx8_6
  have i7 := idx8_7
  go_enter Try.func3, Try.ntmps3
  go_wp2_with fail
  refine (awake3_any _).mono ?_
  rintro e w1 ⟨rfl, g1⟩
  have G_1 : Hid (Below w.heap.size w w1) := Below.trans (by (repeat (first | exact Below.refl _ _ | refine Below.drew ?_ | refine Below.alloc ?_ (by first | omega | (simp <;> omega)) _ | refine Below.setCell ?_ (by first | omega | (simp <;> omega)) _)); done) (g1.mono (by first | omega | (simp <;> omega)))
  have M_1 : Hid (Blk w1 w.heap.size m0 m1 m2 m3) := Blk.below (by (repeat (first | exact Blk.new_at _ _ _ _ _ _ _ (by simp) | refine Blk.drew ?_ | refine Blk.alloc ?_ _)); done) g1
  have X_1 : Hid (Blk w1 (w.heap.size + 1) x0 x1 x2 x3) := Blk.below (by (repeat (first | exact Blk.new_at _ _ _ _ _ _ _ (by simp) | refine Blk.drew ?_ | refine Blk.alloc ?_ _)); done) g1
  have Y_1 : Hid (Bx8 w1 (w.heap.size + 1 + 1) (n0 : Int) (n1 : Int) (n2 : Int) (n3 : Int) (n4 : Int) (n5 : Int) (n6 : Int) (n7 : Int)) := Bx8.below (by (repeat (first | exact Bx8.new_at _ _ _ _ _ _ _ _ _ _ _ (by simp) | refine Bx8.drew ?_ | refine Bx8.alloc ?_ _)); done) g1
  clear g1
  obtain ⟨a0, a1, a2, a3, a4, a5⟩ := M_1.out
  go_wp2_with fail
  refine (CN.out _).mono ?_
  rintro e w2 ⟨rfl, hr2, g2⟩
  have R_2 : Hid (Rg w2 (w1.heap.size + 1) m) := hr2
  have M_2 : Hid (Blk w2 w.heap.size m0 m1 m2 m3) := M_1.out.below g2
  have X_2 : Hid (Blk w2 (w.heap.size + 1) x0 x1 x2 x3) := X_1.out.below g2
  have Y_2 : Hid (Bx8 w2 (w.heap.size + 1 + 1) (n0 : Int) (n1 : Int) (n2 : Int) (n3 : Int) (n4 : Int) (n5 : Int) (n6 : Int) (n7 : Int)) := Y_1.out.below g2
  have G_2 : Hid (Below w.heap.size w w2) := G_1.out.trans (g2.mono G_1.out.size)
  clear M_1 X_1 Y_1 G_1 g2
  clear hr2
  clear a0 a1 a2 a3 a4 a5
  obtain ⟨a0, a1, a2, a3, a4, a5⟩ := M_2.out
  go_wp2_with fail
  refine (CD.out _).mono ?_
  rintro e w3 ⟨rfl, g3⟩
  have M_3 : Hid (Blk w3 w.heap.size m0 m1 m2 m3) := M_2.out.below g3
  have X_3 : Hid (Blk w3 (w.heap.size + 1) x0 x1 x2 x3) := X_2.out.below g3
  have Y_3 : Hid (Bx8 w3 (w.heap.size + 1 + 1) (n0 : Int) (n1 : Int) (n2 : Int) (n3 : Int) (n4 : Int) (n5 : Int) (n6 : Int) (n7 : Int)) := Y_2.out.below g3
  have R_3 : Hid (Rg w3 (w1.heap.size + 1) m) := R_2.out.below g3
  have G_3 : Hid (Below w.heap.size w w3) := G_2.out.trans (g3.mono G_2.out.size)
  clear M_2 X_2 Y_2 R_2 G_2 g3
  clear a0 a1 a2 a3 a4 a5
  obtain ⟨a0, a1, a2, a3, a4, a5⟩ := M_3.out
  go_wp2_with fail
  refine (COm.out _).mono ?_
  rintro e w4 ⟨v4, rfl, hn4, g4⟩
  obtain ⟨na, nc, nd, rfl⟩ := hn4.shape
  have N_4 : Hid (Num w4 (.slice na nc nd) m) := hn4
  have M_4 : Hid (Blk w4 w.heap.size m0 m1 m2 m3) := M_3.out.below g4
  have X_4 : Hid (Blk w4 (w.heap.size + 1) x0 x1 x2 x3) := X_3.out.below g4
  have Y_4 : Hid (Bx8 w4 (w.heap.size + 1 + 1) (n0 : Int) (n1 : Int) (n2 : Int) (n3 : Int) (n4 : Int) (n5 : Int) (n6 : Int) (n7 : Int)) := Y_3.out.below g4
  have R_4 : Hid (Rg w4 (w1.heap.size + 1) m) := R_3.out.below g4
  have G_4 : Hid (Below w.heap.size w w4) := G_3.out.trans (g4.mono G_3.out.size)
  clear M_3 X_3 Y_3 R_3 G_3 g4
  clear hn4
  clear a0 a1 a2 a3 a4 a5
  obtain ⟨y0, y1, y2, y3, y4, y5, y6, y7, y8⟩ := Y_4.out
  have O0 : Hid (OwnW w4.heap.size w4 (.slice none 0 0) []) := OwnW.nil _ _
  have H0 : Hid (Below w4.heap.size w4 w4) := Below.refl _ _
  go_wp2_with fail
  refine wp_unr 9 ?_
  refine unr_succ ?_
  have z0 := H0.out.size
  go_wp2_with (at_builtin; refine wpList_app1W rfl _ _ rfl w4.heap.size (.slice none 0 0) [] n0 rfl O0.out rfl (by simp) z0 ?_; intro v0' u0 hown' hb')
  have O1 : Hid (OwnW w4.heap.size u0 v0' [n0]) := hown'
  have H1 : Hid (Below w4.heap.size w4 u0) := H0.out.trans hb'
  clear hown' hb' O0 H0 z0
  refine unr_succ ?_
  have z1 := H1.out.size
  go_wp2_with (at_builtin; refine wpList_app1W rfl _ _ rfl w4.heap.size v0' [n0] n1 rfl O1.out rfl (by simp) z1 ?_; intro v1' u1 hown' hb')
  have O2 : Hid (OwnW w4.heap.size u1 v1' [n0, n1]) := hown'
  have H2 : Hid (Below w4.heap.size w4 u1) := H1.out.trans hb'
  clear hown' hb' O1 H1 z1
  refine unr_succ ?_
  have z2 := H2.out.size
  go_wp2_with (at_builtin; refine wpList_app1W rfl _ _ rfl w4.heap.size v1' [n0, n1] n2 rfl O2.out rfl (by simp) z2 ?_; intro v2' u2 hown' hb')
  have O3 : Hid (OwnW w4.heap.size u2 v2' [n0, n1, n2]) := hown'
  have H3 : Hid (Below w4.heap.size w4 u2) := H2.out.trans hb'
  clear hown' hb' O2 H2 z2
  refine unr_succ ?_
  have z3 := H3.out.size
  go_wp2_with (at_builtin; refine wpList_app1W rfl _ _ rfl w4.heap.size v2' [n0, n1, n2] n3 rfl O3.out rfl (by simp) z3 ?_; intro v3' u3 hown' hb')
  have O4 : Hid (OwnW w4.heap.size u3 v3' [n0, n1, n2, n3]) := hown'
  have H4 : Hid (Below w4.heap.size w4 u3) := H3.out.trans hb'
  clear hown' hb' O3 H3 z3
  refine unr_succ ?_
  have z4 := H4.out.size
  go_wp2_with (at_builtin; refine wpList_app1W rfl _ _ rfl w4.heap.size v3' [n0, n1, n2, n3] n4 rfl O4.out rfl (by simp) z4 ?_; intro v4' u4 hown' hb')
  have O5 : Hid (OwnW w4.heap.size u4 v4' [n0, n1, n2, n3, n4]) := hown'
  have H5 : Hid (Below w4.heap.size w4 u4) := H4.out.trans hb'
  clear hown' hb' O4 H4 z4
  refine unr_succ ?_
  have z5 := H5.out.size
  go_wp2_with (at_builtin; refine wpList_app1W rfl _ _ rfl w4.heap.size v4' [n0, n1, n2, n3, n4] n5 rfl O5.out rfl (by simp) z5 ?_; intro v5' u5 hown' hb')
  have O6 : Hid (OwnW w4.heap.size u5 v5' [n0, n1, n2, n3, n4, n5]) := hown'
  have H6 : Hid (Below w4.heap.size w4 u5) := H5.out.trans hb'
  clear hown' hb' O5 H5 z5
  refine unr_succ ?_
  have z6 := H6.out.size
  go_wp2_with (at_builtin; refine wpList_app1W rfl _ _ rfl w4.heap.size v5' [n0, n1, n2, n3, n4, n5] n6 rfl O6.out rfl (by simp) z6 ?_; intro v6' u6 hown' hb')
  have O7 : Hid (OwnW w4.heap.size u6 v6' [n0, n1, n2, n3, n4, n5, n6]) := hown'
  have H7 : Hid (Below w4.heap.size w4 u6) := H6.out.trans hb'
  clear hown' hb' O6 H6 z6
  refine unr_succ ?_
  have z7 := H7.out.size
  go_wp2_with (at_builtin; refine wpList_app1W rfl _ _ rfl w4.heap.size v6' [n0, n1, n2, n3, n4, n5, n6] n7 rfl O7.out rfl (by simp) z7 ?_; intro v7' u7 hown' hb')
  have O8 : Hid (OwnW w4.heap.size u7 v7' [n0, n1, n2, n3, n4, n5, n6, n7]) := hown'
  have H8 : Hid (Below w4.heap.size w4 u7) := H7.out.trans hb'
  clear hown' hb' O7 H7 z7
  refine unr_succ ?_
  go_wp2_with fail
  have SK8 : SK .u64 u7 v7' [n0, n1, n2, n3, n4, n5, n6, n7] := O8.out.sk
  obtain ⟨la, ld, hv7⟩ := SK8.shape
  simp only [List.length_cons, List.length_nil, Nat.reduceAdd] at hv7
  subst hv7
  obtain ⟨w5, hw5⟩ : ∃ w5, u7 = w5 := ⟨_, rfl⟩
  have L_5 : Hid (SK .u64 w5 (.slice la 8 ld) [n0, n1, n2, n3, n4, n5, n6, n7]) := hw5 ▸ SK8
  have g5 : Below w4.heap.size w4 w5 := hw5 ▸ H8.out
  rw [hw5]
  clear hw5 SK8 O8 H8 y0 y1 y2 y3 y4 y5 y6 y7 y8 i0 i1 i2 i3 i4 i5 i6 i7
  have M_5 : Hid (Blk w5 w.heap.size m0 m1 m2 m3) := M_4.out.below g5
  have X_5 : Hid (Blk w5 (w.heap.size + 1) x0 x1 x2 x3) := X_4.out.below g5
  have Y_5 : Hid (Bx8 w5 (w.heap.size + 1 + 1) (n0 : Int) (n1 : Int) (n2 : Int) (n3 : Int) (n4 : Int) (n5 : Int) (n6 : Int) (n7 : Int)) := Y_4.out.below g5
  have R_5 : Hid (Rg w5 (w1.heap.size + 1) m) := R_4.out.below g5
  have N_5 : Hid (Num w5 (.slice na nc nd) m) := N_4.out.below g5
  have G_5 : Hid (Below w.heap.size w w5) := G_4.out.trans (g5.mono G_4.out.size)
  clear M_4 X_4 Y_4 R_4 N_4 G_4 g5
  have K : w5.drew.cell? ⟨w.heap.size, 0, none⟩ = some (.int .u64 m0) ∧ w5.drew.cell? ⟨w.heap.size, 1, none⟩ = some (.int .u64 m1) ∧ w5.drew.cell? ⟨w.heap.size, 2, none⟩ = some (.int .u64 m2) ∧ w5.drew.cell? ⟨w.heap.size, 3, none⟩ = some (.int .u64 m3) ∧ w5.drew.cell? ⟨w.heap.size + 1, 0, none⟩ = some (.int .u64 x0) ∧ w5.drew.cell? ⟨w.heap.size + 1, 1, none⟩ = some (.int .u64 x1) ∧ w5.drew.cell? ⟨w.heap.size + 1, 2, none⟩ = some (.int .u64 x2) ∧ w5.drew.cell? ⟨w.heap.size + 1, 3, none⟩ = some (.int .u64 x3) ∧ w5.drew.cell? ⟨w.heap.size + 1 + 1, 0, none⟩ = some (.int .u64 (n0 : Int)) ∧ w5.drew.cell? ⟨w.heap.size + 1 + 1, 1, none⟩ = some (.int .u64 (n1 : Int)) ∧ w5.drew.cell? ⟨w.heap.size + 1 + 1, 2, none⟩ = some (.int .u64 (n2 : Int)) ∧ w5.drew.cell? ⟨w.heap.size + 1 + 1, 3, none⟩ = some (.int .u64 (n3 : Int)) ∧ w5.drew.cell? ⟨w.heap.size + 1 + 1, 4, none⟩ = some (.int .u64 (n4 : Int)) ∧ w5.drew.cell? ⟨w.heap.size + 1 + 1, 5, none⟩ = some (.int .u64 (n5 : Int)) ∧ w5.drew.cell? ⟨w.heap.size + 1 + 1, 6, none⟩ = some (.int .u64 (n6 : Int)) ∧ w5.drew.cell? ⟨w.heap.size + 1 + 1, 7, none⟩ = some (.int .u64 (n7 : Int)) := ⟨M_5.out.drew.c0, M_5.out.drew.c1, M_5.out.drew.c2, M_5.out.drew.c3, X_5.out.drew.c0, X_5.out.drew.c1, X_5.out.drew.c2, X_5.out.drew.c3, Y_5.out.drew.c0, Y_5.out.drew.c1, Y_5.out.drew.c2, Y_5.out.drew.c3, Y_5.out.drew.c4, Y_5.out.drew.c5, Y_5.out.drew.c6, Y_5.out.drew.c7⟩
  have D_5 : Hid (Below w5.heap.size w5 w5.drew) := (Below.refl _ _).drew
  go_wp2_with fail
  go_region_held3 (fun w' => w'.cell? ⟨w.heap.size, 0, none⟩ = some (.int .u64 m0) ∧ w'.cell? ⟨w.heap.size, 1, none⟩ = some (.int .u64 m1) ∧ w'.cell? ⟨w.heap.size, 2, none⟩ = some (.int .u64 m2) ∧ w'.cell? ⟨w.heap.size, 3, none⟩ = some (.int .u64 m3) ∧ w'.cell? ⟨w.heap.size + 1, 0, none⟩ = some (.int .u64 x0) ∧ w'.cell? ⟨w.heap.size + 1, 1, none⟩ = some (.int .u64 x1) ∧ w'.cell? ⟨w.heap.size + 1, 2, none⟩ = some (.int .u64 x2) ∧ w'.cell? ⟨w.heap.size + 1, 3, none⟩ = some (.int .u64 x3) ∧ w'.cell? ⟨w.heap.size + 1 + 1, 0, none⟩ = some (.int .u64 (n0 : Int)) ∧ w'.cell? ⟨w.heap.size + 1 + 1, 1, none⟩ = some (.int .u64 (n1 : Int)) ∧ w'.cell? ⟨w.heap.size + 1 + 1, 2, none⟩ = some (.int .u64 (n2 : Int)) ∧ w'.cell? ⟨w.heap.size + 1 + 1, 3, none⟩ = some (.int .u64 (n3 : Int)) ∧ w'.cell? ⟨w.heap.size + 1 + 1, 4, none⟩ = some (.int .u64 (n4 : Int)) ∧ w'.cell? ⟨w.heap.size + 1 + 1, 5, none⟩ = some (.int .u64 (n5 : Int)) ∧ w'.cell? ⟨w.heap.size + 1 + 1, 6, none⟩ = some (.int .u64 (n6 : Int)) ∧ w'.cell? ⟨w.heap.size + 1 + 1, 7, none⟩ = some (.int .u64 (n7 : Int))) (assumption)
    (first
      | (go_at_call 13; (refine (CG.out _ _ B_13.out).mono ?_); (rintro e w14 ⟨rfl, g14⟩; have M_14 : Hid (Blk w14 w.heap.size m0 m1 m2 m3) := M_13.out.below g14; have X_14 : Hid (Blk w14 (w.heap.size + 1) x0 x1 x2 x3) := X_13.out.below g14; have Y_14 : Hid (Bx8 w14 (w.heap.size + 1 + 1) (n0 : Int) (n1 : Int) (n2 : Int) (n3 : Int) (n4 : Int) (n5 : Int) (n6 : Int) (n7 : Int)) := Y_13.out.below g14; have R_14 : Hid (Rg w14 (w1.heap.size + 1) m) := R_13.out.below g14; have N_14 : Hid (Num w14 (.slice na nc nd) m) := N_13.out.below g14; have G_14 : Hid (Below w.heap.size w w14) := G_13.out.trans (g14.mono G_13.out.size); clear M_13 X_13 Y_13 R_13 N_13 B_13 G_13 g14; clear K; have K : w14.cell? ⟨w.heap.size, 0, none⟩ = some (.int .u64 m0) ∧ w14.cell? ⟨w.heap.size, 1, none⟩ = some (.int .u64 m1) ∧ w14.cell? ⟨w.heap.size, 2, none⟩ = some (.int .u64 m2) ∧ w14.cell? ⟨w.heap.size, 3, none⟩ = some (.int .u64 m3) ∧ w14.cell? ⟨w.heap.size + 1, 0, none⟩ = some (.int .u64 x0) ∧ w14.cell? ⟨w.heap.size + 1, 1, none⟩ = some (.int .u64 x1) ∧ w14.cell? ⟨w.heap.size + 1, 2, none⟩ = some (.int .u64 x2) ∧ w14.cell? ⟨w.heap.size + 1, 3, none⟩ = some (.int .u64 x3) ∧ w14.cell? ⟨w.heap.size + 1 + 1, 0, none⟩ = some (.int .u64 (n0 : Int)) ∧ w14.cell? ⟨w.heap.size + 1 + 1, 1, none⟩ = some (.int .u64 (n1 : Int)) ∧ w14.cell? ⟨w.heap.size + 1 + 1, 2, none⟩ = some (.int .u64 (n2 : Int)) ∧ w14.cell? ⟨w.heap.size + 1 + 1, 3, none⟩ = some (.int .u64 (n3 : Int)) ∧ w14.cell? ⟨w.heap.size + 1 + 1, 4, none⟩ = some (.int .u64 (n4 : Int)) ∧ w14.cell? ⟨w.heap.size + 1 + 1, 5, none⟩ = some (.int .u64 (n5 : Int)) ∧ w14.cell? ⟨w.heap.size + 1 + 1, 6, none⟩ = some (.int .u64 (n6 : Int)) ∧ w14.cell? ⟨w.heap.size + 1 + 1, 7, none⟩ = some (.int .u64 (n7 : Int)) := ⟨M_14.out.c0, M_14.out.c1, M_14.out.c2, M_14.out.c3, X_14.out.c0, X_14.out.c1, X_14.out.c2, X_14.out.c3, Y_14.out.c0, Y_14.out.c1, Y_14.out.c2, Y_14.out.c3, Y_14.out.c4, Y_14.out.c5, Y_14.out.c6, Y_14.out.c7⟩))
      | (go_at_call 14; (refine (CY.out _ _ _ A_12.out N_12.out).mono ?_); (rintro e w13 ⟨v13, rfl, hn13, g13⟩; obtain ⟨fa, fc, fd, rfl⟩ := hn13.shape; have B_13 : Hid (Num w13 (.slice fa fc fd) (y % m)) := hn13; have M_13 : Hid (Blk w13 w.heap.size m0 m1 m2 m3) := M_12.out.below g13; have X_13 : Hid (Blk w13 (w.heap.size + 1) x0 x1 x2 x3) := X_12.out.below g13; have Y_13 : Hid (Bx8 w13 (w.heap.size + 1 + 1) (n0 : Int) (n1 : Int) (n2 : Int) (n3 : Int) (n4 : Int) (n5 : Int) (n6 : Int) (n7 : Int)) := Y_12.out.below g13; have R_13 : Hid (Rg w13 (w1.heap.size + 1) m) := R_12.out.below g13; have N_13 : Hid (Num w13 (.slice na nc nd) m) := N_12.out.below g13; have G_13 : Hid (Below w.heap.size w w13) := G_12.out.trans (g13.mono G_12.out.size); clear M_12 X_12 Y_12 R_12 N_12 A_12 G_12 g13; clear hn13; clear K; have K : w13.cell? ⟨w.heap.size, 0, none⟩ = some (.int .u64 m0) ∧ w13.cell? ⟨w.heap.size, 1, none⟩ = some (.int .u64 m1) ∧ w13.cell? ⟨w.heap.size, 2, none⟩ = some (.int .u64 m2) ∧ w13.cell? ⟨w.heap.size, 3, none⟩ = some (.int .u64 m3) ∧ w13.cell? ⟨w.heap.size + 1, 0, none⟩ = some (.int .u64 x0) ∧ w13.cell? ⟨w.heap.size + 1, 1, none⟩ = some (.int .u64 x1) ∧ w13.cell? ⟨w.heap.size + 1, 2, none⟩ = some (.int .u64 x2) ∧ w13.cell? ⟨w.heap.size + 1, 3, none⟩ = some (.int .u64 x3) ∧ w13.cell? ⟨w.heap.size + 1 + 1, 0, none⟩ = some (.int .u64 (n0 : Int)) ∧ w13.cell? ⟨w.heap.size + 1 + 1, 1, none⟩ = some (.int .u64 (n1 : Int)) ∧ w13.cell? ⟨w.heap.size + 1 + 1, 2, none⟩ = some (.int .u64 (n2 : Int)) ∧ w13.cell? ⟨w.heap.size + 1 + 1, 3, none⟩ = some (.int .u64 (n3 : Int)) ∧ w13.cell? ⟨w.heap.size + 1 + 1, 4, none⟩ = some (.int .u64 (n4 : Int)) ∧ w13.cell? ⟨w.heap.size + 1 + 1, 5, none⟩ = some (.int .u64 (n5 : Int)) ∧ w13.cell? ⟨w.heap.size + 1 + 1, 6, none⟩ = some (.int .u64 (n6 : Int)) ∧ w13.cell? ⟨w.heap.size + 1 + 1, 7, none⟩ = some (.int .u64 (n7 : Int)) := ⟨M_13.out.c0, M_13.out.c1, M_13.out.c2, M_13.out.c3, X_13.out.c0, X_13.out.c1, X_13.out.c2, X_13.out.c3, Y_13.out.c0, Y_13.out.c1, Y_13.out.c2, Y_13.out.c3, Y_13.out.c4, Y_13.out.c5, Y_13.out.c6, Y_13.out.c7⟩))
      | (go_at_call 16; (refine (CL.out _ _ L_11.out).mono ?_); (rintro e w12 ⟨v12, rfl, hn12, g12⟩; obtain ⟨ea, ec, ed, rfl⟩ := hn12.shape; have A_12 : Hid (Num w12 (.slice ea ec ed) y) := hn12; have M_12 : Hid (Blk w12 w.heap.size m0 m1 m2 m3) := M_11.out.below g12; have X_12 : Hid (Blk w12 (w.heap.size + 1) x0 x1 x2 x3) := X_11.out.below g12; have Y_12 : Hid (Bx8 w12 (w.heap.size + 1 + 1) (n0 : Int) (n1 : Int) (n2 : Int) (n3 : Int) (n4 : Int) (n5 : Int) (n6 : Int) (n7 : Int)) := Y_11.out.below g12; have R_12 : Hid (Rg w12 (w1.heap.size + 1) m) := R_11.out.below g12; have N_12 : Hid (Num w12 (.slice na nc nd) m) := N_11.out.below g12; have G_12 : Hid (Below w.heap.size w w12) := G_11.out.trans (g12.mono G_11.out.size); clear M_11 X_11 Y_11 R_11 N_11 L_11 G_11 g12; clear hn12; clear K; have K : w12.cell? ⟨w.heap.size, 0, none⟩ = some (.int .u64 m0) ∧ w12.cell? ⟨w.heap.size, 1, none⟩ = some (.int .u64 m1) ∧ w12.cell? ⟨w.heap.size, 2, none⟩ = some (.int .u64 m2) ∧ w12.cell? ⟨w.heap.size, 3, none⟩ = some (.int .u64 m3) ∧ w12.cell? ⟨w.heap.size + 1, 0, none⟩ = some (.int .u64 x0) ∧ w12.cell? ⟨w.heap.size + 1, 1, none⟩ = some (.int .u64 x1) ∧ w12.cell? ⟨w.heap.size + 1, 2, none⟩ = some (.int .u64 x2) ∧ w12.cell? ⟨w.heap.size + 1, 3, none⟩ = some (.int .u64 x3) ∧ w12.cell? ⟨w.heap.size + 1 + 1, 0, none⟩ = some (.int .u64 (n0 : Int)) ∧ w12.cell? ⟨w.heap.size + 1 + 1, 1, none⟩ = some (.int .u64 (n1 : Int)) ∧ w12.cell? ⟨w.heap.size + 1 + 1, 2, none⟩ = some (.int .u64 (n2 : Int)) ∧ w12.cell? ⟨w.heap.size + 1 + 1, 3, none⟩ = some (.int .u64 (n3 : Int)) ∧ w12.cell? ⟨w.heap.size + 1 + 1, 4, none⟩ = some (.int .u64 (n4 : Int)) ∧ w12.cell? ⟨w.heap.size + 1 + 1, 5, none⟩ = some (.int .u64 (n5 : Int)) ∧ w12.cell? ⟨w.heap.size + 1 + 1, 6, none⟩ = some (.int .u64 (n6 : Int)) ∧ w12.cell? ⟨w.heap.size + 1 + 1, 7, none⟩ = some (.int .u64 (n7 : Int)) := ⟨M_12.out.c0, M_12.out.c1, M_12.out.c2, M_12.out.c3, X_12.out.c0, X_12.out.c1, X_12.out.c2, X_12.out.c3, Y_12.out.c0, Y_12.out.c1, Y_12.out.c2, Y_12.out.c3, Y_12.out.c4, Y_12.out.c5, Y_12.out.c6, Y_12.out.c7⟩))
      | (go_at_call 15; (refine (CW.out _ _ R_10.out).mono ?_); (rintro e w11 ⟨rfl, g11⟩; have M_11 : Hid (Blk w11 w.heap.size m0 m1 m2 m3) := M_10.out.below g11; have X_11 : Hid (Blk w11 (w.heap.size + 1) x0 x1 x2 x3) := X_10.out.below g11; have Y_11 : Hid (Bx8 w11 (w.heap.size + 1 + 1) (n0 : Int) (n1 : Int) (n2 : Int) (n3 : Int) (n4 : Int) (n5 : Int) (n6 : Int) (n7 : Int)) := Y_10.out.below g11; have R_11 : Hid (Rg w11 (w1.heap.size + 1) m) := R_10.out.below g11; have N_11 : Hid (Num w11 (.slice na nc nd) m) := N_10.out.below g11; have L_11 : Hid (SK .u64 w11 (.slice la 8 ld) [n0, n1, n2, n3, n4, n5, n6, n7]) := L_10.out.below g11; have G_11 : Hid (Below w.heap.size w w11) := G_10.out.trans (g11.mono G_10.out.size); clear M_10 X_10 Y_10 R_10 N_10 L_10 G_10 g11; clear K; have K : w11.cell? ⟨w.heap.size, 0, none⟩ = some (.int .u64 m0) ∧ w11.cell? ⟨w.heap.size, 1, none⟩ = some (.int .u64 m1) ∧ w11.cell? ⟨w.heap.size, 2, none⟩ = some (.int .u64 m2) ∧ w11.cell? ⟨w.heap.size, 3, none⟩ = some (.int .u64 m3) ∧ w11.cell? ⟨w.heap.size + 1, 0, none⟩ = some (.int .u64 x0) ∧ w11.cell? ⟨w.heap.size + 1, 1, none⟩ = some (.int .u64 x1) ∧ w11.cell? ⟨w.heap.size + 1, 2, none⟩ = some (.int .u64 x2) ∧ w11.cell? ⟨w.heap.size + 1, 3, none⟩ = some (.int .u64 x3) ∧ w11.cell? ⟨w.heap.size + 1 + 1, 0, none⟩ = some (.int .u64 (n0 : Int)) ∧ w11.cell? ⟨w.heap.size + 1 + 1, 1, none⟩ = some (.int .u64 (n1 : Int)) ∧ w11.cell? ⟨w.heap.size + 1 + 1, 2, none⟩ = some (.int .u64 (n2 : Int)) ∧ w11.cell? ⟨w.heap.size + 1 + 1, 3, none⟩ = some (.int .u64 (n3 : Int)) ∧ w11.cell? ⟨w.heap.size + 1 + 1, 4, none⟩ = some (.int .u64 (n4 : Int)) ∧ w11.cell? ⟨w.heap.size + 1 + 1, 5, none⟩ = some (.int .u64 (n5 : Int)) ∧ w11.cell? ⟨w.heap.size + 1 + 1, 6, none⟩ = some (.int .u64 (n6 : Int)) ∧ w11.cell? ⟨w.heap.size + 1 + 1, 7, none⟩ = some (.int .u64 (n7 : Int)) := ⟨M_11.out.c0, M_11.out.c1, M_11.out.c2, M_11.out.c3, X_11.out.c0, X_11.out.c1, X_11.out.c2, X_11.out.c3, Y_11.out.c0, Y_11.out.c1, Y_11.out.c2, Y_11.out.c3, Y_11.out.c4, Y_11.out.c5, Y_11.out.c6, Y_11.out.c7⟩))
      | (go_at_call 13; (refine (CF.out _ _ B_9.out).mono ?_); (rintro e w10 ⟨rfl, g10⟩; have M_10 : Hid (Blk w10 w.heap.size m0 m1 m2 m3) := M_9.out.below g10; have X_10 : Hid (Blk w10 (w.heap.size + 1) x0 x1 x2 x3) := X_9.out.below g10; have Y_10 : Hid (Bx8 w10 (w.heap.size + 1 + 1) (n0 : Int) (n1 : Int) (n2 : Int) (n3 : Int) (n4 : Int) (n5 : Int) (n6 : Int) (n7 : Int)) := Y_9.out.below g10; have R_10 : Hid (Rg w10 (w1.heap.size + 1) m) := R_9.out.below g10; have N_10 : Hid (Num w10 (.slice na nc nd) m) := N_9.out.below g10; have L_10 : Hid (SK .u64 w10 (.slice la 8 ld) [n0, n1, n2, n3, n4, n5, n6, n7]) := L_9.out.below g10; have G_10 : Hid (Below w.heap.size w w10) := G_9.out.trans (g10.mono G_9.out.size); clear M_9 X_9 Y_9 R_9 N_9 L_9 B_9 G_9 g10; clear K; have K : w10.cell? ⟨w.heap.size, 0, none⟩ = some (.int .u64 m0) ∧ w10.cell? ⟨w.heap.size, 1, none⟩ = some (.int .u64 m1) ∧ w10.cell? ⟨w.heap.size, 2, none⟩ = some (.int .u64 m2) ∧ w10.cell? ⟨w.heap.size, 3, none⟩ = some (.int .u64 m3) ∧ w10.cell? ⟨w.heap.size + 1, 0, none⟩ = some (.int .u64 x0) ∧ w10.cell? ⟨w.heap.size + 1, 1, none⟩ = some (.int .u64 x1) ∧ w10.cell? ⟨w.heap.size + 1, 2, none⟩ = some (.int .u64 x2) ∧ w10.cell? ⟨w.heap.size + 1, 3, none⟩ = some (.int .u64 x3) ∧ w10.cell? ⟨w.heap.size + 1 + 1, 0, none⟩ = some (.int .u64 (n0 : Int)) ∧ w10.cell? ⟨w.heap.size + 1 + 1, 1, none⟩ = some (.int .u64 (n1 : Int)) ∧ w10.cell? ⟨w.heap.size + 1 + 1, 2, none⟩ = some (.int .u64 (n2 : Int)) ∧ w10.cell? ⟨w.heap.size + 1 + 1, 3, none⟩ = some (.int .u64 (n3 : Int)) ∧ w10.cell? ⟨w.heap.size + 1 + 1, 4, none⟩ = some (.int .u64 (n4 : Int)) ∧ w10.cell? ⟨w.heap.size + 1 + 1, 5, none⟩ = some (.int .u64 (n5 : Int)) ∧ w10.cell? ⟨w.heap.size + 1 + 1, 6, none⟩ = some (.int .u64 (n6 : Int)) ∧ w10.cell? ⟨w.heap.size + 1 + 1, 7, none⟩ = some (.int .u64 (n7 : Int)) := ⟨M_10.out.c0, M_10.out.c1, M_10.out.c2, M_10.out.c3, X_10.out.c0, X_10.out.c1, X_10.out.c2, X_10.out.c3, Y_10.out.c0, Y_10.out.c1, Y_10.out.c2, Y_10.out.c3, Y_10.out.c4, Y_10.out.c5, Y_10.out.c6, Y_10.out.c7⟩))
      | (go_at_call 14; (refine (CX.out _ _ _ A_8.out N_8.out).mono ?_); (rintro e w9 ⟨v9, rfl, hn9, g9⟩; obtain ⟨ba, bc, bd, rfl⟩ := hn9.shape; have B_9 : Hid (Num w9 (.slice ba bc bd) (x % m)) := hn9; have M_9 : Hid (Blk w9 w.heap.size m0 m1 m2 m3) := M_8.out.below g9; have X_9 : Hid (Blk w9 (w.heap.size + 1) x0 x1 x2 x3) := X_8.out.below g9; have Y_9 : Hid (Bx8 w9 (w.heap.size + 1 + 1) (n0 : Int) (n1 : Int) (n2 : Int) (n3 : Int) (n4 : Int) (n5 : Int) (n6 : Int) (n7 : Int)) := Y_8.out.below g9; have R_9 : Hid (Rg w9 (w1.heap.size + 1) m) := R_8.out.below g9; have N_9 : Hid (Num w9 (.slice na nc nd) m) := N_8.out.below g9; have L_9 : Hid (SK .u64 w9 (.slice la 8 ld) [n0, n1, n2, n3, n4, n5, n6, n7]) := L_8.out.below g9; have G_9 : Hid (Below w.heap.size w w9) := G_8.out.trans (g9.mono G_8.out.size); clear M_8 X_8 Y_8 R_8 N_8 L_8 A_8 G_8 g9; clear hn9; clear K; have K : w9.cell? ⟨w.heap.size, 0, none⟩ = some (.int .u64 m0) ∧ w9.cell? ⟨w.heap.size, 1, none⟩ = some (.int .u64 m1) ∧ w9.cell? ⟨w.heap.size, 2, none⟩ = some (.int .u64 m2) ∧ w9.cell? ⟨w.heap.size, 3, none⟩ = some (.int .u64 m3) ∧ w9.cell? ⟨w.heap.size + 1, 0, none⟩ = some (.int .u64 x0) ∧ w9.cell? ⟨w.heap.size + 1, 1, none⟩ = some (.int .u64 x1) ∧ w9.cell? ⟨w.heap.size + 1, 2, none⟩ = some (.int .u64 x2) ∧ w9.cell? ⟨w.heap.size + 1, 3, none⟩ = some (.int .u64 x3) ∧ w9.cell? ⟨w.heap.size + 1 + 1, 0, none⟩ = some (.int .u64 (n0 : Int)) ∧ w9.cell? ⟨w.heap.size + 1 + 1, 1, none⟩ = some (.int .u64 (n1 : Int)) ∧ w9.cell? ⟨w.heap.size + 1 + 1, 2, none⟩ = some (.int .u64 (n2 : Int)) ∧ w9.cell? ⟨w.heap.size + 1 + 1, 3, none⟩ = some (.int .u64 (n3 : Int)) ∧ w9.cell? ⟨w.heap.size + 1 + 1, 4, none⟩ = some (.int .u64 (n4 : Int)) ∧ w9.cell? ⟨w.heap.size + 1 + 1, 5, none⟩ = some (.int .u64 (n5 : Int)) ∧ w9.cell? ⟨w.heap.size + 1 + 1, 6, none⟩ = some (.int .u64 (n6 : Int)) ∧ w9.cell? ⟨w.heap.size + 1 + 1, 7, none⟩ = some (.int .u64 (n7 : Int)) := ⟨M_9.out.c0, M_9.out.c1, M_9.out.c2, M_9.out.c3, X_9.out.c0, X_9.out.c1, X_9.out.c2, X_9.out.c3, Y_9.out.c0, Y_9.out.c1, Y_9.out.c2, Y_9.out.c3, Y_9.out.c4, Y_9.out.c5, Y_9.out.c6, Y_9.out.c7⟩))
      | (go_at_call 10; (refine (COx.out _).mono ?_); (rintro e w8 ⟨v8, rfl, hn8, g8⟩; obtain ⟨aa, ac, ad, rfl⟩ := hn8.shape; have A_8 : Hid (Num w8 (.slice aa ac ad) x) := hn8; have M_8 : Hid (Blk w8 w.heap.size m0 m1 m2 m3) := M_7.out.below g8; have X_8 : Hid (Blk w8 (w.heap.size + 1) x0 x1 x2 x3) := X_7.out.below g8; have Y_8 : Hid (Bx8 w8 (w.heap.size + 1 + 1) (n0 : Int) (n1 : Int) (n2 : Int) (n3 : Int) (n4 : Int) (n5 : Int) (n6 : Int) (n7 : Int)) := Y_7.out.below g8; have R_8 : Hid (Rg w8 (w1.heap.size + 1) m) := R_7.out.below g8; have N_8 : Hid (Num w8 (.slice na nc nd) m) := N_7.out.below g8; have L_8 : Hid (SK .u64 w8 (.slice la 8 ld) [n0, n1, n2, n3, n4, n5, n6, n7]) := L_7.out.below g8; have G_8 : Hid (Below w.heap.size w w8) := G_7.out.trans (g8.mono G_7.out.size); clear M_7 X_7 Y_7 R_7 N_7 L_7 G_7 g8; clear hn8; clear K; have K : w8.cell? ⟨w.heap.size, 0, none⟩ = some (.int .u64 m0) ∧ w8.cell? ⟨w.heap.size, 1, none⟩ = some (.int .u64 m1) ∧ w8.cell? ⟨w.heap.size, 2, none⟩ = some (.int .u64 m2) ∧ w8.cell? ⟨w.heap.size, 3, none⟩ = some (.int .u64 m3) ∧ w8.cell? ⟨w.heap.size + 1, 0, none⟩ = some (.int .u64 x0) ∧ w8.cell? ⟨w.heap.size + 1, 1, none⟩ = some (.int .u64 x1) ∧ w8.cell? ⟨w.heap.size + 1, 2, none⟩ = some (.int .u64 x2) ∧ w8.cell? ⟨w.heap.size + 1, 3, none⟩ = some (.int .u64 x3) ∧ w8.cell? ⟨w.heap.size + 1 + 1, 0, none⟩ = some (.int .u64 (n0 : Int)) ∧ w8.cell? ⟨w.heap.size + 1 + 1, 1, none⟩ = some (.int .u64 (n1 : Int)) ∧ w8.cell? ⟨w.heap.size + 1 + 1, 2, none⟩ = some (.int .u64 (n2 : Int)) ∧ w8.cell? ⟨w.heap.size + 1 + 1, 3, none⟩ = some (.int .u64 (n3 : Int)) ∧ w8.cell? ⟨w.heap.size + 1 + 1, 4, none⟩ = some (.int .u64 (n4 : Int)) ∧ w8.cell? ⟨w.heap.size + 1 + 1, 5, none⟩ = some (.int .u64 (n5 : Int)) ∧ w8.cell? ⟨w.heap.size + 1 + 1, 6, none⟩ = some (.int .u64 (n6 : Int)) ∧ w8.cell? ⟨w.heap.size + 1 + 1, 7, none⟩ = some (.int .u64 (n7 : Int)) := ⟨M_8.out.c0, M_8.out.c1, M_8.out.c2, M_8.out.c3, X_8.out.c0, X_8.out.c1, X_8.out.c2, X_8.out.c3, Y_8.out.c0, Y_8.out.c1, Y_8.out.c2, Y_8.out.c3, Y_8.out.c4, Y_8.out.c5, Y_8.out.c6, Y_8.out.c7⟩))
      | (go_at_call 12; (refine (CR.out _ _ R_6.out).mono ?_); (rintro e w7 ⟨rfl, g7⟩; have M_7 : Hid (Blk w7 w.heap.size m0 m1 m2 m3) := M_6.out.below g7; have X_7 : Hid (Blk w7 (w.heap.size + 1) x0 x1 x2 x3) := X_6.out.below g7; have Y_7 : Hid (Bx8 w7 (w.heap.size + 1 + 1) (n0 : Int) (n1 : Int) (n2 : Int) (n3 : Int) (n4 : Int) (n5 : Int) (n6 : Int) (n7 : Int)) := Y_6.out.below g7; have R_7 : Hid (Rg w7 (w1.heap.size + 1) m) := R_6.out.below g7; have N_7 : Hid (Num w7 (.slice na nc nd) m) := N_6.out.below g7; have L_7 : Hid (SK .u64 w7 (.slice la 8 ld) [n0, n1, n2, n3, n4, n5, n6, n7]) := L_6.out.below g7; have G_7 : Hid (Below w.heap.size w w7) := G_6.out.trans (g7.mono G_6.out.size); clear M_6 X_6 Y_6 R_6 N_6 L_6 G_6 g7; clear K; have K : w7.cell? ⟨w.heap.size, 0, none⟩ = some (.int .u64 m0) ∧ w7.cell? ⟨w.heap.size, 1, none⟩ = some (.int .u64 m1) ∧ w7.cell? ⟨w.heap.size, 2, none⟩ = some (.int .u64 m2) ∧ w7.cell? ⟨w.heap.size, 3, none⟩ = some (.int .u64 m3) ∧ w7.cell? ⟨w.heap.size + 1, 0, none⟩ = some (.int .u64 x0) ∧ w7.cell? ⟨w.heap.size + 1, 1, none⟩ = some (.int .u64 x1) ∧ w7.cell? ⟨w.heap.size + 1, 2, none⟩ = some (.int .u64 x2) ∧ w7.cell? ⟨w.heap.size + 1, 3, none⟩ = some (.int .u64 x3) ∧ w7.cell? ⟨w.heap.size + 1 + 1, 0, none⟩ = some (.int .u64 (n0 : Int)) ∧ w7.cell? ⟨w.heap.size + 1 + 1, 1, none⟩ = some (.int .u64 (n1 : Int)) ∧ w7.cell? ⟨w.heap.size + 1 + 1, 2, none⟩ = some (.int .u64 (n2 : Int)) ∧ w7.cell? ⟨w.heap.size + 1 + 1, 3, none⟩ = some (.int .u64 (n3 : Int)) ∧ w7.cell? ⟨w.heap.size + 1 + 1, 4, none⟩ = some (.int .u64 (n4 : Int)) ∧ w7.cell? ⟨w.heap.size + 1 + 1, 5, none⟩ = some (.int .u64 (n5 : Int)) ∧ w7.cell? ⟨w.heap.size + 1 + 1, 6, none⟩ = some (.int .u64 (n6 : Int)) ∧ w7.cell? ⟨w.heap.size + 1 + 1, 7, none⟩ = some (.int .u64 (n7 : Int)) := ⟨M_7.out.c0, M_7.out.c1, M_7.out.c2, M_7.out.c3, X_7.out.c0, X_7.out.c1, X_7.out.c2, X_7.out.c3, Y_7.out.c0, Y_7.out.c1, Y_7.out.c2, Y_7.out.c3, Y_7.out.c4, Y_7.out.c5, Y_7.out.c6, Y_7.out.c7⟩))
      | (go_at_call 11; (refine (CM.out _ _ (R_5.out.below D_5.out)).mono ?_); (rintro e w6 ⟨rfl, g6⟩; have M_6 : Hid (Blk w6 w.heap.size m0 m1 m2 m3) := (M_5.out.below D_5.out).below g6; have X_6 : Hid (Blk w6 (w.heap.size + 1) x0 x1 x2 x3) := (X_5.out.below D_5.out).below g6; have Y_6 : Hid (Bx8 w6 (w.heap.size + 1 + 1) (n0 : Int) (n1 : Int) (n2 : Int) (n3 : Int) (n4 : Int) (n5 : Int) (n6 : Int) (n7 : Int)) := (Y_5.out.below D_5.out).below g6; have R_6 : Hid (Rg w6 (w1.heap.size + 1) m) := (R_5.out.below D_5.out).below g6; have N_6 : Hid (Num w6 (.slice na nc nd) m) := (N_5.out.below D_5.out).below g6; have L_6 : Hid (SK .u64 w6 (.slice la 8 ld) [n0, n1, n2, n3, n4, n5, n6, n7]) := (L_5.out.below D_5.out).below g6; have G_6 : Hid (Below w.heap.size w w6) := (G_5.out.trans (D_5.out.mono G_5.out.size)).trans (g6.mono G_5.out.size); clear K; clear M_5 X_5 Y_5 R_5 N_5 L_5 G_5 g6 D_5; have K : w6.cell? ⟨w.heap.size, 0, none⟩ = some (.int .u64 m0) ∧ w6.cell? ⟨w.heap.size, 1, none⟩ = some (.int .u64 m1) ∧ w6.cell? ⟨w.heap.size, 2, none⟩ = some (.int .u64 m2) ∧ w6.cell? ⟨w.heap.size, 3, none⟩ = some (.int .u64 m3) ∧ w6.cell? ⟨w.heap.size + 1, 0, none⟩ = some (.int .u64 x0) ∧ w6.cell? ⟨w.heap.size + 1, 1, none⟩ = some (.int .u64 x1) ∧ w6.cell? ⟨w.heap.size + 1, 2, none⟩ = some (.int .u64 x2) ∧ w6.cell? ⟨w.heap.size + 1, 3, none⟩ = some (.int .u64 x3) ∧ w6.cell? ⟨w.heap.size + 1 + 1, 0, none⟩ = some (.int .u64 (n0 : Int)) ∧ w6.cell? ⟨w.heap.size + 1 + 1, 1, none⟩ = some (.int .u64 (n1 : Int)) ∧ w6.cell? ⟨w.heap.size + 1 + 1, 2, none⟩ = some (.int .u64 (n2 : Int)) ∧ w6.cell? ⟨w.heap.size + 1 + 1, 3, none⟩ = some (.int .u64 (n3 : Int)) ∧ w6.cell? ⟨w.heap.size + 1 + 1, 4, none⟩ = some (.int .u64 (n4 : Int)) ∧ w6.cell? ⟨w.heap.size + 1 + 1, 5, none⟩ = some (.int .u64 (n5 : Int)) ∧ w6.cell? ⟨w.heap.size + 1 + 1, 6, none⟩ = some (.int .u64 (n6 : Int)) ∧ w6.cell? ⟨w.heap.size + 1 + 1, 7, none⟩ = some (.int .u64 (n7 : Int)) := ⟨M_6.out.c0, M_6.out.c1, M_6.out.c2, M_6.out.c3, X_6.out.c0, X_6.out.c1, X_6.out.c2, X_6.out.c3, Y_6.out.c0, Y_6.out.c1, Y_6.out.c2, Y_6.out.c3, Y_6.out.c4, Y_6.out.c5, Y_6.out.c6, Y_6.out.c7⟩)))
  all_goals
    go_wp2_with fail
    go_ret
    exact ⟨rfl, G_14.out⟩

theorem rred_any (m x y : Nat) (hm : m < M4) (hx : x < M4) (hy : y < M4 * M4) (w : World) :
    Calls Try.prog 3 #[four m, four x, eight y] w fun e w' => e = .returned (.bool true) ∧ Below w.heap.size w w' := by
  by_cases h : m % 2 = 0 ∨ m = 1
  · exact rred_no m x y hm hx hy h w
  · exact rred_yes m x y hm hx hy (by omega) (by omega) w

end Go.Proofs.Ytkaekgjpjnnjpaa
