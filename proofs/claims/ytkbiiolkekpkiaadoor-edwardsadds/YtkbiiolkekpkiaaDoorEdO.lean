/-
  The contracts of the document's own Of of layer 10: bytes as points. Conditions: as each theorem says.
-/
import Derived.Test.YtkbiiolkekpkiaaDoorEdA
namespace Go.Proofs.YtkbiiolkekpkiaaDoor.Ed
open Go.RowKit
set_option linter.unusedVariables false
set_option linter.unusedSimpArgs false

set_option maxRecDepth 100000 in
set_option maxHeartbeats 8000000 in
theorem of_short (l : List Nat) (hb : Bb l) (hlen : ¬ l.length = 32) (v : Value) (w : World) (hs : SK .u8 w v l) :
    Calls Tryd.prog 9 #[v] w fun e w' => e = .returned (.agg #[.slice none 0 0, .slice none 0 0, .slice none 0 0, .bool false]) ∧ Below w.heap.size w w' := by
  obtain ⟨la, lc, hle⟩ := hs.shape
  subst hle
  have HS : Hid (SK .u8 w (.slice la l.length lc) l) := hs
  have HBl : Hid (Bb l) := hb
  obtain ⟨w0, hw0⟩ : ∃ V, Hid ((w.alloc (.cells #[.slice none 0 0, .slice none 0 0, .slice none 0 0, .bool false] 35)) = V) := ⟨_, rfl⟩
  have G_0 : Hid (Below w.heap.size w w0) := by unfold Hid; rw [← hw0.out]; exact (Below.refl _ _).alloc (Nat.le_refl _) _
  have C_0 : Hid (At 35 w0 w.heap.size [.slice none 0 0, .slice none 0 0, .slice none 0 0, .bool false]) := by unfold Hid; rw [← hw0.out]; exact at_new 35 w [.slice none 0 0, .slice none 0 0, .slice none 0 0, .bool false]
  obtain ⟨ln, hln⟩ : ∃ n, Hid (l.length = n) := ⟨_, rfl⟩
  rw [hln.out] at HS hlen ⊢
  have hlen2 : ¬ (ln : Int) = 32 := by omega
  clear hs hb
  go_enter Tryd.func9, Tryd.ntmps9
  go_upto_region 1 with fail
  rw [hw0.out]
  clear hw0
  have r0 := C_0.out.cell 0
  have r1 := C_0.out.cell 1
  have r2 := C_0.out.cell 2
  have r3 := C_0.out.cell 3
  simp only [List.getElem?_cons_zero, List.getElem?_cons_succ] at r0 r1 r2 r3
  have s0 := C_0.out.free 0
  have s1 := C_0.out.free 1
  have s2 := C_0.out.free 2
  have s3 := C_0.out.free 3
  go_wp2_with fail
  clear r0 r1 r2 r3 s0 s1 s2 s3
  have hF := ((((Oth.refl w.heap.size w0).set 0 (.slice none 0 0)).set 1 (.slice none 0 0)).set 2 (.slice none 0 0)).set 3 (.bool false)
  refine body_cut' (fun F => At 35 F w.heap.size [.slice none 0 0, .slice none 0 0, .slice none 0 0, .bool false] ∧ Below w.heap.size w F) ⟨(((C_0.out.set 0 _).set 1 _).set 2 _).set 3 _, Oth.bel G_0.out hF (Nat.le_refl _)⟩ ?_
  rintro F ⟨hC, hB⟩
  exact bodyPost_ret (v := .agg #[.slice none 0 0, .slice none 0 0, .slice none 0 0, .bool false]) (results_mid (Tryd.results9) _ F w.heap.size 0 [.slice none 0 0, .slice none 0 0, .slice none 0 0, .bool false] _ rfl hC.range Tryd.underlying35 rfl (by kernel_rfl)) rfl ⟨rfl, hB⟩

set_option maxRecDepth 100000 in
set_option maxHeartbeats 8000000 in
theorem of_big_neg (l : List Nat) (hb : Bb l) (hlen : l.length = 32) (N y : Nat) (hN : hvN (turn l) 32 = N) (hN2 : N < 2 ^ 256) (hsg : 2 ^ 255 ≤ N ∧ N / 2 ^ 255 % 2 = 1) (hy : y = N - 2 ^ 255) (hyP : P25 ≤ y) (v : Value) (w : World) (hs : SK .u8 w v l) :
    Calls Tryd.prog 9 #[v] w fun e w' => e = .returned (.agg #[.slice none 0 0, .slice none 0 0, .slice none 0 0, .bool false]) ∧ Below w.heap.size w w' := by
  obtain ⟨la, lc, hle⟩ := hs.shape
  subst hle
  have HS : Hid (SK .u8 w (.slice la l.length lc) l) := hs
  have HBl : Hid (Bb l) := hb
  obtain ⟨w0, hw0⟩ : ∃ V, Hid ((w.alloc (.cells #[.slice none 0 0, .slice none 0 0, .slice none 0 0, .bool false] 35)) = V) := ⟨_, rfl⟩
  have G_0 : Hid (Below w.heap.size w w0) := by unfold Hid; rw [← hw0.out]; exact (Below.refl _ _).alloc (Nat.le_refl _) _
  have C_0 : Hid (At 35 w0 w.heap.size [.slice none 0 0, .slice none 0 0, .slice none 0 0, .bool false]) := by unfold Hid; rw [← hw0.out]; exact at_new 35 w [.slice none 0 0, .slice none 0 0, .slice none 0 0, .bool false]
  obtain ⟨ln, hln⟩ : ∃ n, Hid (l.length = n) := ⟨_, rfl⟩
  rw [hln.out] at HS hlen ⊢
  obtain rfl : ln = 32 := hlen
  have kL : Hid (∀ W, Below w.heap.size w W → Calls Tryd.prog 39 #[.slice la 32 lc] W fun e w' => ∃ v, e = .returned v ∧ Num w' v N ∧ Below W.heap.size W w') := fun W hW => by
    have h := littleN_any l HBl.out _ W (HS.out.below hW) (by rw [hln.out]; omega)
    rw [hln.out, hN] at h
    exact h
  have LN : Hid (N < 16777216 ^ 22) := Nat.lt_trans hN2 (by decide +kernel)
  have E_y : Hid (y = N - 2 ^ 255) := hy
  have HSg : Hid (2 ^ 255 ≤ N ∧ N / 2 ^ 255 % 2 = 1) := hsg
  have L_y : Hid (P25 ≤ y) := hyP
  clear hs hb hN hN2 hy hsg hyP
  go_enter Tryd.func9, Tryd.ntmps9
  go_upto_region 1 with fail
  rw [hw0.out]
  clear hw0
  go_wp2_with fail
  refine (kL.out _ G_0.out).mono ?_
  rintro e w1 ⟨v, rfl, hn, g⟩
  obtain ⟨Ba, Bc, Bd, rfl⟩ := hn.shape
  have B_1 : Hid (Num w1 (.slice Ba Bc Bd) (N)) := hn
  have C_1 := hold (C_0.out.below g)
  have G_1 := hold (G_0.out.trans (g.mono G_0.out.size))
  clear C_0 G_0 hn g
  have kB : Hid (Calls Tryd.prog 40 #[.slice Ba Bc Bd, .int .i64 255] w1 fun e w' => e = .returned (.int .i64 ((N / 2 ^ 255 % 2 : Nat) : Int)) ∧ Below w1.heap.size w1 w') := bit_num N _ 255 w1 B_1.out 22 LN.out (by omega) (by omega)
  rw [HSg.out.2] at kB
  go_wp2_with fail
  refine (kB.out).mono ?_
  rintro e w2 ⟨rfl, g⟩
  have C_2 := hold (C_1.out.below g)
  have B_2 := hold (B_1.out.below g)
  have G_2 := hold (G_1.out.trans (g.mono G_1.out.size))
  clear C_1 B_1 G_1 g
  clear kB kL
  go_wp2_with fail
  refine (power_any 255 _ (by omega)).mono ?_
  rintro e w3 ⟨v, rfl, hn, g⟩
  obtain ⟨Pa, Pc, Pd, rfl⟩ := hn.shape
  have P_3 : Hid (Num w3 (.slice Pa Pc Pd) (2 ^ 255)) := hn
  have C_3 := hold (C_2.out.below g)
  have B_3 := hold (B_2.out.below g)
  have G_3 := hold (G_2.out.trans (g.mono G_2.out.size))
  clear C_2 B_2 G_2 hn g
  go_wp2_with fail
  refine (sub_num N (2 ^ 255) _ _ _ B_3.out P_3.out 22 LN.out (by omega) HSg.out.1).mono ?_
  rintro e w4 ⟨v, rfl, hn, g⟩
  obtain ⟨Ya, Yc, Yd, rfl⟩ := hn.shape
  have Y_4 : Hid (Num w4 (.slice Ya Yc Yd) (N - 2 ^ 255)) := hn
  have C_4 := hold (C_3.out.below g)
  have G_4 := hold (G_3.out.trans (g.mono G_3.out.size))
  clear C_3 B_3 P_3 G_3 hn g
  have Q_4 : Hid (Num w4 (.slice Ya Yc Yd) y) := by rw [E_y.out]; exact Y_4.out
  clear Y_4
  have LY : Hid (y < 16777216 ^ 22) := by rw [E_y.out]; exact Nat.lt_of_le_of_lt (Nat.sub_le _ _) LN.out
  go_wp2_with fail
  refine (pD_num _).mono ?_
  rintro e w5 ⟨v, rfl, hn, g⟩
  obtain ⟨Ra, Rc, Rd, rfl⟩ := hn.shape
  have R_5 : Hid (Num w5 (.slice Ra Rc Rd) (P25)) := hn
  have C_5 := hold (C_4.out.below g)
  have Q_5 := hold (Q_4.out.below g)
  have G_5 := hold (G_4.out.trans (g.mono G_4.out.size))
  clear C_4 Q_4 G_4 hn g
  have hc : ¬ ord (y : Int) (P25 : Int) < 0 := by have := L_y.out; unfold ord; rw [if_neg (by omega)]; split <;> omega
  have hc3 : (0 : Int) ≤ ord (y : Int) (P25 : Int) := by omega
  go_wp2_with fail
  refine (cmp_num y P25 _ _ _ Q_5.out R_5.out 22 LY.out P25_lt22 (by omega)).mono ?_
  rintro e w6 ⟨rfl, g⟩
  have C_6 := hold (C_5.out.below g)
  have Q_6 := hold (Q_5.out.below g)
  have G_6 := hold (G_5.out.trans (g.mono G_5.out.size))
  clear C_5 Q_5 R_5 G_5 g
  generalize ord (y : Int) (P25 : Int) = oo at *
  have r0 := C_6.out.cell 0
  have r1 := C_6.out.cell 1
  have r2 := C_6.out.cell 2
  have r3 := C_6.out.cell 3
  simp only [List.getElem?_cons_zero, List.getElem?_cons_succ] at r0 r1 r2 r3
  have s0 := C_6.out.free 0
  have s1 := C_6.out.free 1
  have s2 := C_6.out.free 2
  have s3 := C_6.out.free 3
  go_wp2_with fail
  clear r0 r1 r2 r3 s0 s1 s2 s3
  have hF := ((((Oth.refl w.heap.size w6).set 0 (.slice none 0 0)).set 1 (.slice none 0 0)).set 2 (.slice none 0 0)).set 3 (.bool false)
  refine body_cut' (fun F => At 35 F w.heap.size [.slice none 0 0, .slice none 0 0, .slice none 0 0, .bool false] ∧ Below w.heap.size w F) ⟨(((C_6.out.set 0 _).set 1 _).set 2 _).set 3 _, Oth.bel G_6.out hF (Nat.le_refl _)⟩ ?_
  rintro F ⟨hC, hB⟩
  exact bodyPost_ret (v := .agg #[.slice none 0 0, .slice none 0 0, .slice none 0 0, .bool false]) (results_mid (Tryd.results9) _ F w.heap.size 0 [.slice none 0 0, .slice none 0 0, .slice none 0 0, .bool false] _ rfl hC.range Tryd.underlying35 rfl (by kernel_rfl)) rfl ⟨rfl, hB⟩

set_option maxRecDepth 100000 in
set_option maxHeartbeats 8000000 in
theorem of_notok_neg (l : List Nat) (hb : Bb l) (hlen : l.length = 32) (N y a m U V : Nat) (hN : hvN (turn l) 32 = N) (hN2 : N < 2 ^ 256) (hsg : 2 ^ 255 ≤ N ∧ N / 2 ^ 255 % 2 = 1) (hy : y = N - 2 ^ 255) (hyP : y < P25) (q_a : y * y % P25 = a) (q_u : (a + P25 - 1) % P25 = U) (q_m : D25 * a % P25 = m) (q_v : (m + 1) % P25 = V) (hok : ratOk U V = false) (v : Value) (w : World) (hs : SK .u8 w v l) :
    Calls Tryd.prog 9 #[v] w fun e w' => e = .returned (.agg #[.slice none 0 0, .slice none 0 0, .slice none 0 0, .bool false]) ∧ Below w.heap.size w w' := by
  obtain ⟨la, lc, hle⟩ := hs.shape
  subst hle
  have HS : Hid (SK .u8 w (.slice la l.length lc) l) := hs
  have HBl : Hid (Bb l) := hb
  obtain ⟨w0, hw0⟩ : ∃ V, Hid ((w.alloc (.cells #[.slice none 0 0, .slice none 0 0, .slice none 0 0, .bool false] 35)) = V) := ⟨_, rfl⟩
  have G_0 : Hid (Below w.heap.size w w0) := by unfold Hid; rw [← hw0.out]; exact (Below.refl _ _).alloc (Nat.le_refl _) _
  have C_0 : Hid (At 35 w0 w.heap.size [.slice none 0 0, .slice none 0 0, .slice none 0 0, .bool false]) := by unfold Hid; rw [← hw0.out]; exact at_new 35 w [.slice none 0 0, .slice none 0 0, .slice none 0 0, .bool false]
  obtain ⟨ln, hln⟩ : ∃ n, Hid (l.length = n) := ⟨_, rfl⟩
  rw [hln.out] at HS hlen ⊢
  obtain rfl : ln = 32 := hlen
  have kL : Hid (∀ W, Below w.heap.size w W → Calls Tryd.prog 39 #[.slice la 32 lc] W fun e w' => ∃ v, e = .returned v ∧ Num w' v N ∧ Below W.heap.size W w') := fun W hW => by
    have h := littleN_any l HBl.out _ W (HS.out.below hW) (by rw [hln.out]; omega)
    rw [hln.out, hN] at h
    exact h
  have LN : Hid (N < 16777216 ^ 22) := Nat.lt_trans hN2 (by decide +kernel)
  have E_y : Hid (y = N - 2 ^ 255) := hy
  have HSg : Hid (2 ^ 255 ≤ N ∧ N / 2 ^ 255 % 2 = 1) := hsg
  have L_y : Hid (y < P25) := hyP
  have E_a : Hid (y * y % P25 = a) := q_a
  have E_u : Hid ((a + P25 - 1) % P25 = U) := q_u
  have E_m : Hid (D25 * a % P25 = m) := q_m
  have E_v : Hid ((m + 1) % P25 = V) := q_v
  have L_a : Hid (a < P25) := by rw [← q_a]; exact mod_P _
  have L_u : Hid (U < P25) := by rw [← q_u]; exact mod_P _
  have L_m : Hid (m < P25) := by rw [← q_m]; exact mod_P _
  have L_v : Hid (V < P25) := by rw [← q_v]; exact mod_P _
  clear hs hb hN hN2 hy hsg hyP q_a q_u q_m q_v
  go_enter Tryd.func9, Tryd.ntmps9
  go_upto_region 1 with fail
  rw [hw0.out]
  clear hw0
  go_wp2_with fail
  refine (kL.out _ G_0.out).mono ?_
  rintro e w1 ⟨v, rfl, hn, g⟩
  obtain ⟨Ba, Bc, Bd, rfl⟩ := hn.shape
  have B_1 : Hid (Num w1 (.slice Ba Bc Bd) (N)) := hn
  have C_1 := hold (C_0.out.below g)
  have G_1 := hold (G_0.out.trans (g.mono G_0.out.size))
  clear C_0 G_0 hn g
  have kB : Hid (Calls Tryd.prog 40 #[.slice Ba Bc Bd, .int .i64 255] w1 fun e w' => e = .returned (.int .i64 ((N / 2 ^ 255 % 2 : Nat) : Int)) ∧ Below w1.heap.size w1 w') := bit_num N _ 255 w1 B_1.out 22 LN.out (by omega) (by omega)
  rw [HSg.out.2] at kB
  go_wp2_with fail
  refine (kB.out).mono ?_
  rintro e w2 ⟨rfl, g⟩
  have C_2 := hold (C_1.out.below g)
  have B_2 := hold (B_1.out.below g)
  have G_2 := hold (G_1.out.trans (g.mono G_1.out.size))
  clear C_1 B_1 G_1 g
  clear kB kL
  go_wp2_with fail
  refine (power_any 255 _ (by omega)).mono ?_
  rintro e w3 ⟨v, rfl, hn, g⟩
  obtain ⟨Pa, Pc, Pd, rfl⟩ := hn.shape
  have P_3 : Hid (Num w3 (.slice Pa Pc Pd) (2 ^ 255)) := hn
  have C_3 := hold (C_2.out.below g)
  have B_3 := hold (B_2.out.below g)
  have G_3 := hold (G_2.out.trans (g.mono G_2.out.size))
  clear C_2 B_2 G_2 hn g
  go_wp2_with fail
  refine (sub_num N (2 ^ 255) _ _ _ B_3.out P_3.out 22 LN.out (by omega) HSg.out.1).mono ?_
  rintro e w4 ⟨v, rfl, hn, g⟩
  obtain ⟨Ya, Yc, Yd, rfl⟩ := hn.shape
  have Y_4 : Hid (Num w4 (.slice Ya Yc Yd) (N - 2 ^ 255)) := hn
  have C_4 := hold (C_3.out.below g)
  have G_4 := hold (G_3.out.trans (g.mono G_3.out.size))
  clear C_3 B_3 P_3 G_3 hn g
  have Q_4 : Hid (Num w4 (.slice Ya Yc Yd) y) := by rw [E_y.out]; exact Y_4.out
  clear Y_4
  have LY : Hid (y < 16777216 ^ 22) := by rw [E_y.out]; exact Nat.lt_of_le_of_lt (Nat.sub_le _ _) LN.out
  go_wp2_with fail
  refine (pD_num _).mono ?_
  rintro e w5 ⟨v, rfl, hn, g⟩
  obtain ⟨Ra, Rc, Rd, rfl⟩ := hn.shape
  have R_5 : Hid (Num w5 (.slice Ra Rc Rd) (P25)) := hn
  have C_5 := hold (C_4.out.below g)
  have Q_5 := hold (Q_4.out.below g)
  have G_5 := hold (G_4.out.trans (g.mono G_4.out.size))
  clear C_4 Q_4 G_4 hn g
  have hc : ord (y : Int) (P25 : Int) = -1 := by have := L_y.out; unfold ord; rw [if_pos (by omega)]
  go_wp2_with fail
  refine (cmp_num y P25 _ _ _ Q_5.out R_5.out 22 LY.out P25_lt22 (by omega)).mono ?_
  rintro e w6 ⟨rfl, g⟩
  have C_6 := hold (C_5.out.below g)
  have Q_6 := hold (Q_5.out.below g)
  have G_6 := hold (G_5.out.trans (g.mono G_5.out.size))
  clear C_5 Q_5 R_5 G_5 g
  rw [hc]
  have kM : Hid (∀ (A B C : Nat) v v' W, A < P25 → B < P25 → A * B % P25 = C → Num W v A → Num W v' B → Calls Tryd.prog 44 #[v, v'] W fun e w' => ∃ u, e = .returned u ∧ Num w' u C ∧ Below W.heap.size W w') := fun A B C v v' W h1 h2 h3 h4 h5 => by rw [← h3]; exact mulD_num A B v v' W h4 h5 (lt11 h1) (lt11 h2)
  go_wp2_with fail
  refine (kM.out y y a _ _ _ L_y.out L_y.out E_a.out Q_6.out Q_6.out).mono ?_
  rintro e w7 ⟨v, rfl, hn, g⟩
  obtain ⟨Aa, Ac, Ad, rfl⟩ := hn.shape
  have A_7 : Hid (Num w7 (.slice Aa Ac Ad) (a)) := hn
  have C_7 := hold (C_6.out.below g)
  have Q_7 := hold (Q_6.out.below g)
  have G_7 := hold (G_6.out.trans (g.mono G_6.out.size))
  clear C_6 Q_6 G_6 hn g
  go_wp2_with fail
  refine calls_at (fun V => At 35 V w.heap.size [.slice none 0 0, .slice none 0 0, .slice none 0 0, .bool false] ∧ Num V (.slice Ya Yc Yd) y ∧ Num V (.slice Aa Ac Ad) (a) ∧ Num V (.slice (some ⟨w7.heap.size, 0, none⟩) 1 1) 1 ∧ Below w.heap.size w V) ⟨C_7.out.below ((Below.refl _ _).alloc (Nat.le_refl _) _), Q_7.out.below ((Below.refl _ _).alloc (Nat.le_refl _) _), A_7.out.below ((Below.refl _ _).alloc (Nat.le_refl _) _), num_lit w7 1 (by omega) (by omega), G_7.out.alloc G_7.out.size _⟩ ?_
  rintro w8 ⟨k0, k1, k2, k3, hG⟩
  have C_8 : Hid (At 35 w8 w.heap.size [.slice none 0 0, .slice none 0 0, .slice none 0 0, .bool false]) := k0
  have Q_8 : Hid (Num w8 (.slice Ya Yc Yd) y) := k1
  have A_8 : Hid (Num w8 (.slice Aa Ac Ad) (a)) := k2
  have L_8 : Hid (Num w8 (.slice (some ⟨w7.heap.size, 0, none⟩) 1 1) 1) := k3
  have G_8 : Hid (Below w.heap.size w w8) := hG
  clear C_7 Q_7 A_7 G_7 hG k0 k1 k2 k3
  have kU : Hid (∀ v v' W, Num W v a → Num W v' 1 → Calls Tryd.prog 46 #[v, v'] W fun e w' => ∃ u, e = .returned u ∧ Num w' u U ∧ Below W.heap.size W w') := fun v v' W h1 h2 => by rw [← E_u.out]; exact subD_num a 1 v v' W h1 h2 (lt11 L_a.out) (by have : 1 ≤ P25 := (by decide +kernel); omega)
  refine (kU.out _ _ _ A_8.out L_8.out).mono ?_
  rintro e w9 ⟨v, rfl, hn, g⟩
  obtain ⟨U_a, U_c, U_d, rfl⟩ := hn.shape
  have U__9 : Hid (Num w9 (.slice U_a U_c U_d) (U)) := hn
  have C_9 := hold (C_8.out.below g)
  have Q_9 := hold (Q_8.out.below g)
  have A_9 := hold (A_8.out.below g)
  have G_9 := hold (G_8.out.trans (g.mono G_8.out.size))
  clear C_8 Q_8 A_8 L_8 G_8 hn g
  go_wp2_with fail
  refine (dD_num _).mono ?_
  rintro e w10 ⟨v, rfl, hn, g⟩
  obtain ⟨Ha, Hc, Hd, rfl⟩ := hn.shape
  have H_10 : Hid (Num w10 (.slice Ha Hc Hd) (D25)) := hn
  have C_10 := hold (C_9.out.below g)
  have Q_10 := hold (Q_9.out.below g)
  have A_10 := hold (A_9.out.below g)
  have U__10 := hold (U__9.out.below g)
  have G_10 := hold (G_9.out.trans (g.mono G_9.out.size))
  clear C_9 Q_9 A_9 U__9 G_9 hn g
  go_wp2_with fail
  refine (kM.out D25 a m _ _ _ (by decide +kernel) L_a.out E_m.out H_10.out A_10.out).mono ?_
  rintro e w11 ⟨v, rfl, hn, g⟩
  obtain ⟨Ma, Mc, Md, rfl⟩ := hn.shape
  have M_11 : Hid (Num w11 (.slice Ma Mc Md) (m)) := hn
  have C_11 := hold (C_10.out.below g)
  have Q_11 := hold (Q_10.out.below g)
  have U__11 := hold (U__10.out.below g)
  have G_11 := hold (G_10.out.trans (g.mono G_10.out.size))
  clear C_10 Q_10 A_10 U__10 H_10 G_10 hn g
  go_wp2_with fail
  refine calls_at (fun V => At 35 V w.heap.size [.slice none 0 0, .slice none 0 0, .slice none 0 0, .bool false] ∧ Num V (.slice Ya Yc Yd) y ∧ Num V (.slice U_a U_c U_d) (U) ∧ Num V (.slice Ma Mc Md) (m) ∧ Num V (.slice (some ⟨w11.heap.size, 0, none⟩) 1 1) 1 ∧ Below w.heap.size w V) ⟨C_11.out.below ((Below.refl _ _).alloc (Nat.le_refl _) _), Q_11.out.below ((Below.refl _ _).alloc (Nat.le_refl _) _), U__11.out.below ((Below.refl _ _).alloc (Nat.le_refl _) _), M_11.out.below ((Below.refl _ _).alloc (Nat.le_refl _) _), num_lit w11 1 (by omega) (by omega), G_11.out.alloc G_11.out.size _⟩ ?_
  rintro w12 ⟨k0, k1, k2, k3, k4, hG⟩
  have C_12 : Hid (At 35 w12 w.heap.size [.slice none 0 0, .slice none 0 0, .slice none 0 0, .bool false]) := k0
  have Q_12 : Hid (Num w12 (.slice Ya Yc Yd) y) := k1
  have U__12 : Hid (Num w12 (.slice U_a U_c U_d) (U)) := k2
  have M_12 : Hid (Num w12 (.slice Ma Mc Md) (m)) := k3
  have L_12 : Hid (Num w12 (.slice (some ⟨w11.heap.size, 0, none⟩) 1 1) 1) := k4
  have G_12 : Hid (Below w.heap.size w w12) := hG
  clear C_11 Q_11 U__11 M_11 G_11 hG k0 k1 k2 k3 k4
  have kV : Hid (∀ v v' W, Num W v m → Num W v' 1 → Calls Tryd.prog 47 #[v, v'] W fun e w' => ∃ u, e = .returned u ∧ Num w' u V ∧ Below W.heap.size W w') := fun v v' W h1 h2 => by rw [← E_v.out]; exact addD_num m 1 v v' W h1 h2 (lt11 L_m.out) (by decide +kernel)
  refine (kV.out _ _ _ M_12.out L_12.out).mono ?_
  rintro e w13 ⟨v, rfl, hn, g⟩
  obtain ⟨V_a, V_c, V_d, rfl⟩ := hn.shape
  have V__13 : Hid (Num w13 (.slice V_a V_c V_d) (V)) := hn
  have C_13 := hold (C_12.out.below g)
  have Q_13 := hold (Q_12.out.below g)
  have U__13 := hold (U__12.out.below g)
  have G_13 := hold (G_12.out.trans (g.mono G_12.out.size))
  clear C_12 Q_12 U__12 M_12 L_12 G_12 hn g
  have kR := ratioD_num U V _ _ w13 U__13.out V__13.out L_u.out L_v.out
  rw [hok] at kR
  go_wp2_with fail
  refine kR.mono ?_
  clear kR
  rintro e w14 ⟨v, rfl, hn, g⟩
  have len0 := num_len0 hn
  obtain ⟨Xa, Xc, Xd, rfl⟩ := hn.shape
  have len1 := len0 _ _ _ rfl
  clear len0
  have X_14 : Hid (Num w14 (.slice Xa Xc Xd) (ratN U V)) := hn
  have C_14 := hold (C_13.out.below g)
  have Q_14 := hold (Q_13.out.below g)
  have G_14 := hold (G_13.out.trans (g.mono G_13.out.size))
  clear C_13 Q_13 G_13 hn g U__13 V__13
  clear len1
  have r0 := C_14.out.cell 0
  have r1 := C_14.out.cell 1
  have r2 := C_14.out.cell 2
  have r3 := C_14.out.cell 3
  simp only [List.getElem?_cons_zero, List.getElem?_cons_succ] at r0 r1 r2 r3
  have s0 := C_14.out.free 0
  have s1 := C_14.out.free 1
  have s2 := C_14.out.free 2
  have s3 := C_14.out.free 3
  go_wp2_with fail
  clear r0 r1 r2 r3 s0 s1 s2 s3
  have hF := ((((Oth.refl w.heap.size w14).set 0 (.slice none 0 0)).set 1 (.slice none 0 0)).set 2 (.slice none 0 0)).set 3 (.bool false)
  refine body_cut' (fun F => At 35 F w.heap.size [.slice none 0 0, .slice none 0 0, .slice none 0 0, .bool false] ∧ Below w.heap.size w F) ⟨(((C_14.out.set 0 _).set 1 _).set 2 _).set 3 _, Oth.bel G_14.out hF (Nat.le_refl _)⟩ ?_
  rintro F ⟨hC, hB⟩
  exact bodyPost_ret (v := .agg #[.slice none 0 0, .slice none 0 0, .slice none 0 0, .bool false]) (results_mid (Tryd.results9) _ F w.heap.size 0 [.slice none 0 0, .slice none 0 0, .slice none 0 0, .bool false] _ rfl hC.range Tryd.underlying35 rfl (by kernel_rfl)) rfl ⟨rfl, hB⟩

set_option maxRecDepth 100000 in
set_option maxHeartbeats 8000000 in
theorem of_zero_neg (l : List Nat) (hb : Bb l) (hlen : l.length = 32) (N y a m U V : Nat) (hN : hvN (turn l) 32 = N) (hN2 : N < 2 ^ 256) (hsg : 2 ^ 255 ≤ N ∧ N / 2 ^ 255 % 2 = 1) (hy : y = N - 2 ^ 255) (hyP : y < P25) (q_a : y * y % P25 = a) (q_u : (a + P25 - 1) % P25 = U) (q_m : D25 * a % P25 = m) (q_v : (m + 1) % P25 = V) (hok : ratOk U V = true) (hr : ratN U V = 0) (v : Value) (w : World) (hs : SK .u8 w v l) :
    Calls Tryd.prog 9 #[v] w fun e w' => e = .returned (.agg #[.slice none 0 0, .slice none 0 0, .slice none 0 0, .bool false]) ∧ Below w.heap.size w w' := by
  obtain ⟨la, lc, hle⟩ := hs.shape
  subst hle
  have HS : Hid (SK .u8 w (.slice la l.length lc) l) := hs
  have HBl : Hid (Bb l) := hb
  obtain ⟨w0, hw0⟩ : ∃ V, Hid ((w.alloc (.cells #[.slice none 0 0, .slice none 0 0, .slice none 0 0, .bool false] 35)) = V) := ⟨_, rfl⟩
  have G_0 : Hid (Below w.heap.size w w0) := by unfold Hid; rw [← hw0.out]; exact (Below.refl _ _).alloc (Nat.le_refl _) _
  have C_0 : Hid (At 35 w0 w.heap.size [.slice none 0 0, .slice none 0 0, .slice none 0 0, .bool false]) := by unfold Hid; rw [← hw0.out]; exact at_new 35 w [.slice none 0 0, .slice none 0 0, .slice none 0 0, .bool false]
  obtain ⟨ln, hln⟩ : ∃ n, Hid (l.length = n) := ⟨_, rfl⟩
  rw [hln.out] at HS hlen ⊢
  obtain rfl : ln = 32 := hlen
  have kL : Hid (∀ W, Below w.heap.size w W → Calls Tryd.prog 39 #[.slice la 32 lc] W fun e w' => ∃ v, e = .returned v ∧ Num w' v N ∧ Below W.heap.size W w') := fun W hW => by
    have h := littleN_any l HBl.out _ W (HS.out.below hW) (by rw [hln.out]; omega)
    rw [hln.out, hN] at h
    exact h
  have LN : Hid (N < 16777216 ^ 22) := Nat.lt_trans hN2 (by decide +kernel)
  have E_y : Hid (y = N - 2 ^ 255) := hy
  have HSg : Hid (2 ^ 255 ≤ N ∧ N / 2 ^ 255 % 2 = 1) := hsg
  have L_y : Hid (y < P25) := hyP
  have E_a : Hid (y * y % P25 = a) := q_a
  have E_u : Hid ((a + P25 - 1) % P25 = U) := q_u
  have E_m : Hid (D25 * a % P25 = m) := q_m
  have E_v : Hid ((m + 1) % P25 = V) := q_v
  have L_a : Hid (a < P25) := by rw [← q_a]; exact mod_P _
  have L_u : Hid (U < P25) := by rw [← q_u]; exact mod_P _
  have L_m : Hid (m < P25) := by rw [← q_m]; exact mod_P _
  have L_v : Hid (V < P25) := by rw [← q_v]; exact mod_P _
  clear hs hb hN hN2 hy hsg hyP q_a q_u q_m q_v
  go_enter Tryd.func9, Tryd.ntmps9
  go_upto_region 1 with fail
  rw [hw0.out]
  clear hw0
  go_wp2_with fail
  refine (kL.out _ G_0.out).mono ?_
  rintro e w1 ⟨v, rfl, hn, g⟩
  obtain ⟨Ba, Bc, Bd, rfl⟩ := hn.shape
  have B_1 : Hid (Num w1 (.slice Ba Bc Bd) (N)) := hn
  have C_1 := hold (C_0.out.below g)
  have G_1 := hold (G_0.out.trans (g.mono G_0.out.size))
  clear C_0 G_0 hn g
  have kB : Hid (Calls Tryd.prog 40 #[.slice Ba Bc Bd, .int .i64 255] w1 fun e w' => e = .returned (.int .i64 ((N / 2 ^ 255 % 2 : Nat) : Int)) ∧ Below w1.heap.size w1 w') := bit_num N _ 255 w1 B_1.out 22 LN.out (by omega) (by omega)
  rw [HSg.out.2] at kB
  go_wp2_with fail
  refine (kB.out).mono ?_
  rintro e w2 ⟨rfl, g⟩
  have C_2 := hold (C_1.out.below g)
  have B_2 := hold (B_1.out.below g)
  have G_2 := hold (G_1.out.trans (g.mono G_1.out.size))
  clear C_1 B_1 G_1 g
  clear kB kL
  go_wp2_with fail
  refine (power_any 255 _ (by omega)).mono ?_
  rintro e w3 ⟨v, rfl, hn, g⟩
  obtain ⟨Pa, Pc, Pd, rfl⟩ := hn.shape
  have P_3 : Hid (Num w3 (.slice Pa Pc Pd) (2 ^ 255)) := hn
  have C_3 := hold (C_2.out.below g)
  have B_3 := hold (B_2.out.below g)
  have G_3 := hold (G_2.out.trans (g.mono G_2.out.size))
  clear C_2 B_2 G_2 hn g
  go_wp2_with fail
  refine (sub_num N (2 ^ 255) _ _ _ B_3.out P_3.out 22 LN.out (by omega) HSg.out.1).mono ?_
  rintro e w4 ⟨v, rfl, hn, g⟩
  obtain ⟨Ya, Yc, Yd, rfl⟩ := hn.shape
  have Y_4 : Hid (Num w4 (.slice Ya Yc Yd) (N - 2 ^ 255)) := hn
  have C_4 := hold (C_3.out.below g)
  have G_4 := hold (G_3.out.trans (g.mono G_3.out.size))
  clear C_3 B_3 P_3 G_3 hn g
  have Q_4 : Hid (Num w4 (.slice Ya Yc Yd) y) := by rw [E_y.out]; exact Y_4.out
  clear Y_4
  have LY : Hid (y < 16777216 ^ 22) := by rw [E_y.out]; exact Nat.lt_of_le_of_lt (Nat.sub_le _ _) LN.out
  go_wp2_with fail
  refine (pD_num _).mono ?_
  rintro e w5 ⟨v, rfl, hn, g⟩
  obtain ⟨Ra, Rc, Rd, rfl⟩ := hn.shape
  have R_5 : Hid (Num w5 (.slice Ra Rc Rd) (P25)) := hn
  have C_5 := hold (C_4.out.below g)
  have Q_5 := hold (Q_4.out.below g)
  have G_5 := hold (G_4.out.trans (g.mono G_4.out.size))
  clear C_4 Q_4 G_4 hn g
  have hc : ord (y : Int) (P25 : Int) = -1 := by have := L_y.out; unfold ord; rw [if_pos (by omega)]
  go_wp2_with fail
  refine (cmp_num y P25 _ _ _ Q_5.out R_5.out 22 LY.out P25_lt22 (by omega)).mono ?_
  rintro e w6 ⟨rfl, g⟩
  have C_6 := hold (C_5.out.below g)
  have Q_6 := hold (Q_5.out.below g)
  have G_6 := hold (G_5.out.trans (g.mono G_5.out.size))
  clear C_5 Q_5 R_5 G_5 g
  rw [hc]
  have kM : Hid (∀ (A B C : Nat) v v' W, A < P25 → B < P25 → A * B % P25 = C → Num W v A → Num W v' B → Calls Tryd.prog 44 #[v, v'] W fun e w' => ∃ u, e = .returned u ∧ Num w' u C ∧ Below W.heap.size W w') := fun A B C v v' W h1 h2 h3 h4 h5 => by rw [← h3]; exact mulD_num A B v v' W h4 h5 (lt11 h1) (lt11 h2)
  go_wp2_with fail
  refine (kM.out y y a _ _ _ L_y.out L_y.out E_a.out Q_6.out Q_6.out).mono ?_
  rintro e w7 ⟨v, rfl, hn, g⟩
  obtain ⟨Aa, Ac, Ad, rfl⟩ := hn.shape
  have A_7 : Hid (Num w7 (.slice Aa Ac Ad) (a)) := hn
  have C_7 := hold (C_6.out.below g)
  have Q_7 := hold (Q_6.out.below g)
  have G_7 := hold (G_6.out.trans (g.mono G_6.out.size))
  clear C_6 Q_6 G_6 hn g
  go_wp2_with fail
  refine calls_at (fun V => At 35 V w.heap.size [.slice none 0 0, .slice none 0 0, .slice none 0 0, .bool false] ∧ Num V (.slice Ya Yc Yd) y ∧ Num V (.slice Aa Ac Ad) (a) ∧ Num V (.slice (some ⟨w7.heap.size, 0, none⟩) 1 1) 1 ∧ Below w.heap.size w V) ⟨C_7.out.below ((Below.refl _ _).alloc (Nat.le_refl _) _), Q_7.out.below ((Below.refl _ _).alloc (Nat.le_refl _) _), A_7.out.below ((Below.refl _ _).alloc (Nat.le_refl _) _), num_lit w7 1 (by omega) (by omega), G_7.out.alloc G_7.out.size _⟩ ?_
  rintro w8 ⟨k0, k1, k2, k3, hG⟩
  have C_8 : Hid (At 35 w8 w.heap.size [.slice none 0 0, .slice none 0 0, .slice none 0 0, .bool false]) := k0
  have Q_8 : Hid (Num w8 (.slice Ya Yc Yd) y) := k1
  have A_8 : Hid (Num w8 (.slice Aa Ac Ad) (a)) := k2
  have L_8 : Hid (Num w8 (.slice (some ⟨w7.heap.size, 0, none⟩) 1 1) 1) := k3
  have G_8 : Hid (Below w.heap.size w w8) := hG
  clear C_7 Q_7 A_7 G_7 hG k0 k1 k2 k3
  have kU : Hid (∀ v v' W, Num W v a → Num W v' 1 → Calls Tryd.prog 46 #[v, v'] W fun e w' => ∃ u, e = .returned u ∧ Num w' u U ∧ Below W.heap.size W w') := fun v v' W h1 h2 => by rw [← E_u.out]; exact subD_num a 1 v v' W h1 h2 (lt11 L_a.out) (by have : 1 ≤ P25 := (by decide +kernel); omega)
  refine (kU.out _ _ _ A_8.out L_8.out).mono ?_
  rintro e w9 ⟨v, rfl, hn, g⟩
  obtain ⟨U_a, U_c, U_d, rfl⟩ := hn.shape
  have U__9 : Hid (Num w9 (.slice U_a U_c U_d) (U)) := hn
  have C_9 := hold (C_8.out.below g)
  have Q_9 := hold (Q_8.out.below g)
  have A_9 := hold (A_8.out.below g)
  have G_9 := hold (G_8.out.trans (g.mono G_8.out.size))
  clear C_8 Q_8 A_8 L_8 G_8 hn g
  go_wp2_with fail
  refine (dD_num _).mono ?_
  rintro e w10 ⟨v, rfl, hn, g⟩
  obtain ⟨Ha, Hc, Hd, rfl⟩ := hn.shape
  have H_10 : Hid (Num w10 (.slice Ha Hc Hd) (D25)) := hn
  have C_10 := hold (C_9.out.below g)
  have Q_10 := hold (Q_9.out.below g)
  have A_10 := hold (A_9.out.below g)
  have U__10 := hold (U__9.out.below g)
  have G_10 := hold (G_9.out.trans (g.mono G_9.out.size))
  clear C_9 Q_9 A_9 U__9 G_9 hn g
  go_wp2_with fail
  refine (kM.out D25 a m _ _ _ (by decide +kernel) L_a.out E_m.out H_10.out A_10.out).mono ?_
  rintro e w11 ⟨v, rfl, hn, g⟩
  obtain ⟨Ma, Mc, Md, rfl⟩ := hn.shape
  have M_11 : Hid (Num w11 (.slice Ma Mc Md) (m)) := hn
  have C_11 := hold (C_10.out.below g)
  have Q_11 := hold (Q_10.out.below g)
  have U__11 := hold (U__10.out.below g)
  have G_11 := hold (G_10.out.trans (g.mono G_10.out.size))
  clear C_10 Q_10 A_10 U__10 H_10 G_10 hn g
  go_wp2_with fail
  refine calls_at (fun V => At 35 V w.heap.size [.slice none 0 0, .slice none 0 0, .slice none 0 0, .bool false] ∧ Num V (.slice Ya Yc Yd) y ∧ Num V (.slice U_a U_c U_d) (U) ∧ Num V (.slice Ma Mc Md) (m) ∧ Num V (.slice (some ⟨w11.heap.size, 0, none⟩) 1 1) 1 ∧ Below w.heap.size w V) ⟨C_11.out.below ((Below.refl _ _).alloc (Nat.le_refl _) _), Q_11.out.below ((Below.refl _ _).alloc (Nat.le_refl _) _), U__11.out.below ((Below.refl _ _).alloc (Nat.le_refl _) _), M_11.out.below ((Below.refl _ _).alloc (Nat.le_refl _) _), num_lit w11 1 (by omega) (by omega), G_11.out.alloc G_11.out.size _⟩ ?_
  rintro w12 ⟨k0, k1, k2, k3, k4, hG⟩
  have C_12 : Hid (At 35 w12 w.heap.size [.slice none 0 0, .slice none 0 0, .slice none 0 0, .bool false]) := k0
  have Q_12 : Hid (Num w12 (.slice Ya Yc Yd) y) := k1
  have U__12 : Hid (Num w12 (.slice U_a U_c U_d) (U)) := k2
  have M_12 : Hid (Num w12 (.slice Ma Mc Md) (m)) := k3
  have L_12 : Hid (Num w12 (.slice (some ⟨w11.heap.size, 0, none⟩) 1 1) 1) := k4
  have G_12 : Hid (Below w.heap.size w w12) := hG
  clear C_11 Q_11 U__11 M_11 G_11 hG k0 k1 k2 k3 k4
  have kV : Hid (∀ v v' W, Num W v m → Num W v' 1 → Calls Tryd.prog 47 #[v, v'] W fun e w' => ∃ u, e = .returned u ∧ Num w' u V ∧ Below W.heap.size W w') := fun v v' W h1 h2 => by rw [← E_v.out]; exact addD_num m 1 v v' W h1 h2 (lt11 L_m.out) (by decide +kernel)
  refine (kV.out _ _ _ M_12.out L_12.out).mono ?_
  rintro e w13 ⟨v, rfl, hn, g⟩
  obtain ⟨V_a, V_c, V_d, rfl⟩ := hn.shape
  have V__13 : Hid (Num w13 (.slice V_a V_c V_d) (V)) := hn
  have C_13 := hold (C_12.out.below g)
  have Q_13 := hold (Q_12.out.below g)
  have U__13 := hold (U__12.out.below g)
  have G_13 := hold (G_12.out.trans (g.mono G_12.out.size))
  clear C_12 Q_12 U__12 M_12 L_12 G_12 hn g
  have kR := ratioD_num U V _ _ w13 U__13.out V__13.out L_u.out L_v.out
  rw [hok] at kR
  go_wp2_with fail
  refine kR.mono ?_
  clear kR
  rintro e w14 ⟨v, rfl, hn, g⟩
  have len0 := num_len0 hn
  obtain ⟨Xa, Xc, Xd, rfl⟩ := hn.shape
  have len1 := len0 _ _ _ rfl
  clear len0
  have X_14 : Hid (Num w14 (.slice Xa Xc Xd) (ratN U V)) := hn
  have C_14 := hold (C_13.out.below g)
  have Q_14 := hold (Q_13.out.below g)
  have G_14 := hold (G_13.out.trans (g.mono G_13.out.size))
  clear C_13 Q_13 G_13 hn g U__13 V__13
  have hXc : (Xc : Int) = 0 := by have := len1.1 hr; omega
  clear len1 hr
  have r0 := C_14.out.cell 0
  have r1 := C_14.out.cell 1
  have r2 := C_14.out.cell 2
  have r3 := C_14.out.cell 3
  simp only [List.getElem?_cons_zero, List.getElem?_cons_succ] at r0 r1 r2 r3
  have s0 := C_14.out.free 0
  have s1 := C_14.out.free 1
  have s2 := C_14.out.free 2
  have s3 := C_14.out.free 3
  go_wp2_with fail
  clear r0 r1 r2 r3 s0 s1 s2 s3
  have hF := ((((Oth.refl w.heap.size w14).set 0 (.slice none 0 0)).set 1 (.slice none 0 0)).set 2 (.slice none 0 0)).set 3 (.bool false)
  refine body_cut' (fun F => At 35 F w.heap.size [.slice none 0 0, .slice none 0 0, .slice none 0 0, .bool false] ∧ Below w.heap.size w F) ⟨(((C_14.out.set 0 _).set 1 _).set 2 _).set 3 _, Oth.bel G_14.out hF (Nat.le_refl _)⟩ ?_
  rintro F ⟨hC, hB⟩
  exact bodyPost_ret (v := .agg #[.slice none 0 0, .slice none 0 0, .slice none 0 0, .bool false]) (results_mid (Tryd.results9) _ F w.heap.size 0 [.slice none 0 0, .slice none 0 0, .slice none 0 0, .bool false] _ rfl hC.range Tryd.underlying35 rfl (by kernel_rfl)) rfl ⟨rfl, hB⟩

set_option maxRecDepth 100000 in
set_option maxHeartbeats 8000000 in
theorem of_yes_neg (l : List Nat) (hb : Bb l) (hlen : l.length = 32) (N y a m U V : Nat) (hN : hvN (turn l) 32 = N) (hN2 : N < 2 ^ 256) (hsg : 2 ^ 255 ≤ N ∧ N / 2 ^ 255 % 2 = 1) (hy : y = N - 2 ^ 255) (hyP : y < P25) (q_a : y * y % P25 = a) (q_u : (a + P25 - 1) % P25 = U) (q_m : D25 * a % P25 = m) (q_v : (m + 1) % P25 = V) (hok : ratOk U V = true) (hr : ¬ ratN U V = 0) (v : Value) (w : World) (hs : SK .u8 w v l) :
    Calls Tryd.prog 9 #[v] w fun e w' => ∃ v1 v2 v3, e = .returned (.agg #[v1, v2, v3, .bool true]) ∧ Num w' v1 ((0 + P25 - ratN U V) % P25) ∧ Num w' v2 y ∧ Num w' v3 1 ∧ Below w.heap.size w w' := by
  obtain ⟨la, lc, hle⟩ := hs.shape
  subst hle
  have HS : Hid (SK .u8 w (.slice la l.length lc) l) := hs
  have HBl : Hid (Bb l) := hb
  obtain ⟨w0, hw0⟩ : ∃ V, Hid ((w.alloc (.cells #[.slice none 0 0, .slice none 0 0, .slice none 0 0, .bool false] 35)) = V) := ⟨_, rfl⟩
  have G_0 : Hid (Below w.heap.size w w0) := by unfold Hid; rw [← hw0.out]; exact (Below.refl _ _).alloc (Nat.le_refl _) _
  have C_0 : Hid (At 35 w0 w.heap.size [.slice none 0 0, .slice none 0 0, .slice none 0 0, .bool false]) := by unfold Hid; rw [← hw0.out]; exact at_new 35 w [.slice none 0 0, .slice none 0 0, .slice none 0 0, .bool false]
  obtain ⟨ln, hln⟩ : ∃ n, Hid (l.length = n) := ⟨_, rfl⟩
  rw [hln.out] at HS hlen ⊢
  obtain rfl : ln = 32 := hlen
  have kL : Hid (∀ W, Below w.heap.size w W → Calls Tryd.prog 39 #[.slice la 32 lc] W fun e w' => ∃ v, e = .returned v ∧ Num w' v N ∧ Below W.heap.size W w') := fun W hW => by
    have h := littleN_any l HBl.out _ W (HS.out.below hW) (by rw [hln.out]; omega)
    rw [hln.out, hN] at h
    exact h
  have LN : Hid (N < 16777216 ^ 22) := Nat.lt_trans hN2 (by decide +kernel)
  have E_y : Hid (y = N - 2 ^ 255) := hy
  have HSg : Hid (2 ^ 255 ≤ N ∧ N / 2 ^ 255 % 2 = 1) := hsg
  have L_y : Hid (y < P25) := hyP
  have E_a : Hid (y * y % P25 = a) := q_a
  have E_u : Hid ((a + P25 - 1) % P25 = U) := q_u
  have E_m : Hid (D25 * a % P25 = m) := q_m
  have E_v : Hid ((m + 1) % P25 = V) := q_v
  have L_a : Hid (a < P25) := by rw [← q_a]; exact mod_P _
  have L_u : Hid (U < P25) := by rw [← q_u]; exact mod_P _
  have L_m : Hid (m < P25) := by rw [← q_m]; exact mod_P _
  have L_v : Hid (V < P25) := by rw [← q_v]; exact mod_P _
  clear hs hb hN hN2 hy hsg hyP q_a q_u q_m q_v
  go_enter Tryd.func9, Tryd.ntmps9
  go_upto_region 1 with fail
  rw [hw0.out]
  clear hw0
  go_wp2_with fail
  refine (kL.out _ G_0.out).mono ?_
  rintro e w1 ⟨v, rfl, hn, g⟩
  obtain ⟨Ba, Bc, Bd, rfl⟩ := hn.shape
  have B_1 : Hid (Num w1 (.slice Ba Bc Bd) (N)) := hn
  have C_1 := hold (C_0.out.below g)
  have G_1 := hold (G_0.out.trans (g.mono G_0.out.size))
  clear C_0 G_0 hn g
  have kB : Hid (Calls Tryd.prog 40 #[.slice Ba Bc Bd, .int .i64 255] w1 fun e w' => e = .returned (.int .i64 ((N / 2 ^ 255 % 2 : Nat) : Int)) ∧ Below w1.heap.size w1 w') := bit_num N _ 255 w1 B_1.out 22 LN.out (by omega) (by omega)
  rw [HSg.out.2] at kB
  go_wp2_with fail
  refine (kB.out).mono ?_
  rintro e w2 ⟨rfl, g⟩
  have C_2 := hold (C_1.out.below g)
  have B_2 := hold (B_1.out.below g)
  have G_2 := hold (G_1.out.trans (g.mono G_1.out.size))
  clear C_1 B_1 G_1 g
  clear kB kL
  go_wp2_with fail
  refine (power_any 255 _ (by omega)).mono ?_
  rintro e w3 ⟨v, rfl, hn, g⟩
  obtain ⟨Pa, Pc, Pd, rfl⟩ := hn.shape
  have P_3 : Hid (Num w3 (.slice Pa Pc Pd) (2 ^ 255)) := hn
  have C_3 := hold (C_2.out.below g)
  have B_3 := hold (B_2.out.below g)
  have G_3 := hold (G_2.out.trans (g.mono G_2.out.size))
  clear C_2 B_2 G_2 hn g
  go_wp2_with fail
  refine (sub_num N (2 ^ 255) _ _ _ B_3.out P_3.out 22 LN.out (by omega) HSg.out.1).mono ?_
  rintro e w4 ⟨v, rfl, hn, g⟩
  obtain ⟨Ya, Yc, Yd, rfl⟩ := hn.shape
  have Y_4 : Hid (Num w4 (.slice Ya Yc Yd) (N - 2 ^ 255)) := hn
  have C_4 := hold (C_3.out.below g)
  have G_4 := hold (G_3.out.trans (g.mono G_3.out.size))
  clear C_3 B_3 P_3 G_3 hn g
  have Q_4 : Hid (Num w4 (.slice Ya Yc Yd) y) := by rw [E_y.out]; exact Y_4.out
  clear Y_4
  have LY : Hid (y < 16777216 ^ 22) := by rw [E_y.out]; exact Nat.lt_of_le_of_lt (Nat.sub_le _ _) LN.out
  go_wp2_with fail
  refine (pD_num _).mono ?_
  rintro e w5 ⟨v, rfl, hn, g⟩
  obtain ⟨Ra, Rc, Rd, rfl⟩ := hn.shape
  have R_5 : Hid (Num w5 (.slice Ra Rc Rd) (P25)) := hn
  have C_5 := hold (C_4.out.below g)
  have Q_5 := hold (Q_4.out.below g)
  have G_5 := hold (G_4.out.trans (g.mono G_4.out.size))
  clear C_4 Q_4 G_4 hn g
  have hc : ord (y : Int) (P25 : Int) = -1 := by have := L_y.out; unfold ord; rw [if_pos (by omega)]
  go_wp2_with fail
  refine (cmp_num y P25 _ _ _ Q_5.out R_5.out 22 LY.out P25_lt22 (by omega)).mono ?_
  rintro e w6 ⟨rfl, g⟩
  have C_6 := hold (C_5.out.below g)
  have Q_6 := hold (Q_5.out.below g)
  have G_6 := hold (G_5.out.trans (g.mono G_5.out.size))
  clear C_5 Q_5 R_5 G_5 g
  rw [hc]
  have kM : Hid (∀ (A B C : Nat) v v' W, A < P25 → B < P25 → A * B % P25 = C → Num W v A → Num W v' B → Calls Tryd.prog 44 #[v, v'] W fun e w' => ∃ u, e = .returned u ∧ Num w' u C ∧ Below W.heap.size W w') := fun A B C v v' W h1 h2 h3 h4 h5 => by rw [← h3]; exact mulD_num A B v v' W h4 h5 (lt11 h1) (lt11 h2)
  go_wp2_with fail
  refine (kM.out y y a _ _ _ L_y.out L_y.out E_a.out Q_6.out Q_6.out).mono ?_
  rintro e w7 ⟨v, rfl, hn, g⟩
  obtain ⟨Aa, Ac, Ad, rfl⟩ := hn.shape
  have A_7 : Hid (Num w7 (.slice Aa Ac Ad) (a)) := hn
  have C_7 := hold (C_6.out.below g)
  have Q_7 := hold (Q_6.out.below g)
  have G_7 := hold (G_6.out.trans (g.mono G_6.out.size))
  clear C_6 Q_6 G_6 hn g
  go_wp2_with fail
  refine calls_at (fun V => At 35 V w.heap.size [.slice none 0 0, .slice none 0 0, .slice none 0 0, .bool false] ∧ Num V (.slice Ya Yc Yd) y ∧ Num V (.slice Aa Ac Ad) (a) ∧ Num V (.slice (some ⟨w7.heap.size, 0, none⟩) 1 1) 1 ∧ Below w.heap.size w V) ⟨C_7.out.below ((Below.refl _ _).alloc (Nat.le_refl _) _), Q_7.out.below ((Below.refl _ _).alloc (Nat.le_refl _) _), A_7.out.below ((Below.refl _ _).alloc (Nat.le_refl _) _), num_lit w7 1 (by omega) (by omega), G_7.out.alloc G_7.out.size _⟩ ?_
  rintro w8 ⟨k0, k1, k2, k3, hG⟩
  have C_8 : Hid (At 35 w8 w.heap.size [.slice none 0 0, .slice none 0 0, .slice none 0 0, .bool false]) := k0
  have Q_8 : Hid (Num w8 (.slice Ya Yc Yd) y) := k1
  have A_8 : Hid (Num w8 (.slice Aa Ac Ad) (a)) := k2
  have L_8 : Hid (Num w8 (.slice (some ⟨w7.heap.size, 0, none⟩) 1 1) 1) := k3
  have G_8 : Hid (Below w.heap.size w w8) := hG
  clear C_7 Q_7 A_7 G_7 hG k0 k1 k2 k3
  have kU : Hid (∀ v v' W, Num W v a → Num W v' 1 → Calls Tryd.prog 46 #[v, v'] W fun e w' => ∃ u, e = .returned u ∧ Num w' u U ∧ Below W.heap.size W w') := fun v v' W h1 h2 => by rw [← E_u.out]; exact subD_num a 1 v v' W h1 h2 (lt11 L_a.out) (by have : 1 ≤ P25 := (by decide +kernel); omega)
  refine (kU.out _ _ _ A_8.out L_8.out).mono ?_
  rintro e w9 ⟨v, rfl, hn, g⟩
  obtain ⟨U_a, U_c, U_d, rfl⟩ := hn.shape
  have U__9 : Hid (Num w9 (.slice U_a U_c U_d) (U)) := hn
  have C_9 := hold (C_8.out.below g)
  have Q_9 := hold (Q_8.out.below g)
  have A_9 := hold (A_8.out.below g)
  have G_9 := hold (G_8.out.trans (g.mono G_8.out.size))
  clear C_8 Q_8 A_8 L_8 G_8 hn g
  go_wp2_with fail
  refine (dD_num _).mono ?_
  rintro e w10 ⟨v, rfl, hn, g⟩
  obtain ⟨Ha, Hc, Hd, rfl⟩ := hn.shape
  have H_10 : Hid (Num w10 (.slice Ha Hc Hd) (D25)) := hn
  have C_10 := hold (C_9.out.below g)
  have Q_10 := hold (Q_9.out.below g)
  have A_10 := hold (A_9.out.below g)
  have U__10 := hold (U__9.out.below g)
  have G_10 := hold (G_9.out.trans (g.mono G_9.out.size))
  clear C_9 Q_9 A_9 U__9 G_9 hn g
  go_wp2_with fail
  refine (kM.out D25 a m _ _ _ (by decide +kernel) L_a.out E_m.out H_10.out A_10.out).mono ?_
  rintro e w11 ⟨v, rfl, hn, g⟩
  obtain ⟨Ma, Mc, Md, rfl⟩ := hn.shape
  have M_11 : Hid (Num w11 (.slice Ma Mc Md) (m)) := hn
  have C_11 := hold (C_10.out.below g)
  have Q_11 := hold (Q_10.out.below g)
  have U__11 := hold (U__10.out.below g)
  have G_11 := hold (G_10.out.trans (g.mono G_10.out.size))
  clear C_10 Q_10 A_10 U__10 H_10 G_10 hn g
  go_wp2_with fail
  refine calls_at (fun V => At 35 V w.heap.size [.slice none 0 0, .slice none 0 0, .slice none 0 0, .bool false] ∧ Num V (.slice Ya Yc Yd) y ∧ Num V (.slice U_a U_c U_d) (U) ∧ Num V (.slice Ma Mc Md) (m) ∧ Num V (.slice (some ⟨w11.heap.size, 0, none⟩) 1 1) 1 ∧ Below w.heap.size w V) ⟨C_11.out.below ((Below.refl _ _).alloc (Nat.le_refl _) _), Q_11.out.below ((Below.refl _ _).alloc (Nat.le_refl _) _), U__11.out.below ((Below.refl _ _).alloc (Nat.le_refl _) _), M_11.out.below ((Below.refl _ _).alloc (Nat.le_refl _) _), num_lit w11 1 (by omega) (by omega), G_11.out.alloc G_11.out.size _⟩ ?_
  rintro w12 ⟨k0, k1, k2, k3, k4, hG⟩
  have C_12 : Hid (At 35 w12 w.heap.size [.slice none 0 0, .slice none 0 0, .slice none 0 0, .bool false]) := k0
  have Q_12 : Hid (Num w12 (.slice Ya Yc Yd) y) := k1
  have U__12 : Hid (Num w12 (.slice U_a U_c U_d) (U)) := k2
  have M_12 : Hid (Num w12 (.slice Ma Mc Md) (m)) := k3
  have L_12 : Hid (Num w12 (.slice (some ⟨w11.heap.size, 0, none⟩) 1 1) 1) := k4
  have G_12 : Hid (Below w.heap.size w w12) := hG
  clear C_11 Q_11 U__11 M_11 G_11 hG k0 k1 k2 k3 k4
  have kV : Hid (∀ v v' W, Num W v m → Num W v' 1 → Calls Tryd.prog 47 #[v, v'] W fun e w' => ∃ u, e = .returned u ∧ Num w' u V ∧ Below W.heap.size W w') := fun v v' W h1 h2 => by rw [← E_v.out]; exact addD_num m 1 v v' W h1 h2 (lt11 L_m.out) (by decide +kernel)
  refine (kV.out _ _ _ M_12.out L_12.out).mono ?_
  rintro e w13 ⟨v, rfl, hn, g⟩
  obtain ⟨V_a, V_c, V_d, rfl⟩ := hn.shape
  have V__13 : Hid (Num w13 (.slice V_a V_c V_d) (V)) := hn
  have C_13 := hold (C_12.out.below g)
  have Q_13 := hold (Q_12.out.below g)
  have U__13 := hold (U__12.out.below g)
  have G_13 := hold (G_12.out.trans (g.mono G_12.out.size))
  clear C_12 Q_12 U__12 M_12 L_12 G_12 hn g
  have kR := ratioD_num U V _ _ w13 U__13.out V__13.out L_u.out L_v.out
  rw [hok] at kR
  go_wp2_with fail
  refine kR.mono ?_
  clear kR
  rintro e w14 ⟨v, rfl, hn, g⟩
  have len0 := num_len0 hn
  obtain ⟨Xa, Xc, Xd, rfl⟩ := hn.shape
  have len1 := len0 _ _ _ rfl
  clear len0
  have X_14 : Hid (Num w14 (.slice Xa Xc Xd) (ratN U V)) := hn
  have C_14 := hold (C_13.out.below g)
  have Q_14 := hold (Q_13.out.below g)
  have G_14 := hold (G_13.out.trans (g.mono G_13.out.size))
  clear C_13 Q_13 G_13 hn g U__13 V__13
  have hXn : ¬ Xc = 0 := fun q => hr (len1.2 q)
  have hXd : decide ((Xc : Int) = 0) = false := by rw [decide_eq_false_iff_not]; omega
  have hXb : ((Xc : Int) == 0) = false := by rw [beq_eq_false_iff_ne]; omega
  clear len1 hr
  have LR : Hid (ratN U V ≤ 0 + P25) := by have := rat_lt U V; unfold Hid; omega
  go_wp2_with fail
  refine (subD_num 0 (ratN U V) _ _ _ (num_none _) X_14.out (by decide +kernel) LR.out).mono ?_
  rintro e w15 ⟨v, rfl, hn, g⟩
  obtain ⟨Za, Zc, Zd, rfl⟩ := hn.shape
  have Z_15 : Hid (Num w15 (.slice Za Zc Zd) ((0 + P25 - ratN U V) % P25)) := hn
  have C_15 := hold (C_14.out.below g)
  have Q_15 := hold (Q_14.out.below g)
  have G_15 := hold (G_14.out.trans (g.mono G_14.out.size))
  clear C_14 Q_14 X_14 G_14 hn g
  have gl : Below w15.heap.size w15 (w15.alloc (.cells #[.int .i64 1] 3)) := (Below.refl _ _).alloc (Nat.le_refl _) _
  have C_16 := hold (C_15.out.below gl)
  have Z_16 := hold (Z_15.out.below gl)
  have Q_16 := hold (Q_15.out.below gl)
  have G_16 := hold (G_15.out.trans (gl.mono G_15.out.size))
  have O_16 : Hid (Num (w15.alloc (.cells #[.int .i64 1] 3)) (.slice (some ⟨w15.heap.size, 0, none⟩) 1 1) 1) := num_lit w15 1 (by omega) (by omega)
  clear gl
  have r0 := C_16.out.cell 0
  have r1 := C_16.out.cell 1
  have r2 := C_16.out.cell 2
  have r3 := C_16.out.cell 3
  simp only [List.getElem?_cons_zero, List.getElem?_cons_succ] at r0 r1 r2 r3
  have s0 := C_16.out.free 0
  have s1 := C_16.out.free 1
  have s2 := C_16.out.free 2
  have s3 := C_16.out.free 3
  go_wp2_with fail
  clear r0 r1 r2 r3 s0 s1 s2 s3
  obtain ⟨wZ, hwZ⟩ : ∃ V, Hid ((w15.alloc (.cells #[.int .i64 1] 3)) = V) := ⟨_, rfl⟩
  rw [hwZ.out] at C_16 Z_16 Q_16 G_16 O_16 ⊢
  have o1 : Off w.heap.size (.slice Za Zc Zd) := off_none C_16.out (no_ints _ _ _ _ _ _ _ _ _ _) Z_16.out
  have o2 : Off w.heap.size (.slice Ya Yc Yd) := off_none C_16.out (no_ints _ _ _ _ _ _ _ _ _ _) Q_16.out
  have o3 : Off w.heap.size (.slice (some ⟨w15.heap.size, 0, none⟩) 1 1) := off_none C_16.out (no_ints _ _ _ _ _ _ _ _ _ _) O_16.out
  have hF := ((((Oth.refl w.heap.size wZ).set 0 (.slice Za Zc Zd)).set 1 (.slice Ya Yc Yd)).set 2 (.slice (some ⟨w15.heap.size, 0, none⟩) 1 1)).set 3 (.bool true)
  refine body_cut' (fun F => At 35 F w.heap.size [.slice Za Zc Zd, .slice Ya Yc Yd, .slice (some ⟨w15.heap.size, 0, none⟩) 1 1, .bool true] ∧ Num F (.slice Za Zc Zd) ((0 + P25 - ratN U V) % P25) ∧ Num F (.slice Ya Yc Yd) y ∧ Num F (.slice (some ⟨w15.heap.size, 0, none⟩) 1 1) 1 ∧ Below w.heap.size w F)
    ⟨(((C_16.out.set 0 _).set 1 _).set 2 _).set 3 _, Z_16.out.oth10 hF o1, Q_16.out.oth10 hF o2, O_16.out.oth10 hF o3, Oth.bel G_16.out hF (Nat.le_refl _)⟩ ?_
  rintro F ⟨hC, h1, h2, h3, hB⟩
  exact bodyPost_ret (v := .agg #[.slice Za Zc Zd, .slice Ya Yc Yd, .slice (some ⟨w15.heap.size, 0, none⟩) 1 1, .bool true]) (results_mid (Tryd.results9) _ F w.heap.size 0 [.slice Za Zc Zd, .slice Ya Yc Yd, .slice (some ⟨w15.heap.size, 0, none⟩) 1 1, .bool true] _ rfl hC.range Tryd.underlying35 rfl (by kernel_rfl)) rfl ⟨_, _, _, rfl, h1, h2, h3, hB⟩

set_option maxRecDepth 100000 in
set_option maxHeartbeats 8000000 in
theorem of_big (l : List Nat) (hb : Bb l) (hlen : l.length = 32) (N y : Nat) (hN : hvN (turn l) 32 = N) (hN2 : N < 2 ^ 256) (hsg : N / 2 ^ 255 % 2 = 0) (hy : y = N) (hyP : P25 ≤ y) (v : Value) (w : World) (hs : SK .u8 w v l) :
    Calls Tryd.prog 9 #[v] w fun e w' => e = .returned (.agg #[.slice none 0 0, .slice none 0 0, .slice none 0 0, .bool false]) ∧ Below w.heap.size w w' := by
  obtain ⟨la, lc, hle⟩ := hs.shape
  subst hle
  have HS : Hid (SK .u8 w (.slice la l.length lc) l) := hs
  have HBl : Hid (Bb l) := hb
  obtain ⟨w0, hw0⟩ : ∃ V, Hid ((w.alloc (.cells #[.slice none 0 0, .slice none 0 0, .slice none 0 0, .bool false] 35)) = V) := ⟨_, rfl⟩
  have G_0 : Hid (Below w.heap.size w w0) := by unfold Hid; rw [← hw0.out]; exact (Below.refl _ _).alloc (Nat.le_refl _) _
  have C_0 : Hid (At 35 w0 w.heap.size [.slice none 0 0, .slice none 0 0, .slice none 0 0, .bool false]) := by unfold Hid; rw [← hw0.out]; exact at_new 35 w [.slice none 0 0, .slice none 0 0, .slice none 0 0, .bool false]
  obtain ⟨ln, hln⟩ : ∃ n, Hid (l.length = n) := ⟨_, rfl⟩
  rw [hln.out] at HS hlen ⊢
  obtain rfl : ln = 32 := hlen
  have kL : Hid (∀ W, Below w.heap.size w W → Calls Tryd.prog 39 #[.slice la 32 lc] W fun e w' => ∃ v, e = .returned v ∧ Num w' v N ∧ Below W.heap.size W w') := fun W hW => by
    have h := littleN_any l HBl.out _ W (HS.out.below hW) (by rw [hln.out]; omega)
    rw [hln.out, hN] at h
    exact h
  have LN : Hid (N < 16777216 ^ 22) := Nat.lt_trans hN2 (by decide +kernel)
  have E_y : Hid (y = N ) := hy
  have HSg : Hid (N / 2 ^ 255 % 2 = 0) := hsg
  have L_y : Hid (P25 ≤ y) := hyP
  clear hs hb hN hN2 hy hsg hyP
  go_enter Tryd.func9, Tryd.ntmps9
  go_upto_region 1 with fail
  rw [hw0.out]
  clear hw0
  go_wp2_with fail
  refine (kL.out _ G_0.out).mono ?_
  rintro e w1 ⟨v, rfl, hn, g⟩
  obtain ⟨Ba, Bc, Bd, rfl⟩ := hn.shape
  have B_1 : Hid (Num w1 (.slice Ba Bc Bd) (N)) := hn
  have C_1 := hold (C_0.out.below g)
  have G_1 := hold (G_0.out.trans (g.mono G_0.out.size))
  clear C_0 G_0 hn g
  have kB : Hid (Calls Tryd.prog 40 #[.slice Ba Bc Bd, .int .i64 255] w1 fun e w' => e = .returned (.int .i64 ((N / 2 ^ 255 % 2 : Nat) : Int)) ∧ Below w1.heap.size w1 w') := bit_num N _ 255 w1 B_1.out 22 LN.out (by omega) (by omega)
  rw [HSg.out] at kB
  go_wp2_with fail
  refine (kB.out).mono ?_
  rintro e w2 ⟨rfl, g⟩
  have C_2 := hold (C_1.out.below g)
  have B_2 := hold (B_1.out.below g)
  have G_2 := hold (G_1.out.trans (g.mono G_1.out.size))
  clear C_1 B_1 G_1 g
  clear kB kL
  have Q_2 : Hid (Num w2 (.slice Ba Bc Bd) y) := by rw [E_y.out]; exact B_2.out
  clear B_2
  have LY : Hid (y < 16777216 ^ 22) := by rw [E_y.out]; exact Nat.lt_of_le_of_lt (Nat.le_refl _) LN.out
  go_wp2_with fail
  refine (pD_num _).mono ?_
  rintro e w3 ⟨v, rfl, hn, g⟩
  obtain ⟨Ra, Rc, Rd, rfl⟩ := hn.shape
  have R_3 : Hid (Num w3 (.slice Ra Rc Rd) (P25)) := hn
  have C_3 := hold (C_2.out.below g)
  have Q_3 := hold (Q_2.out.below g)
  have G_3 := hold (G_2.out.trans (g.mono G_2.out.size))
  clear C_2 Q_2 G_2 hn g
  have hc : ¬ ord (y : Int) (P25 : Int) < 0 := by have := L_y.out; unfold ord; rw [if_neg (by omega)]; split <;> omega
  have hc3 : (0 : Int) ≤ ord (y : Int) (P25 : Int) := by omega
  go_wp2_with fail
  refine (cmp_num y P25 _ _ _ Q_3.out R_3.out 22 LY.out P25_lt22 (by omega)).mono ?_
  rintro e w4 ⟨rfl, g⟩
  have C_4 := hold (C_3.out.below g)
  have Q_4 := hold (Q_3.out.below g)
  have G_4 := hold (G_3.out.trans (g.mono G_3.out.size))
  clear C_3 Q_3 R_3 G_3 g
  generalize ord (y : Int) (P25 : Int) = oo at *
  have r0 := C_4.out.cell 0
  have r1 := C_4.out.cell 1
  have r2 := C_4.out.cell 2
  have r3 := C_4.out.cell 3
  simp only [List.getElem?_cons_zero, List.getElem?_cons_succ] at r0 r1 r2 r3
  have s0 := C_4.out.free 0
  have s1 := C_4.out.free 1
  have s2 := C_4.out.free 2
  have s3 := C_4.out.free 3
  go_wp2_with fail
  clear r0 r1 r2 r3 s0 s1 s2 s3
  have hF := ((((Oth.refl w.heap.size w4).set 0 (.slice none 0 0)).set 1 (.slice none 0 0)).set 2 (.slice none 0 0)).set 3 (.bool false)
  refine body_cut' (fun F => At 35 F w.heap.size [.slice none 0 0, .slice none 0 0, .slice none 0 0, .bool false] ∧ Below w.heap.size w F) ⟨(((C_4.out.set 0 _).set 1 _).set 2 _).set 3 _, Oth.bel G_4.out hF (Nat.le_refl _)⟩ ?_
  rintro F ⟨hC, hB⟩
  exact bodyPost_ret (v := .agg #[.slice none 0 0, .slice none 0 0, .slice none 0 0, .bool false]) (results_mid (Tryd.results9) _ F w.heap.size 0 [.slice none 0 0, .slice none 0 0, .slice none 0 0, .bool false] _ rfl hC.range Tryd.underlying35 rfl (by kernel_rfl)) rfl ⟨rfl, hB⟩

set_option maxRecDepth 100000 in
set_option maxHeartbeats 8000000 in
theorem of_notok (l : List Nat) (hb : Bb l) (hlen : l.length = 32) (N y a m U V : Nat) (hN : hvN (turn l) 32 = N) (hN2 : N < 2 ^ 256) (hsg : N / 2 ^ 255 % 2 = 0) (hy : y = N) (hyP : y < P25) (q_a : y * y % P25 = a) (q_u : (a + P25 - 1) % P25 = U) (q_m : D25 * a % P25 = m) (q_v : (m + 1) % P25 = V) (hok : ratOk U V = false) (v : Value) (w : World) (hs : SK .u8 w v l) :
    Calls Tryd.prog 9 #[v] w fun e w' => e = .returned (.agg #[.slice none 0 0, .slice none 0 0, .slice none 0 0, .bool false]) ∧ Below w.heap.size w w' := by
  obtain ⟨la, lc, hle⟩ := hs.shape
  subst hle
  have HS : Hid (SK .u8 w (.slice la l.length lc) l) := hs
  have HBl : Hid (Bb l) := hb
  obtain ⟨w0, hw0⟩ : ∃ V, Hid ((w.alloc (.cells #[.slice none 0 0, .slice none 0 0, .slice none 0 0, .bool false] 35)) = V) := ⟨_, rfl⟩
  have G_0 : Hid (Below w.heap.size w w0) := by unfold Hid; rw [← hw0.out]; exact (Below.refl _ _).alloc (Nat.le_refl _) _
  have C_0 : Hid (At 35 w0 w.heap.size [.slice none 0 0, .slice none 0 0, .slice none 0 0, .bool false]) := by unfold Hid; rw [← hw0.out]; exact at_new 35 w [.slice none 0 0, .slice none 0 0, .slice none 0 0, .bool false]
  obtain ⟨ln, hln⟩ : ∃ n, Hid (l.length = n) := ⟨_, rfl⟩
  rw [hln.out] at HS hlen ⊢
  obtain rfl : ln = 32 := hlen
  have kL : Hid (∀ W, Below w.heap.size w W → Calls Tryd.prog 39 #[.slice la 32 lc] W fun e w' => ∃ v, e = .returned v ∧ Num w' v N ∧ Below W.heap.size W w') := fun W hW => by
    have h := littleN_any l HBl.out _ W (HS.out.below hW) (by rw [hln.out]; omega)
    rw [hln.out, hN] at h
    exact h
  have LN : Hid (N < 16777216 ^ 22) := Nat.lt_trans hN2 (by decide +kernel)
  have E_y : Hid (y = N ) := hy
  have HSg : Hid (N / 2 ^ 255 % 2 = 0) := hsg
  have L_y : Hid (y < P25) := hyP
  have E_a : Hid (y * y % P25 = a) := q_a
  have E_u : Hid ((a + P25 - 1) % P25 = U) := q_u
  have E_m : Hid (D25 * a % P25 = m) := q_m
  have E_v : Hid ((m + 1) % P25 = V) := q_v
  have L_a : Hid (a < P25) := by rw [← q_a]; exact mod_P _
  have L_u : Hid (U < P25) := by rw [← q_u]; exact mod_P _
  have L_m : Hid (m < P25) := by rw [← q_m]; exact mod_P _
  have L_v : Hid (V < P25) := by rw [← q_v]; exact mod_P _
  clear hs hb hN hN2 hy hsg hyP q_a q_u q_m q_v
  go_enter Tryd.func9, Tryd.ntmps9
  go_upto_region 1 with fail
  rw [hw0.out]
  clear hw0
  go_wp2_with fail
  refine (kL.out _ G_0.out).mono ?_
  rintro e w1 ⟨v, rfl, hn, g⟩
  obtain ⟨Ba, Bc, Bd, rfl⟩ := hn.shape
  have B_1 : Hid (Num w1 (.slice Ba Bc Bd) (N)) := hn
  have C_1 := hold (C_0.out.below g)
  have G_1 := hold (G_0.out.trans (g.mono G_0.out.size))
  clear C_0 G_0 hn g
  have kB : Hid (Calls Tryd.prog 40 #[.slice Ba Bc Bd, .int .i64 255] w1 fun e w' => e = .returned (.int .i64 ((N / 2 ^ 255 % 2 : Nat) : Int)) ∧ Below w1.heap.size w1 w') := bit_num N _ 255 w1 B_1.out 22 LN.out (by omega) (by omega)
  rw [HSg.out] at kB
  go_wp2_with fail
  refine (kB.out).mono ?_
  rintro e w2 ⟨rfl, g⟩
  have C_2 := hold (C_1.out.below g)
  have B_2 := hold (B_1.out.below g)
  have G_2 := hold (G_1.out.trans (g.mono G_1.out.size))
  clear C_1 B_1 G_1 g
  clear kB kL
  have Q_2 : Hid (Num w2 (.slice Ba Bc Bd) y) := by rw [E_y.out]; exact B_2.out
  clear B_2
  have LY : Hid (y < 16777216 ^ 22) := by rw [E_y.out]; exact Nat.lt_of_le_of_lt (Nat.le_refl _) LN.out
  go_wp2_with fail
  refine (pD_num _).mono ?_
  rintro e w3 ⟨v, rfl, hn, g⟩
  obtain ⟨Ra, Rc, Rd, rfl⟩ := hn.shape
  have R_3 : Hid (Num w3 (.slice Ra Rc Rd) (P25)) := hn
  have C_3 := hold (C_2.out.below g)
  have Q_3 := hold (Q_2.out.below g)
  have G_3 := hold (G_2.out.trans (g.mono G_2.out.size))
  clear C_2 Q_2 G_2 hn g
  have hc : ord (y : Int) (P25 : Int) = -1 := by have := L_y.out; unfold ord; rw [if_pos (by omega)]
  go_wp2_with fail
  refine (cmp_num y P25 _ _ _ Q_3.out R_3.out 22 LY.out P25_lt22 (by omega)).mono ?_
  rintro e w4 ⟨rfl, g⟩
  have C_4 := hold (C_3.out.below g)
  have Q_4 := hold (Q_3.out.below g)
  have G_4 := hold (G_3.out.trans (g.mono G_3.out.size))
  clear C_3 Q_3 R_3 G_3 g
  rw [hc]
  have kM : Hid (∀ (A B C : Nat) v v' W, A < P25 → B < P25 → A * B % P25 = C → Num W v A → Num W v' B → Calls Tryd.prog 44 #[v, v'] W fun e w' => ∃ u, e = .returned u ∧ Num w' u C ∧ Below W.heap.size W w') := fun A B C v v' W h1 h2 h3 h4 h5 => by rw [← h3]; exact mulD_num A B v v' W h4 h5 (lt11 h1) (lt11 h2)
  go_wp2_with fail
  refine (kM.out y y a _ _ _ L_y.out L_y.out E_a.out Q_4.out Q_4.out).mono ?_
  rintro e w5 ⟨v, rfl, hn, g⟩
  obtain ⟨Aa, Ac, Ad, rfl⟩ := hn.shape
  have A_5 : Hid (Num w5 (.slice Aa Ac Ad) (a)) := hn
  have C_5 := hold (C_4.out.below g)
  have Q_5 := hold (Q_4.out.below g)
  have G_5 := hold (G_4.out.trans (g.mono G_4.out.size))
  clear C_4 Q_4 G_4 hn g
  go_wp2_with fail
  refine calls_at (fun V => At 35 V w.heap.size [.slice none 0 0, .slice none 0 0, .slice none 0 0, .bool false] ∧ Num V (.slice Ba Bc Bd) y ∧ Num V (.slice Aa Ac Ad) (a) ∧ Num V (.slice (some ⟨w5.heap.size, 0, none⟩) 1 1) 1 ∧ Below w.heap.size w V) ⟨C_5.out.below ((Below.refl _ _).alloc (Nat.le_refl _) _), Q_5.out.below ((Below.refl _ _).alloc (Nat.le_refl _) _), A_5.out.below ((Below.refl _ _).alloc (Nat.le_refl _) _), num_lit w5 1 (by omega) (by omega), G_5.out.alloc G_5.out.size _⟩ ?_
  rintro w6 ⟨k0, k1, k2, k3, hG⟩
  have C_6 : Hid (At 35 w6 w.heap.size [.slice none 0 0, .slice none 0 0, .slice none 0 0, .bool false]) := k0
  have Q_6 : Hid (Num w6 (.slice Ba Bc Bd) y) := k1
  have A_6 : Hid (Num w6 (.slice Aa Ac Ad) (a)) := k2
  have L_6 : Hid (Num w6 (.slice (some ⟨w5.heap.size, 0, none⟩) 1 1) 1) := k3
  have G_6 : Hid (Below w.heap.size w w6) := hG
  clear C_5 Q_5 A_5 G_5 hG k0 k1 k2 k3
  have kU : Hid (∀ v v' W, Num W v a → Num W v' 1 → Calls Tryd.prog 46 #[v, v'] W fun e w' => ∃ u, e = .returned u ∧ Num w' u U ∧ Below W.heap.size W w') := fun v v' W h1 h2 => by rw [← E_u.out]; exact subD_num a 1 v v' W h1 h2 (lt11 L_a.out) (by have : 1 ≤ P25 := (by decide +kernel); omega)
  refine (kU.out _ _ _ A_6.out L_6.out).mono ?_
  rintro e w7 ⟨v, rfl, hn, g⟩
  obtain ⟨U_a, U_c, U_d, rfl⟩ := hn.shape
  have U__7 : Hid (Num w7 (.slice U_a U_c U_d) (U)) := hn
  have C_7 := hold (C_6.out.below g)
  have Q_7 := hold (Q_6.out.below g)
  have A_7 := hold (A_6.out.below g)
  have G_7 := hold (G_6.out.trans (g.mono G_6.out.size))
  clear C_6 Q_6 A_6 L_6 G_6 hn g
  go_wp2_with fail
  refine (dD_num _).mono ?_
  rintro e w8 ⟨v, rfl, hn, g⟩
  obtain ⟨Ha, Hc, Hd, rfl⟩ := hn.shape
  have H_8 : Hid (Num w8 (.slice Ha Hc Hd) (D25)) := hn
  have C_8 := hold (C_7.out.below g)
  have Q_8 := hold (Q_7.out.below g)
  have A_8 := hold (A_7.out.below g)
  have U__8 := hold (U__7.out.below g)
  have G_8 := hold (G_7.out.trans (g.mono G_7.out.size))
  clear C_7 Q_7 A_7 U__7 G_7 hn g
  go_wp2_with fail
  refine (kM.out D25 a m _ _ _ (by decide +kernel) L_a.out E_m.out H_8.out A_8.out).mono ?_
  rintro e w9 ⟨v, rfl, hn, g⟩
  obtain ⟨Ma, Mc, Md, rfl⟩ := hn.shape
  have M_9 : Hid (Num w9 (.slice Ma Mc Md) (m)) := hn
  have C_9 := hold (C_8.out.below g)
  have Q_9 := hold (Q_8.out.below g)
  have U__9 := hold (U__8.out.below g)
  have G_9 := hold (G_8.out.trans (g.mono G_8.out.size))
  clear C_8 Q_8 A_8 U__8 H_8 G_8 hn g
  go_wp2_with fail
  refine calls_at (fun V => At 35 V w.heap.size [.slice none 0 0, .slice none 0 0, .slice none 0 0, .bool false] ∧ Num V (.slice Ba Bc Bd) y ∧ Num V (.slice U_a U_c U_d) (U) ∧ Num V (.slice Ma Mc Md) (m) ∧ Num V (.slice (some ⟨w9.heap.size, 0, none⟩) 1 1) 1 ∧ Below w.heap.size w V) ⟨C_9.out.below ((Below.refl _ _).alloc (Nat.le_refl _) _), Q_9.out.below ((Below.refl _ _).alloc (Nat.le_refl _) _), U__9.out.below ((Below.refl _ _).alloc (Nat.le_refl _) _), M_9.out.below ((Below.refl _ _).alloc (Nat.le_refl _) _), num_lit w9 1 (by omega) (by omega), G_9.out.alloc G_9.out.size _⟩ ?_
  rintro w10 ⟨k0, k1, k2, k3, k4, hG⟩
  have C_10 : Hid (At 35 w10 w.heap.size [.slice none 0 0, .slice none 0 0, .slice none 0 0, .bool false]) := k0
  have Q_10 : Hid (Num w10 (.slice Ba Bc Bd) y) := k1
  have U__10 : Hid (Num w10 (.slice U_a U_c U_d) (U)) := k2
  have M_10 : Hid (Num w10 (.slice Ma Mc Md) (m)) := k3
  have L_10 : Hid (Num w10 (.slice (some ⟨w9.heap.size, 0, none⟩) 1 1) 1) := k4
  have G_10 : Hid (Below w.heap.size w w10) := hG
  clear C_9 Q_9 U__9 M_9 G_9 hG k0 k1 k2 k3 k4
  have kV : Hid (∀ v v' W, Num W v m → Num W v' 1 → Calls Tryd.prog 47 #[v, v'] W fun e w' => ∃ u, e = .returned u ∧ Num w' u V ∧ Below W.heap.size W w') := fun v v' W h1 h2 => by rw [← E_v.out]; exact addD_num m 1 v v' W h1 h2 (lt11 L_m.out) (by decide +kernel)
  refine (kV.out _ _ _ M_10.out L_10.out).mono ?_
  rintro e w11 ⟨v, rfl, hn, g⟩
  obtain ⟨V_a, V_c, V_d, rfl⟩ := hn.shape
  have V__11 : Hid (Num w11 (.slice V_a V_c V_d) (V)) := hn
  have C_11 := hold (C_10.out.below g)
  have Q_11 := hold (Q_10.out.below g)
  have U__11 := hold (U__10.out.below g)
  have G_11 := hold (G_10.out.trans (g.mono G_10.out.size))
  clear C_10 Q_10 U__10 M_10 L_10 G_10 hn g
  have kR := ratioD_num U V _ _ w11 U__11.out V__11.out L_u.out L_v.out
  rw [hok] at kR
  go_wp2_with fail
  refine kR.mono ?_
  clear kR
  rintro e w12 ⟨v, rfl, hn, g⟩
  have len0 := num_len0 hn
  obtain ⟨Xa, Xc, Xd, rfl⟩ := hn.shape
  have len1 := len0 _ _ _ rfl
  clear len0
  have X_12 : Hid (Num w12 (.slice Xa Xc Xd) (ratN U V)) := hn
  have C_12 := hold (C_11.out.below g)
  have Q_12 := hold (Q_11.out.below g)
  have G_12 := hold (G_11.out.trans (g.mono G_11.out.size))
  clear C_11 Q_11 G_11 hn g U__11 V__11
  clear len1
  have r0 := C_12.out.cell 0
  have r1 := C_12.out.cell 1
  have r2 := C_12.out.cell 2
  have r3 := C_12.out.cell 3
  simp only [List.getElem?_cons_zero, List.getElem?_cons_succ] at r0 r1 r2 r3
  have s0 := C_12.out.free 0
  have s1 := C_12.out.free 1
  have s2 := C_12.out.free 2
  have s3 := C_12.out.free 3
  go_wp2_with fail
  clear r0 r1 r2 r3 s0 s1 s2 s3
  have hF := ((((Oth.refl w.heap.size w12).set 0 (.slice none 0 0)).set 1 (.slice none 0 0)).set 2 (.slice none 0 0)).set 3 (.bool false)
  refine body_cut' (fun F => At 35 F w.heap.size [.slice none 0 0, .slice none 0 0, .slice none 0 0, .bool false] ∧ Below w.heap.size w F) ⟨(((C_12.out.set 0 _).set 1 _).set 2 _).set 3 _, Oth.bel G_12.out hF (Nat.le_refl _)⟩ ?_
  rintro F ⟨hC, hB⟩
  exact bodyPost_ret (v := .agg #[.slice none 0 0, .slice none 0 0, .slice none 0 0, .bool false]) (results_mid (Tryd.results9) _ F w.heap.size 0 [.slice none 0 0, .slice none 0 0, .slice none 0 0, .bool false] _ rfl hC.range Tryd.underlying35 rfl (by kernel_rfl)) rfl ⟨rfl, hB⟩

set_option maxRecDepth 100000 in
set_option maxHeartbeats 8000000 in
theorem of_yes (l : List Nat) (hb : Bb l) (hlen : l.length = 32) (N y a m U V : Nat) (hN : hvN (turn l) 32 = N) (hN2 : N < 2 ^ 256) (hsg : N / 2 ^ 255 % 2 = 0) (hy : y = N) (hyP : y < P25) (q_a : y * y % P25 = a) (q_u : (a + P25 - 1) % P25 = U) (q_m : D25 * a % P25 = m) (q_v : (m + 1) % P25 = V) (hok : ratOk U V = true) (v : Value) (w : World) (hs : SK .u8 w v l) :
    Calls Tryd.prog 9 #[v] w fun e w' => ∃ v1 v2 v3, e = .returned (.agg #[v1, v2, v3, .bool true]) ∧ Num w' v1 (ratN U V) ∧ Num w' v2 y ∧ Num w' v3 1 ∧ Below w.heap.size w w' := by
  obtain ⟨la, lc, hle⟩ := hs.shape
  subst hle
  have HS : Hid (SK .u8 w (.slice la l.length lc) l) := hs
  have HBl : Hid (Bb l) := hb
  obtain ⟨w0, hw0⟩ : ∃ V, Hid ((w.alloc (.cells #[.slice none 0 0, .slice none 0 0, .slice none 0 0, .bool false] 35)) = V) := ⟨_, rfl⟩
  have G_0 : Hid (Below w.heap.size w w0) := by unfold Hid; rw [← hw0.out]; exact (Below.refl _ _).alloc (Nat.le_refl _) _
  have C_0 : Hid (At 35 w0 w.heap.size [.slice none 0 0, .slice none 0 0, .slice none 0 0, .bool false]) := by unfold Hid; rw [← hw0.out]; exact at_new 35 w [.slice none 0 0, .slice none 0 0, .slice none 0 0, .bool false]
  obtain ⟨ln, hln⟩ : ∃ n, Hid (l.length = n) := ⟨_, rfl⟩
  rw [hln.out] at HS hlen ⊢
  obtain rfl : ln = 32 := hlen
  have kL : Hid (∀ W, Below w.heap.size w W → Calls Tryd.prog 39 #[.slice la 32 lc] W fun e w' => ∃ v, e = .returned v ∧ Num w' v N ∧ Below W.heap.size W w') := fun W hW => by
    have h := littleN_any l HBl.out _ W (HS.out.below hW) (by rw [hln.out]; omega)
    rw [hln.out, hN] at h
    exact h
  have LN : Hid (N < 16777216 ^ 22) := Nat.lt_trans hN2 (by decide +kernel)
  have E_y : Hid (y = N ) := hy
  have HSg : Hid (N / 2 ^ 255 % 2 = 0) := hsg
  have L_y : Hid (y < P25) := hyP
  have E_a : Hid (y * y % P25 = a) := q_a
  have E_u : Hid ((a + P25 - 1) % P25 = U) := q_u
  have E_m : Hid (D25 * a % P25 = m) := q_m
  have E_v : Hid ((m + 1) % P25 = V) := q_v
  have L_a : Hid (a < P25) := by rw [← q_a]; exact mod_P _
  have L_u : Hid (U < P25) := by rw [← q_u]; exact mod_P _
  have L_m : Hid (m < P25) := by rw [← q_m]; exact mod_P _
  have L_v : Hid (V < P25) := by rw [← q_v]; exact mod_P _
  clear hs hb hN hN2 hy hsg hyP q_a q_u q_m q_v
  go_enter Tryd.func9, Tryd.ntmps9
  go_upto_region 1 with fail
  rw [hw0.out]
  clear hw0
  go_wp2_with fail
  refine (kL.out _ G_0.out).mono ?_
  rintro e w1 ⟨v, rfl, hn, g⟩
  obtain ⟨Ba, Bc, Bd, rfl⟩ := hn.shape
  have B_1 : Hid (Num w1 (.slice Ba Bc Bd) (N)) := hn
  have C_1 := hold (C_0.out.below g)
  have G_1 := hold (G_0.out.trans (g.mono G_0.out.size))
  clear C_0 G_0 hn g
  have kB : Hid (Calls Tryd.prog 40 #[.slice Ba Bc Bd, .int .i64 255] w1 fun e w' => e = .returned (.int .i64 ((N / 2 ^ 255 % 2 : Nat) : Int)) ∧ Below w1.heap.size w1 w') := bit_num N _ 255 w1 B_1.out 22 LN.out (by omega) (by omega)
  rw [HSg.out] at kB
  go_wp2_with fail
  refine (kB.out).mono ?_
  rintro e w2 ⟨rfl, g⟩
  have C_2 := hold (C_1.out.below g)
  have B_2 := hold (B_1.out.below g)
  have G_2 := hold (G_1.out.trans (g.mono G_1.out.size))
  clear C_1 B_1 G_1 g
  clear kB kL
  have Q_2 : Hid (Num w2 (.slice Ba Bc Bd) y) := by rw [E_y.out]; exact B_2.out
  clear B_2
  have LY : Hid (y < 16777216 ^ 22) := by rw [E_y.out]; exact Nat.lt_of_le_of_lt (Nat.le_refl _) LN.out
  go_wp2_with fail
  refine (pD_num _).mono ?_
  rintro e w3 ⟨v, rfl, hn, g⟩
  obtain ⟨Ra, Rc, Rd, rfl⟩ := hn.shape
  have R_3 : Hid (Num w3 (.slice Ra Rc Rd) (P25)) := hn
  have C_3 := hold (C_2.out.below g)
  have Q_3 := hold (Q_2.out.below g)
  have G_3 := hold (G_2.out.trans (g.mono G_2.out.size))
  clear C_2 Q_2 G_2 hn g
  have hc : ord (y : Int) (P25 : Int) = -1 := by have := L_y.out; unfold ord; rw [if_pos (by omega)]
  go_wp2_with fail
  refine (cmp_num y P25 _ _ _ Q_3.out R_3.out 22 LY.out P25_lt22 (by omega)).mono ?_
  rintro e w4 ⟨rfl, g⟩
  have C_4 := hold (C_3.out.below g)
  have Q_4 := hold (Q_3.out.below g)
  have G_4 := hold (G_3.out.trans (g.mono G_3.out.size))
  clear C_3 Q_3 R_3 G_3 g
  rw [hc]
  have kM : Hid (∀ (A B C : Nat) v v' W, A < P25 → B < P25 → A * B % P25 = C → Num W v A → Num W v' B → Calls Tryd.prog 44 #[v, v'] W fun e w' => ∃ u, e = .returned u ∧ Num w' u C ∧ Below W.heap.size W w') := fun A B C v v' W h1 h2 h3 h4 h5 => by rw [← h3]; exact mulD_num A B v v' W h4 h5 (lt11 h1) (lt11 h2)
  go_wp2_with fail
  refine (kM.out y y a _ _ _ L_y.out L_y.out E_a.out Q_4.out Q_4.out).mono ?_
  rintro e w5 ⟨v, rfl, hn, g⟩
  obtain ⟨Aa, Ac, Ad, rfl⟩ := hn.shape
  have A_5 : Hid (Num w5 (.slice Aa Ac Ad) (a)) := hn
  have C_5 := hold (C_4.out.below g)
  have Q_5 := hold (Q_4.out.below g)
  have G_5 := hold (G_4.out.trans (g.mono G_4.out.size))
  clear C_4 Q_4 G_4 hn g
  go_wp2_with fail
  refine calls_at (fun V => At 35 V w.heap.size [.slice none 0 0, .slice none 0 0, .slice none 0 0, .bool false] ∧ Num V (.slice Ba Bc Bd) y ∧ Num V (.slice Aa Ac Ad) (a) ∧ Num V (.slice (some ⟨w5.heap.size, 0, none⟩) 1 1) 1 ∧ Below w.heap.size w V) ⟨C_5.out.below ((Below.refl _ _).alloc (Nat.le_refl _) _), Q_5.out.below ((Below.refl _ _).alloc (Nat.le_refl _) _), A_5.out.below ((Below.refl _ _).alloc (Nat.le_refl _) _), num_lit w5 1 (by omega) (by omega), G_5.out.alloc G_5.out.size _⟩ ?_
  rintro w6 ⟨k0, k1, k2, k3, hG⟩
  have C_6 : Hid (At 35 w6 w.heap.size [.slice none 0 0, .slice none 0 0, .slice none 0 0, .bool false]) := k0
  have Q_6 : Hid (Num w6 (.slice Ba Bc Bd) y) := k1
  have A_6 : Hid (Num w6 (.slice Aa Ac Ad) (a)) := k2
  have L_6 : Hid (Num w6 (.slice (some ⟨w5.heap.size, 0, none⟩) 1 1) 1) := k3
  have G_6 : Hid (Below w.heap.size w w6) := hG
  clear C_5 Q_5 A_5 G_5 hG k0 k1 k2 k3
  have kU : Hid (∀ v v' W, Num W v a → Num W v' 1 → Calls Tryd.prog 46 #[v, v'] W fun e w' => ∃ u, e = .returned u ∧ Num w' u U ∧ Below W.heap.size W w') := fun v v' W h1 h2 => by rw [← E_u.out]; exact subD_num a 1 v v' W h1 h2 (lt11 L_a.out) (by have : 1 ≤ P25 := (by decide +kernel); omega)
  refine (kU.out _ _ _ A_6.out L_6.out).mono ?_
  rintro e w7 ⟨v, rfl, hn, g⟩
  obtain ⟨U_a, U_c, U_d, rfl⟩ := hn.shape
  have U__7 : Hid (Num w7 (.slice U_a U_c U_d) (U)) := hn
  have C_7 := hold (C_6.out.below g)
  have Q_7 := hold (Q_6.out.below g)
  have A_7 := hold (A_6.out.below g)
  have G_7 := hold (G_6.out.trans (g.mono G_6.out.size))
  clear C_6 Q_6 A_6 L_6 G_6 hn g
  go_wp2_with fail
  refine (dD_num _).mono ?_
  rintro e w8 ⟨v, rfl, hn, g⟩
  obtain ⟨Ha, Hc, Hd, rfl⟩ := hn.shape
  have H_8 : Hid (Num w8 (.slice Ha Hc Hd) (D25)) := hn
  have C_8 := hold (C_7.out.below g)
  have Q_8 := hold (Q_7.out.below g)
  have A_8 := hold (A_7.out.below g)
  have U__8 := hold (U__7.out.below g)
  have G_8 := hold (G_7.out.trans (g.mono G_7.out.size))
  clear C_7 Q_7 A_7 U__7 G_7 hn g
  go_wp2_with fail
  refine (kM.out D25 a m _ _ _ (by decide +kernel) L_a.out E_m.out H_8.out A_8.out).mono ?_
  rintro e w9 ⟨v, rfl, hn, g⟩
  obtain ⟨Ma, Mc, Md, rfl⟩ := hn.shape
  have M_9 : Hid (Num w9 (.slice Ma Mc Md) (m)) := hn
  have C_9 := hold (C_8.out.below g)
  have Q_9 := hold (Q_8.out.below g)
  have U__9 := hold (U__8.out.below g)
  have G_9 := hold (G_8.out.trans (g.mono G_8.out.size))
  clear C_8 Q_8 A_8 U__8 H_8 G_8 hn g
  go_wp2_with fail
  refine calls_at (fun V => At 35 V w.heap.size [.slice none 0 0, .slice none 0 0, .slice none 0 0, .bool false] ∧ Num V (.slice Ba Bc Bd) y ∧ Num V (.slice U_a U_c U_d) (U) ∧ Num V (.slice Ma Mc Md) (m) ∧ Num V (.slice (some ⟨w9.heap.size, 0, none⟩) 1 1) 1 ∧ Below w.heap.size w V) ⟨C_9.out.below ((Below.refl _ _).alloc (Nat.le_refl _) _), Q_9.out.below ((Below.refl _ _).alloc (Nat.le_refl _) _), U__9.out.below ((Below.refl _ _).alloc (Nat.le_refl _) _), M_9.out.below ((Below.refl _ _).alloc (Nat.le_refl _) _), num_lit w9 1 (by omega) (by omega), G_9.out.alloc G_9.out.size _⟩ ?_
  rintro w10 ⟨k0, k1, k2, k3, k4, hG⟩
  have C_10 : Hid (At 35 w10 w.heap.size [.slice none 0 0, .slice none 0 0, .slice none 0 0, .bool false]) := k0
  have Q_10 : Hid (Num w10 (.slice Ba Bc Bd) y) := k1
  have U__10 : Hid (Num w10 (.slice U_a U_c U_d) (U)) := k2
  have M_10 : Hid (Num w10 (.slice Ma Mc Md) (m)) := k3
  have L_10 : Hid (Num w10 (.slice (some ⟨w9.heap.size, 0, none⟩) 1 1) 1) := k4
  have G_10 : Hid (Below w.heap.size w w10) := hG
  clear C_9 Q_9 U__9 M_9 G_9 hG k0 k1 k2 k3 k4
  have kV : Hid (∀ v v' W, Num W v m → Num W v' 1 → Calls Tryd.prog 47 #[v, v'] W fun e w' => ∃ u, e = .returned u ∧ Num w' u V ∧ Below W.heap.size W w') := fun v v' W h1 h2 => by rw [← E_v.out]; exact addD_num m 1 v v' W h1 h2 (lt11 L_m.out) (by decide +kernel)
  refine (kV.out _ _ _ M_10.out L_10.out).mono ?_
  rintro e w11 ⟨v, rfl, hn, g⟩
  obtain ⟨V_a, V_c, V_d, rfl⟩ := hn.shape
  have V__11 : Hid (Num w11 (.slice V_a V_c V_d) (V)) := hn
  have C_11 := hold (C_10.out.below g)
  have Q_11 := hold (Q_10.out.below g)
  have U__11 := hold (U__10.out.below g)
  have G_11 := hold (G_10.out.trans (g.mono G_10.out.size))
  clear C_10 Q_10 U__10 M_10 L_10 G_10 hn g
  have kR := ratioD_num U V _ _ w11 U__11.out V__11.out L_u.out L_v.out
  rw [hok] at kR
  go_wp2_with fail
  refine kR.mono ?_
  clear kR
  rintro e w12 ⟨v, rfl, hn, g⟩
  have len0 := num_len0 hn
  obtain ⟨Xa, Xc, Xd, rfl⟩ := hn.shape
  have len1 := len0 _ _ _ rfl
  clear len0
  have X_12 : Hid (Num w12 (.slice Xa Xc Xd) (ratN U V)) := hn
  have C_12 := hold (C_11.out.below g)
  have Q_12 := hold (Q_11.out.below g)
  have G_12 := hold (G_11.out.trans (g.mono G_11.out.size))
  clear C_11 Q_11 G_11 hn g U__11 V__11
  clear len1
  have gl : Below w12.heap.size w12 (w12.alloc (.cells #[.int .i64 1] 3)) := (Below.refl _ _).alloc (Nat.le_refl _) _
  have C_13 := hold (C_12.out.below gl)
  have X_13 := hold (X_12.out.below gl)
  have Q_13 := hold (Q_12.out.below gl)
  have G_13 := hold (G_12.out.trans (gl.mono G_12.out.size))
  have O_13 : Hid (Num (w12.alloc (.cells #[.int .i64 1] 3)) (.slice (some ⟨w12.heap.size, 0, none⟩) 1 1) 1) := num_lit w12 1 (by omega) (by omega)
  clear gl
  have r0 := C_13.out.cell 0
  have r1 := C_13.out.cell 1
  have r2 := C_13.out.cell 2
  have r3 := C_13.out.cell 3
  simp only [List.getElem?_cons_zero, List.getElem?_cons_succ] at r0 r1 r2 r3
  have s0 := C_13.out.free 0
  have s1 := C_13.out.free 1
  have s2 := C_13.out.free 2
  have s3 := C_13.out.free 3
  go_wp2_with fail
  clear r0 r1 r2 r3 s0 s1 s2 s3
  obtain ⟨wZ, hwZ⟩ : ∃ V, Hid ((w12.alloc (.cells #[.int .i64 1] 3)) = V) := ⟨_, rfl⟩
  rw [hwZ.out] at C_13 X_13 Q_13 G_13 O_13 ⊢
  have o1 : Off w.heap.size (.slice Xa Xc Xd) := off_none C_13.out (no_ints _ _ _ _ _ _ _ _ _ _) X_13.out
  have o2 : Off w.heap.size (.slice Ba Bc Bd) := off_none C_13.out (no_ints _ _ _ _ _ _ _ _ _ _) Q_13.out
  have o3 : Off w.heap.size (.slice (some ⟨w12.heap.size, 0, none⟩) 1 1) := off_none C_13.out (no_ints _ _ _ _ _ _ _ _ _ _) O_13.out
  have hF := ((((Oth.refl w.heap.size wZ).set 0 (.slice Xa Xc Xd)).set 1 (.slice Ba Bc Bd)).set 2 (.slice (some ⟨w12.heap.size, 0, none⟩) 1 1)).set 3 (.bool true)
  refine body_cut' (fun F => At 35 F w.heap.size [.slice Xa Xc Xd, .slice Ba Bc Bd, .slice (some ⟨w12.heap.size, 0, none⟩) 1 1, .bool true] ∧ Num F (.slice Xa Xc Xd) (ratN U V) ∧ Num F (.slice Ba Bc Bd) y ∧ Num F (.slice (some ⟨w12.heap.size, 0, none⟩) 1 1) 1 ∧ Below w.heap.size w F)
    ⟨(((C_13.out.set 0 _).set 1 _).set 2 _).set 3 _, X_13.out.oth10 hF o1, Q_13.out.oth10 hF o2, O_13.out.oth10 hF o3, Oth.bel G_13.out hF (Nat.le_refl _)⟩ ?_
  rintro F ⟨hC, h1, h2, h3, hB⟩
  exact bodyPost_ret (v := .agg #[.slice Xa Xc Xd, .slice Ba Bc Bd, .slice (some ⟨w12.heap.size, 0, none⟩) 1 1, .bool true]) (results_mid (Tryd.results9) _ F w.heap.size 0 [.slice Xa Xc Xd, .slice Ba Bc Bd, .slice (some ⟨w12.heap.size, 0, none⟩) 1 1, .bool true] _ rfl hC.range Tryd.underlying35 rfl (by kernel_rfl)) rfl ⟨_, _, _, rfl, h1, h2, h3, hB⟩

end Go.Proofs.YtkbiiolkekpkiaaDoor.Ed

/-
  The document's Of of layer 10 at the level of points: the bytes of a point are that point, and any other bytes are none. Conditions: as each theorem says.
-/
namespace Go.Proofs.YtkbiiolkekpkiaaDoor.Ed
open Go.RowKit
set_option linter.unusedVariables false
set_option linter.unusedSimpArgs false

/-- A point's bytes are the point. -/
theorem of_pt (P : Pt) (v : Value) (w : World) (hs : SK .u8 w v (bytesOf P)) :
    Calls Tryd.prog 9 #[v] w fun e w' => ∃ u, e = .returned u ∧ Pm w' u P ∧ Below w.heap.size w w' := by
  have hy := val_lt P.y
  have ht := P25_top
  have hpt := of_point P _ _ _ _ rfl rfl rfl rfl
  obtain ⟨U, hU⟩ : ∃ U, (P.y.val * P.y.val % P25 + P25 - 1) % P25 = U := ⟨_, rfl⟩
  obtain ⟨V, hV⟩ : ∃ V, (D25 * (P.y.val * P.y.val % P25) % P25 + 1) % P25 = V := ⟨_, rfl⟩
  rw [hU, hV] at hpt
  obtain ⟨o1, o2, o3⟩ := hpt
  obtain ⟨s0, s1⟩ := of_sign (ratN U V) P.x.val (val_lt _) o2 o3
  by_cases hx : P.x.val % 2 = 1
  · have hN : hvN (turn (bytesOf P)) 32 = P.y.val + 2 ^ 255 := by
      unfold bytesOf
      rw [if_pos hx]
      exact hv_le _ (by omega)
    refine (of_yes_neg (bytesOf P) (bytes_bb P) (bytes_length P) (P.y.val + 2 ^ 255) P.y.val _ _ U V hN (by omega) ⟨by omega, by omega⟩ (by omega) hy rfl hU rfl hV o1 (s1 hx).1 v w hs).mono fun e w' h => ?_
    obtain ⟨v1, v2, v3, he, n1, n2, n3, hb⟩ := h
    refine ⟨_, he, ⟨v1, v2, v3, _, _, _, rfl, n1, n2, n3, rp_one _ _ P ?_ rfl⟩, hb⟩
    have := val_lt P.x
    rw [show 0 + P25 - ratN U V = P.x.val by rw [Nat.zero_add]; exact (s1 hx).2, Nat.mod_eq_of_lt this]
  · have hN : hvN (turn (bytesOf P)) 32 = P.y.val := by
      unfold bytesOf
      rw [if_neg hx, Nat.add_zero]
      exact hv_le _ (by omega)
    refine (of_yes (bytesOf P) (bytes_bb P) (bytes_length P) P.y.val P.y.val _ _ U V hN (by omega) (by omega) rfl hy rfl hU rfl hV o1 v w hs).mono fun e w' h => ?_
    obtain ⟨v1, v2, v3, he, n1, n2, n3, hb⟩ := h
    exact ⟨_, he, ⟨v1, v2, v3, _, _, _, rfl, n1, n2, n3, rp_one _ _ P (s0 (by omega)) rfl⟩, hb⟩
/-- Bytes that are no point's are none. -/
theorem of_other (l : List Nat) (hb : Bb l) (hno : ∀ P, ¬ bytesOf P = l) (v : Value) (w : World) (hs : SK .u8 w v l) :
    Calls Tryd.prog 9 #[v] w fun e w' => e = .returned (.agg #[.slice none 0 0, .slice none 0 0, .slice none 0 0, .bool false]) ∧ Below w.heap.size w w' := by
  have ht := P25_top
  by_cases hlen : l.length = 32
  · have hl := le_hv l hb hlen
    have hN2 : hvN (turn l) 32 < 2 ^ 256 := by
      have := hvN_lt (turn l) (bb_turn l hb) 32
      rwa [show (256 : Nat) ^ 32 = 2 ^ 256 by decide +kernel] at this
    obtain ⟨N, hN⟩ : ∃ N, hvN (turn l) 32 = N := ⟨_, rfl⟩
    rw [hN] at hl hN2
    by_cases hsg : N / 2 ^ 255 % 2 = 0
    · have hlo : N < 2 ^ 255 := by omega
      by_cases hyP : P25 ≤ N
      · exact of_big l hb hlen N N hN hN2 hsg rfl hyP v w hs
      · obtain ⟨U, hU⟩ : ∃ U, (N * N % P25 + P25 - 1) % P25 = U := ⟨_, rfl⟩
        obtain ⟨V, hV⟩ : ∃ V, (D25 * (N * N % P25) % P25 + 1) % P25 = V := ⟨_, rfl⟩
        by_cases hok : ratOk U V = true
        · exfalso
          have hon := of_on N _ _ U V rfl hU rfl hV hok
          obtain ⟨a1, a2, a3, a4, a5⟩ := uv_k N _ _ U V rfl hU rfl hV
          have hr := (rat_spec U V a3 a4 hok).2
          refine hno ⟨k (ratN U V), k N, hon.1⟩ ?_
          unfold bytesOf
          dsimp only
          rw [k_small _ (rat_lt U V), k_small _ (by omega), if_neg (by omega), Nat.add_zero]
          exact hl
        · exact of_notok l hb hlen N N _ _ U V hN hN2 hsg rfl (by omega) rfl hU rfl hV (by simpa using hok) v w hs
    · have hhi : 2 ^ 255 ≤ N := by omega
      have hsg2 : 2 ^ 255 ≤ N ∧ N / 2 ^ 255 % 2 = 1 := ⟨hhi, by omega⟩
      obtain ⟨y, hy⟩ : ∃ y, y = N - 2 ^ 255 := ⟨_, rfl⟩
      by_cases hyP : P25 ≤ y
      · exact of_big_neg l hb hlen N y hN hN2 hsg2 hy hyP v w hs
      · obtain ⟨U, hU⟩ : ∃ U, (y * y % P25 + P25 - 1) % P25 = U := ⟨_, rfl⟩
        obtain ⟨V, hV⟩ : ∃ V, (D25 * (y * y % P25) % P25 + 1) % P25 = V := ⟨_, rfl⟩
        by_cases hok : ratOk U V = true
        · by_cases hz : ratN U V = 0
          · exact of_zero_neg l hb hlen N y _ _ U V hN hN2 hsg2 hy (by omega) rfl hU rfl hV hok hz v w hs
          · exfalso
            have hon := of_on y _ _ U V rfl hU rfl hV hok
            obtain ⟨a1, a2, a3, a4, a5⟩ := uv_k y _ _ U V rfl hU rfl hV
            have hr := (rat_spec U V a3 a4 hok).2
            have hlt := rat_lt U V
            have hodd := P25_odd
            have e1 : k (P25 - ratN U V) = -k (ratN U V) := by
              have := k_sub 0 (ratN U V) (by omega)
              rw [Nat.zero_add, k_mod, k_zero, from_zero] at this
              exact this
            refine hno ⟨k (P25 - ratN U V), k y, by rw [e1]; exact hon.2⟩ ?_
            unfold bytesOf
            dsimp only
            rw [k_small _ (by omega), k_small _ (by omega), if_pos (by omega), show y + 2 ^ 255 = N by omega]
            exact hl
        · exact of_notok_neg l hb hlen N y _ _ U V hN hN2 hsg2 hy (by omega) rfl hU rfl hV (by simpa using hok) v w hs
  · exact of_short l hb hlen v w hs
end Go.Proofs.YtkbiiolkekpkiaaDoor.Ed

/-
  The document's own base of layer 10 is a point of the curve, with the numbers that are known. Conditions: as each theorem says.
-/
namespace Go.Proofs.YtkbiiolkekpkiaaDoor.Ed
open Go.RowKit
set_option linter.unusedVariables false
set_option linter.unusedSimpArgs false

set_option maxRecDepth 100000 in
set_option maxHeartbeats 2000000 in
theorem base_pt (w : World) :
    Calls Tryd.prog 32 #[] w fun e w' => ∃ u, e = .returned u ∧ Pm w' u baseP ∧ Below w.heap.size w w' := by
  obtain ⟨q, hq⟩ : ∃ q : Nat, Hid (q = 5) := ⟨5, rfl⟩
  have K3 : Hid (∀ v W, Num W v q → Calls Tryd.prog 50 #[v] W fun e w' => ∃ v, e = .returned v ∧ Num w' v (q ^ (P25 - 2) % P25) ∧ Below W.heap.size W w') := fun v W h => invD_num4 q v W h (by rw [hq.out]; decide +kernel)
  have M3 : Hid (q ^ (P25 - 2) % P25 < 16777216 ^ 11) := mod_lt11 _
  have E : Hid (4 * (q ^ (P25 - 2) % P25) % P25 = bY) := bY_val q hq.out
  have Q : Hid (∀ v W, Num W v 5 → Num W v q) := fun v W h => by rw [hq.out]; exact h
  clear hq
  generalize q ^ (P25 - 2) % P25 = r at *
  have T : Hid (∀ v W, Num W v (4 * r % P25) → Calls Tryd.prog 64 #[v, .int .i64 32] W fun e w' => ∃ v, e = .returned v ∧ SK .u8 w' v (bytesOf baseP) ∧ Below W.heap.size W w') := fun v W h => by
    rw [E.out] at h
    rw [base_bytes]
    exact little32 bY v W h 11 (lt11 bY_lt) (by omega)
  have O : Hid (∀ v W, SK .u8 W v (bytesOf baseP) → Calls Tryd.prog 9 #[v] W fun e w' => ∃ u, e = .returned u ∧ Pm w' u baseP ∧ Below W.heap.size W w') := fun v W h => of_pt baseP v W h
  generalize bytesOf baseP = l at *
  clear E
  obtain ⟨w0, hw0⟩ : ∃ V, Hid ((w.alloc (.cells #[.slice none 0 0, .slice none 0 0, .slice none 0 0, .bool false] 35)) = V) := ⟨_, rfl⟩
  have g0 : Hid (Below w.heap.size w w0) := by unfold Hid; rw [← hw0.out]; exact (Below.refl _ _).alloc (Nat.le_refl _) _
  have c0 : Hid (At 35 w0 w.heap.size [.slice none 0 0, .slice none 0 0, .slice none 0 0, .bool false]) := by unfold Hid; rw [← hw0.out]; exact at_new 35 w [.slice none 0 0, .slice none 0 0, .slice none 0 0, .bool false]
  have gl : ∀ (W : World) (c : Int), Below W.heap.size W (W.alloc (.cells #[.int .i64 c] 3)) := fun W c => (Below.refl _ _).alloc (Nat.le_refl _) _
  have A1 : Hid (Num ((w0.alloc (.cells #[.int .i64 4] 3)).alloc (.cells #[.int .i64 5] 3)) (.slice (some ⟨w0.heap.size, 0, none⟩) 1 1) 4) := (num_lit w0 4 (by omega) (by omega)).below (gl _ _)
  have B1 : Hid (Num ((w0.alloc (.cells #[.int .i64 4] 3)).alloc (.cells #[.int .i64 5] 3)) (.slice (some ⟨w0.heap.size + 1, 0, none⟩) 1 1) 5) := by
    have h := num_lit (w0.alloc (.cells #[.int .i64 4] 3)) 5 (by omega) (by omega)
    rwa [World.size_alloc] at h
  have C1 : Hid (At 35 ((w0.alloc (.cells #[.int .i64 4] 3)).alloc (.cells #[.int .i64 5] 3)) w.heap.size [.slice none 0 0, .slice none 0 0, .slice none 0 0, .bool false]) := (c0.out.below (gl _ _)).below (gl _ _)
  have G1 : Hid (Below w.heap.size w ((w0.alloc (.cells #[.int .i64 4] 3)).alloc (.cells #[.int .i64 5] 3))) := (g0.out.trans ((gl _ _).mono g0.out.size)).trans ((gl _ _).mono (by have := g0.out.size; simp; omega))
  go_enter Tryd.func32, Tryd.ntmps32
  go_upto_region 1 with fail
  rw [hw0.out]
  go_wp2_with fail
  obtain ⟨w1, hw1⟩ : ∃ V, Hid (((w0.alloc (.cells #[.int .i64 4] 3)).alloc (.cells #[.int .i64 5] 3)) = V) := ⟨_, rfl⟩
  rw [hw1.out] at A1 B1 C1 G1 ⊢
  have A_1 : Hid (Num w1 (.slice (some ⟨w0.heap.size, 0, none⟩) 1 1) 4) := A1
  have B_1 : Hid (Num w1 (.slice (some ⟨w0.heap.size + 1, 0, none⟩) 1 1) 5) := B1
  have P_1 : Hid (At 35 w1 w.heap.size [.slice none 0 0, .slice none 0 0, .slice none 0 0, .bool false]) := C1
  have G_1 : Hid (Below w.heap.size w w1) := G1
  clear A1 B1 C1 G1 hw1 hw0 gl
  refine (K3.out _ _ (Q.out _ _ B_1.out)).mono ?_
  rintro e w2 ⟨v, rfl, hn, g⟩
  obtain ⟨Ca, Cc, Cd, rfl⟩ := hn.shape
  have C_2 : Hid (Num w2 (.slice Ca Cc Cd) (r)) := hn
  have A_2 := hold (A_1.out.below g)
  have P_2 := hold (P_1.out.below g)
  have G_2 := hold (G_1.out.trans (g.mono G_1.out.size))
  clear A_1 B_1 P_1 G_1 hn g
  go_wp2_with fail
  refine (mulD_num 4 r _ _ _ A_2.out C_2.out (by decide +kernel) M3.out).mono ?_
  rintro e w3 ⟨v, rfl, hn, g⟩
  obtain ⟨Fa, Fc, Fd, rfl⟩ := hn.shape
  have F_3 : Hid (Num w3 (.slice Fa Fc Fd) (4 * r % P25)) := hn
  have P_3 := hold (P_2.out.below g)
  have G_3 := hold (G_2.out.trans (g.mono G_2.out.size))
  clear A_2 P_2 C_2 G_2 hn g
  go_wp2_with fail
  refine (T.out _ _ F_3.out).mono ?_
  rintro e wt ⟨vt, rfl, ht, gt⟩
  have Gt := hold (G_3.out.trans (gt.mono G_3.out.size))
  obtain ⟨ta, tc, rfl⟩ := ht.shape
  have Pt := hold (P_3.out.below gt)
  go_wp2_with fail
  refine (O.out _ _ ht).mono ?_
  rintro e wu ⟨u, rfl, hu, gu⟩
  have Gu := hold (Gt.out.trans (gu.mono Gt.out.size))
  have Pu := hold (Pt.out.below gu)
  obtain ⟨vx, vy, vz, X, Y, Z, rfl, hx, hy, hz, hr⟩ := hu
  obtain ⟨xa, xn, xc, rfl⟩ := hx.shape
  obtain ⟨ya, yn, yc, rfl⟩ := hy.shape
  obtain ⟨za, zn, zc, rfl⟩ := hz.shape
  have r0 := Pu.out.cell 0
  have r1 := Pu.out.cell 1
  have r2 := Pu.out.cell 2
  have r3 := Pu.out.cell 3
  simp only [List.getElem?_cons_zero, List.getElem?_cons_succ] at r0 r1 r2 r3
  have s0 := Pu.out.free 0
  have s1 := Pu.out.free 1
  have s2 := Pu.out.free 2
  have s3 := Pu.out.free 3
  go_wp2_with fail
  clear r0 r1 r2 r3 s0 s1 s2 s3
  have o1 : Off w.heap.size (.slice xa xn xc) := off_none Pu.out (no_ints _ _ _ _ _ _ _ _ _ _) hx
  have o2 : Off w.heap.size (.slice ya yn yc) := off_none Pu.out (no_ints _ _ _ _ _ _ _ _ _ _) hy
  have o3 : Off w.heap.size (.slice za zn zc) := off_none Pu.out (no_ints _ _ _ _ _ _ _ _ _ _) hz
  have hF := ((((Oth.refl w.heap.size wu).set 0 (.slice xa xn xc)).set 1 (.slice ya yn yc)).set 2 (.slice za zn zc)).set 3 (.bool true)
  refine body_cut' (fun F => At 35 F w.heap.size [.slice xa xn xc, .slice ya yn yc, .slice za zn zc, .bool true] ∧ Num F (.slice xa xn xc) X ∧ Num F (.slice ya yn yc) Y ∧ Num F (.slice za zn zc) Z ∧ Below w.heap.size w F)
    ⟨(((Pu.out.set 0 _).set 1 _).set 2 _).set 3 _, hx.oth10 hF o1, hy.oth10 hF o2, hz.oth10 hF o3, Oth.bel Gu.out hF (Nat.le_refl _)⟩ ?_
  rintro F ⟨hC, h1, h2, h3, hB⟩
  exact bodyPost_ret (v := .agg #[.slice xa xn xc, .slice ya yn yc, .slice za zn zc, .bool true]) (results_mid (Tryd.results32) _ F w.heap.size 0 [.slice xa xn xc, .slice ya yn yc, .slice za zn zc, .bool true] _ rfl hC.range Tryd.underlying35 rfl (by kernel_rfl)) rfl ⟨_, rfl, ⟨_, _, _, _, _, _, rfl, h1, h2, h3, hr⟩, hB⟩
end Go.Proofs.YtkbiiolkekpkiaaDoor.Ed
