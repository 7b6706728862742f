/-
  The walk of the law FieldPowers: for any element and any number of squares it returns true and changes no memory that was there, where the package's variables are as the program lays them. Conditions: as each theorem says.
-/
import Derived.Test.YtnebpleplogfeaaDoorFO
namespace Go.Proofs.YtnebpleplogfeaaDoor
open Go.RowKit
set_option linter.unusedVariables false
set_option linter.unusedSimpArgs false

theorem nn_pow (x z : L5) (k : Nat) (h : z.num % (P25 : Int) = x.num ^ k % (P25 : Int)) : z.nn = x.nn ^ k % P25 := by
  refine L5.nn_of ?_
  rw [h, Int.natCast_pow]
  exact pow_congZ x.nn_mod k
theorem sq_next (X i : Nat) : (X ^ 2 ^ i % P25) * (X ^ 2 ^ i % P25) % P25 = X ^ 2 ^ (i + 1) % P25 := by
  rw [← Nat.mul_mod, ← Nat.pow_add, Nat.pow_succ, Nat.mul_two]
theorem sq_first (X : Nat) (h : X < P25) : X = X ^ 2 ^ 0 % P25 := by rw [Nat.pow_zero, Nat.pow_one, Nat.mod_eq_of_lt h]
set_option maxRecDepth 100000 in
set_option maxHeartbeats 16000000 in
theorem fpow_any (x : L5) (hx : x.Wds) (n : Int) (hn : -9223372036854775808 ≤ n ∧ n ≤ 9223372036854775807) (w : World) (hg : Gl w) : Calls Tryd.prog 4 #[.agg #[.int .u64 x.l0, .int .u64 x.l1, .int .u64 x.l2, .int .u64 x.l3, .int .u64 x.l4], .int .i64 n] w fun e w' => e = .returned (.bool true) ∧ Below w.heap.size w w' := by
  have HG : Hid (Gl w) := hg
  have kw : Hid (∀ W, Gl W → Calls Tryd.prog 8 #[] W fun e w' => e = .returned (.bool true) ∧ Below W.heap.size W w') := fun W h => awake4_any W h
  have kt : Hid (∀ b, (b = true ↔ x.Tm) → ∀ W g, Els W g 1 (fun _ => x) → Calls Tryd.prog 9 #[.slice (some ⟨g, 0, none⟩) 1 1] W fun e w' => e = .returned (.bool b) ∧ Below W.heap.size W w') := by
    intro b hb W g h
    exact tame_any (fun _ => x) 1 g (by omega) (fun i hi => hx) W h b ⟨fun h i hi => hb.1 h, fun h => hb.2 (h 0 (by omega))⟩
  have HE : Hid (∀ W : World, Els (W.alloc (.cells #[.int .u64 x.l0, .int .u64 x.l1, .int .u64 x.l2, .int .u64 x.l3, .int .u64 x.l4] 24)) W.heap.size 1 (fun _ => x)) := fun W => els_one W x
  have gl := hg.lt
  clear hg
  by_cases ht : x.Tm
  · have kt' := kt.out true ⟨fun _ => ht, fun _ => rfl⟩
    by_cases hbig : n ≤ 1000
    · obtain ⟨m, hm⟩ : ∃ m : Nat, (n ≤ 0 ∧ m = 0) ∨ (0 ≤ n ∧ n ≤ 1000 ∧ n = (m : Int)) := ⟨n.toNat, by omega⟩
      obtain ⟨p, hp, ep, kp⟩ := square_fe x n ht hn m (by omega)
      obtain ⟨q, hq, eq, kq⟩ := inv_fe x ht
      have vp := nn_pow x p _ ep.out
      have vq := nn_pow x q _ eq.out
      have ip := fun v w h => is_yes p hp _ vp v w h
      have iq := fun v w h => is_yes q hq _ vq v w h
      have ox := of_nn x ht
      have bx := nn_lt11 x
      have lx := x.nn_lt
      generalize x.nn = X at *
      have dm : Hid (∀ i v w, Num w v (X ^ 2 ^ i % P25) → Calls Tryd.prog 18 #[v, v] w fun e w' => ∃ r, e = .returned r ∧ Num w' r (X ^ 2 ^ (i + 1) % P25) ∧ Below w.heap.size w w') := by
        intro i v w h
        have := mulD_num _ _ v v w h h (lt11_of_mod _) (lt11_of_mod _)
        rwa [sq_next] at this
      have di : Hid (∀ v w, Num w v X → Calls Tryd.prog 23 #[v] w fun e w' => ∃ r, e = .returned r ∧ Num w' r (X ^ (P25 - 2) % P25) ∧ Below w.heap.size w w') := fun v w h => invD_num4 X v w h bx
      have d0 : Hid (∀ w v, Num w v X → Num w v (X ^ 2 ^ 0 % P25)) := by
        intro w v h; rwa [← sq_first X lx]
      generalize hQ : X ^ (P25 - 2) % P25 = Q at *
      obtain ⟨S, hS⟩ : ∃ S : Nat → Nat, (fun i => X ^ 2 ^ i % P25) = S := ⟨_, rfl⟩
      have hS' : ∀ i, X ^ 2 ^ i % P25 = S i := fun i => congrFun hS i
      simp only [hS'] at dm d0 ip
      clear hQ hS hS' vp vq ep eq hp hq bx lx kt hx ht
      obtain ⟨x0, x1, x2, x3, x4⟩ := x
      obtain ⟨p0, p1, p2, p3, p4⟩ := p
      obtain ⟨q0, q1, q2, q3, q4⟩ := q
      dsimp only at kt' kp kq ip iq ox HE ⊢
      have Kp : Hid (∀ w : World, Calls Tryd.prog 21 #[.agg #[.int .u64 x0, .int .u64 x1, .int .u64 x2, .int .u64 x3, .int .u64 x4], .int .i64 n] w fun e w' => e = .returned (.agg #[.int .u64 p0, .int .u64 p1, .int .u64 p2, .int .u64 p3, .int .u64 p4]) ∧ Below w.heap.size w w') := kp
      have Kq : Hid (∀ w : World, Calls Tryd.prog 22 #[.agg #[.int .u64 x0, .int .u64 x1, .int .u64 x2, .int .u64 x3, .int .u64 x4]] w fun e w' => e = .returned (.agg #[.int .u64 q0, .int .u64 q1, .int .u64 q2, .int .u64 q3, .int .u64 q4]) ∧ Below w.heap.size w w') := kq
      have Ip : Hid (∀ v w, Num w v (S m) → Calls Tryd.prog 11 #[.agg #[.int .u64 p0, .int .u64 p1, .int .u64 p2, .int .u64 p3, .int .u64 p4], v] w fun e w' => e = .returned (.bool true) ∧ Below w.heap.size w w') := ip
      have Iq : Hid (∀ v w, Num w v Q → Calls Tryd.prog 11 #[.agg #[.int .u64 q0, .int .u64 q1, .int .u64 q2, .int .u64 q3, .int .u64 q4], v] w fun e w' => e = .returned (.bool true) ∧ Below w.heap.size w w') := iq
      have Ox : Hid (∀ w, Calls Tryd.prog 10 #[.agg #[.int .u64 x0, .int .u64 x1, .int .u64 x2, .int .u64 x3, .int .u64 x4]] w fun e w' => ∃ v, e = .returned v ∧ Num w' v X ∧ Below w.heap.size w w') := ox
      have Kt : Hid (∀ W g, Els W g 1 (fun _ => ⟨x0, x1, x2, x3, x4⟩) → Calls Tryd.prog 9 #[.slice (some ⟨g, 0, none⟩) 1 1] W fun e w' => e = .returned (.bool true) ∧ Below W.heap.size W w') := kt'
      clear kp kq ip iq ox kt'
      have hb1 : ¬ 1000 < n := by omega
      go_enter Tryd.func4, Tryd.ntmps4
      go_wp2_with fail
      refine calls_at (fun V => Bl5 V w.heap.size x0 x1 x2 x3 x4 ∧ Gl V ∧ Below w.heap.size w V) ⟨?_, ?_, ?_⟩ ?_
      · (repeat (first | refine Bl5.drew ?_ | refine Bl5.drewN ?_ _ | (refine Bl5.new _ _ _ _ _ _ _ _ ?_; simp; done) | refine Bl5.alloc ?_ _))
      · refine Gl.grown HG.out ?_
        (repeat (first | exact Below.refl _ _ | refine Below.drew ?_ | refine below_drewN ?_ _ | refine Below.alloc ?_ (by simp <;> omega) _))
      · (repeat (first | exact Below.refl _ _ | refine Below.drew ?_ | refine below_drewN ?_ _ | refine Below.alloc ?_ (by simp <;> omega) _ | refine Below.setCell ?_ (by simp <;> omega) _))
      rintro v1 ⟨k0, k1, k2⟩
      have A_1 : Hid (Bl5 v1 w.heap.size x0 x1 x2 x3 x4) := k0
      have Z_1 : Hid (Gl v1) := k1
      have G_1 : Hid (Below w.heap.size w v1) := k2
      clear k0 k1 k2
      refine (kw.out _ Z_1.out).mono ?_
      rintro e v2 ⟨rfl, g⟩
      have A_2 : Hid (Bl5 v2 w.heap.size x0 x1 x2 x3 x4) := A_1.out.below g
      have Z_2 : Hid (Gl v2) := Z_1.out.grown g
      have G_2 : Hid (Below w.heap.size w v2) := G_1.out.trans (g.mono G_1.out.size)
      clear A_1 Z_1 G_1 g
      obtain ⟨cal, ca0, ca1, ca2, ca3, ca4, caf⟩ := A_2.out
      go_wp2_with fail
      clear cal ca0 ca1 ca2 ca3 ca4 caf
      refine calls_at (fun V => Els V v2.heap.size 1 (fun _ => ⟨x0, x1, x2, x3, x4⟩) ∧ Bl5 V w.heap.size x0 x1 x2 x3 x4 ∧ Gl V ∧ Below w.heap.size w V) ⟨HE.out v2, A_2.out.alloc _, Z_2.out.grown ((Below.refl _ _).alloc (Nat.le_refl _) _), G_2.out.alloc G_2.out.size _⟩ ?_
      rintro v3 ⟨hE, hA, hZ, hG⟩
      have A_3 : Hid (Bl5 v3 w.heap.size x0 x1 x2 x3 x4) := hA
      have Z_3 : Hid (Gl v3) := hZ
      have G_3 : Hid (Below w.heap.size w v3) := hG
      have hE' : Hid (Els v3 v2.heap.size 1 (fun _ => ⟨x0, x1, x2, x3, x4⟩)) := hE
      clear hE hA hZ hG A_2 Z_2 G_2
      refine (Kt.out _ _ hE'.out).mono ?_
      rintro e v4 ⟨rfl, g⟩
      have A_4 : Hid (Bl5 v4 w.heap.size x0 x1 x2 x3 x4) := A_3.out.below g
      have Z_4 : Hid (Gl v4) := Z_3.out.grown g
      have G_4 : Hid (Below w.heap.size w v4) := G_3.out.trans (g.mono G_3.out.size)
      clear A_3 Z_3 G_3 g
      clear hE'
      obtain ⟨cal, ca0, ca1, ca2, ca3, ca4, caf⟩ := A_4.out
      go_wp2_with fail
      refine (Ox.out _).mono ?_
      rintro e v5 ⟨v, rfl, hn, g⟩
      clear cal ca0 ca1 ca2 ca3 ca4 caf
      obtain ⟨Ua, Uc, Ud, rfl⟩ := hn.shape
      have U_5 : Hid (Num v5 (.slice Ua Uc Ud) (X)) := hn
      have A_5 : Hid (Bl5 v5 w.heap.size x0 x1 x2 x3 x4) := A_4.out.below g
      have Z_5 : Hid (Gl v5) := Z_4.out.grown g
      have G_5 : Hid (Below w.heap.size w v5) := G_4.out.trans (g.mono G_4.out.size)
      clear A_4 Z_4 G_4 g hn
      have Y_5 : Hid (Num v5 (.slice Ua Uc Ud) (S 0)) := d0.out _ _ U_5.out
      go_wp2_with fail
      go_loopw [6, 7] (fun v y wr => ∃ k : Nat, k ≤ m ∧ y = .int .i64 (k : Int) ∧ Hid (Num wr v (S k)) ∧ Hid (Num wr (.slice Ua Uc Ud) X) ∧ Hid (Bl5 wr w.heap.size x0 x1 x2 x3 x4) ∧ Hid (Gl wr) ∧ Hid (Below w.heap.size w wr)) (fun _ y _ => m - (intOf y).toNat)
      case atStart => exact ⟨0, by omega, rfl, Y_5, U_5, A_5, Z_5, G_5⟩
      case round =>
        obtain ⟨k, hk, rfl, hY, hU, hA, hZ, hG⟩ := hrel
        obtain ⟨w0, hw0⟩ : ∃ w0, wr = w0 := ⟨_, rfl⟩
        subst hw0
        clear Y_5 U_5 A_5 Z_5 G_5
        obtain ⟨ya, yc, yd, rfl⟩ := hY.out.shape
        by_cases hlt : k < m
        · have hkn : (k : Int) < n := by omega
          have hk2 : (k : Int) < 1000 := by omega
          have I : Hid (k < m) := hlt
          clear hlt hm hk
          go_wp2_with fail
          refine (dm.out k _ _ hY.out).mono ?_
          rintro e u1 ⟨v, rfl, hn', g⟩
          have Y1 : Hid (Num u1 v (S (k + 1))) := hn'
          have U1 : Hid (Num u1 (.slice Ua Uc Ud) X) := hU.out.below g
          have A1 : Hid (Bl5 u1 w.heap.size x0 x1 x2 x3 x4) := hA.out.below g
          have Z1 : Hid (Gl u1) := hZ.out.grown g
          have G1 : Hid (Below w.heap.size w u1) := hG.out.trans (g.mono hG.out.size)
          clear hn' g hY hU hA hZ hG
          go_wp2_with fail
          go_roundw
          case rel => exact ⟨k + 1, by have := I.out; omega, by go_num, Y1, U1, A1, Z1, G1⟩
          case measure => have := I.out; simp [intOf]; omega
        · obtain rfl : k = m := by omega
          have hkn : ¬ (k : Int) < n := by omega
          have A_5 : Hid (Bl5 wr w.heap.size x0 x1 x2 x3 x4) := hA
          have Y_5 : Hid (Num wr (.slice ya yc yd) (S k)) := hY
          have U_5 : Hid (Num wr (.slice Ua Uc Ud) X) := hU
          have Z_5 : Hid (Gl wr) := hZ
          have G_5 : Hid (Below w.heap.size w wr) := hG
          clear hA hY hU hZ hG
          obtain ⟨cal, ca0, ca1, ca2, ca3, ca4, caf⟩ := A_5.out
          go_wp2_with fail
          refine (Kp.out _).mono ?_
          rintro e v6 ⟨rfl, g⟩
          clear cal ca0 ca1 ca2 ca3 ca4 caf
          have A_6 : Hid (Bl5 v6 w.heap.size x0 x1 x2 x3 x4) := A_5.out.below g
          have Y_6 : Hid (Num v6 (.slice ya yc yd) (S k)) := Y_5.out.below g
          have U_6 : Hid (Num v6 (.slice Ua Uc Ud) (X)) := U_5.out.below g
          have Z_6 : Hid (Gl v6) := Z_5.out.grown g
          have G_6 : Hid (Below w.heap.size w v6) := G_5.out.trans (g.mono G_5.out.size)
          clear A_5 Y_5 U_5 Z_5 G_5 g
          go_wp2_with fail
          refine (Ip.out _ _ Y_6.out).mono ?_
          rintro e v7 ⟨rfl, g⟩
          have A_7 : Hid (Bl5 v7 w.heap.size x0 x1 x2 x3 x4) := A_6.out.below g
          have Y_7 : Hid (Num v7 (.slice ya yc yd) (S k)) := Y_6.out.below g
          have U_7 : Hid (Num v7 (.slice Ua Uc Ud) (X)) := U_6.out.below g
          have Z_7 : Hid (Gl v7) := Z_6.out.grown g
          have G_7 : Hid (Below w.heap.size w v7) := G_6.out.trans (g.mono G_6.out.size)
          clear A_6 Y_6 U_6 Z_6 G_6 g
          obtain ⟨cal, ca0, ca1, ca2, ca3, ca4, caf⟩ := A_7.out
          go_wp2_with fail
          refine (Kq.out _).mono ?_
          rintro e v8 ⟨rfl, g⟩
          clear cal ca0 ca1 ca2 ca3 ca4 caf
          have A_8 : Hid (Bl5 v8 w.heap.size x0 x1 x2 x3 x4) := A_7.out.below g
          have Y_8 : Hid (Num v8 (.slice ya yc yd) (S k)) := Y_7.out.below g
          have U_8 : Hid (Num v8 (.slice Ua Uc Ud) (X)) := U_7.out.below g
          have Z_8 : Hid (Gl v8) := Z_7.out.grown g
          have G_8 : Hid (Below w.heap.size w v8) := G_7.out.trans (g.mono G_7.out.size)
          clear A_7 Y_7 U_7 Z_7 G_7 g
          go_wp2_with fail
          refine (di.out _ _ U_8.out).mono ?_
          rintro e v9 ⟨v, rfl, hn, g⟩
          obtain ⟨Ta, Tc, Td, rfl⟩ := hn.shape
          have T_9 : Hid (Num v9 (.slice Ta Tc Td) (Q)) := hn
          have A_9 : Hid (Bl5 v9 w.heap.size x0 x1 x2 x3 x4) := A_8.out.below g
          have Y_9 : Hid (Num v9 (.slice ya yc yd) (S k)) := Y_8.out.below g
          have U_9 : Hid (Num v9 (.slice Ua Uc Ud) (X)) := U_8.out.below g
          have Z_9 : Hid (Gl v9) := Z_8.out.grown g
          have G_9 : Hid (Below w.heap.size w v9) := G_8.out.trans (g.mono G_8.out.size)
          clear A_8 Y_8 U_8 Z_8 G_8 g hn
          go_wp2_with fail
          refine (Iq.out _ _ T_9.out).mono ?_
          rintro e v10 ⟨rfl, g⟩
          have A_10 : Hid (Bl5 v10 w.heap.size x0 x1 x2 x3 x4) := A_9.out.below g
          have Y_10 : Hid (Num v10 (.slice ya yc yd) (S k)) := Y_9.out.below g
          have U_10 : Hid (Num v10 (.slice Ua Uc Ud) (X)) := U_9.out.below g
          have T_10 : Hid (Num v10 (.slice Ta Tc Td) (Q)) := T_9.out.below g
          have Z_10 : Hid (Gl v10) := Z_9.out.grown g
          have G_10 : Hid (Below w.heap.size w v10) := G_9.out.trans (g.mono G_9.out.size)
          clear A_9 Y_9 U_9 T_9 Z_9 G_9 g
          go_wp2_with fail
          go_ret
          exact ⟨rfl, G_10.out⟩
    · clear kt hx ht
      obtain ⟨x0, x1, x2, x3, x4⟩ := x
      dsimp only at kt' HE ⊢
      have Kt : Hid (∀ W g, Els W g 1 (fun _ => ⟨x0, x1, x2, x3, x4⟩) → Calls Tryd.prog 9 #[.slice (some ⟨g, 0, none⟩) 1 1] W fun e w' => e = .returned (.bool true) ∧ Below W.heap.size W w') := kt'
      clear kt'
      have hb1 : 1000 < n := by omega
      go_enter Tryd.func4, Tryd.ntmps4
      go_wp2_with fail
      refine calls_at (fun V => Bl5 V w.heap.size x0 x1 x2 x3 x4 ∧ Gl V ∧ Below w.heap.size w V) ⟨?_, ?_, ?_⟩ ?_
      · (repeat (first | refine Bl5.drew ?_ | refine Bl5.drewN ?_ _ | (refine Bl5.new _ _ _ _ _ _ _ _ ?_; simp; done) | refine Bl5.alloc ?_ _))
      · refine Gl.grown HG.out ?_
        (repeat (first | exact Below.refl _ _ | refine Below.drew ?_ | refine below_drewN ?_ _ | refine Below.alloc ?_ (by simp <;> omega) _))
      · (repeat (first | exact Below.refl _ _ | refine Below.drew ?_ | refine below_drewN ?_ _ | refine Below.alloc ?_ (by simp <;> omega) _ | refine Below.setCell ?_ (by simp <;> omega) _))
      rintro v1 ⟨k0, k1, k2⟩
      have A_1 : Hid (Bl5 v1 w.heap.size x0 x1 x2 x3 x4) := k0
      have Z_1 : Hid (Gl v1) := k1
      have G_1 : Hid (Below w.heap.size w v1) := k2
      clear k0 k1 k2
      refine (kw.out _ Z_1.out).mono ?_
      rintro e v2 ⟨rfl, g⟩
      have A_2 : Hid (Bl5 v2 w.heap.size x0 x1 x2 x3 x4) := A_1.out.below g
      have Z_2 : Hid (Gl v2) := Z_1.out.grown g
      have G_2 : Hid (Below w.heap.size w v2) := G_1.out.trans (g.mono G_1.out.size)
      clear A_1 Z_1 G_1 g
      obtain ⟨cal, ca0, ca1, ca2, ca3, ca4, caf⟩ := A_2.out
      go_wp2_with fail
      clear cal ca0 ca1 ca2 ca3 ca4 caf
      refine calls_at (fun V => Els V v2.heap.size 1 (fun _ => ⟨x0, x1, x2, x3, x4⟩) ∧ Bl5 V w.heap.size x0 x1 x2 x3 x4 ∧ Gl V ∧ Below w.heap.size w V) ⟨HE.out v2, A_2.out.alloc _, Z_2.out.grown ((Below.refl _ _).alloc (Nat.le_refl _) _), G_2.out.alloc G_2.out.size _⟩ ?_
      rintro v3 ⟨hE, hA, hZ, hG⟩
      have A_3 : Hid (Bl5 v3 w.heap.size x0 x1 x2 x3 x4) := hA
      have Z_3 : Hid (Gl v3) := hZ
      have G_3 : Hid (Below w.heap.size w v3) := hG
      have hE' : Hid (Els v3 v2.heap.size 1 (fun _ => ⟨x0, x1, x2, x3, x4⟩)) := hE
      clear hE hA hZ hG A_2 Z_2 G_2
      refine (Kt.out _ _ hE'.out).mono ?_
      rintro e v4 ⟨rfl, g⟩
      have A_4 : Hid (Bl5 v4 w.heap.size x0 x1 x2 x3 x4) := A_3.out.below g
      have Z_4 : Hid (Gl v4) := Z_3.out.grown g
      have G_4 : Hid (Below w.heap.size w v4) := G_3.out.trans (g.mono G_3.out.size)
      clear A_3 Z_3 G_3 g
      clear hE'
      go_wp2_with fail
      go_ret
      exact ⟨rfl, G_4.out⟩
  · have kt' := kt.out false ⟨fun h => by simp at h, fun h => absurd h ht⟩
    clear kt ht hx
    obtain ⟨x0, x1, x2, x3, x4⟩ := x
    dsimp only at kt' HE ⊢
    have Kt : Hid (∀ W g, Els W g 1 (fun _ => ⟨x0, x1, x2, x3, x4⟩) → Calls Tryd.prog 9 #[.slice (some ⟨g, 0, none⟩) 1 1] W fun e w' => e = .returned (.bool false) ∧ Below W.heap.size W w') := kt'
    clear kt'
    go_enter Tryd.func4, Tryd.ntmps4
    go_wp2_with fail
    refine calls_at (fun V => Bl5 V w.heap.size x0 x1 x2 x3 x4 ∧ Gl V ∧ Below w.heap.size w V) ⟨?_, ?_, ?_⟩ ?_
    · (repeat (first | refine Bl5.drew ?_ | refine Bl5.drewN ?_ _ | (refine Bl5.new _ _ _ _ _ _ _ _ ?_; simp; done) | refine Bl5.alloc ?_ _))
    · refine Gl.grown HG.out ?_
      (repeat (first | exact Below.refl _ _ | refine Below.drew ?_ | refine below_drewN ?_ _ | refine Below.alloc ?_ (by simp <;> omega) _))
    · (repeat (first | exact Below.refl _ _ | refine Below.drew ?_ | refine below_drewN ?_ _ | refine Below.alloc ?_ (by simp <;> omega) _ | refine Below.setCell ?_ (by simp <;> omega) _))
    rintro v1 ⟨k0, k1, k2⟩
    have A_1 : Hid (Bl5 v1 w.heap.size x0 x1 x2 x3 x4) := k0
    have Z_1 : Hid (Gl v1) := k1
    have G_1 : Hid (Below w.heap.size w v1) := k2
    clear k0 k1 k2
    refine (kw.out _ Z_1.out).mono ?_
    rintro e v2 ⟨rfl, g⟩
    have A_2 : Hid (Bl5 v2 w.heap.size x0 x1 x2 x3 x4) := A_1.out.below g
    have Z_2 : Hid (Gl v2) := Z_1.out.grown g
    have G_2 : Hid (Below w.heap.size w v2) := G_1.out.trans (g.mono G_1.out.size)
    clear A_1 Z_1 G_1 g
    obtain ⟨cal, ca0, ca1, ca2, ca3, ca4, caf⟩ := A_2.out
    go_wp2_with fail
    clear cal ca0 ca1 ca2 ca3 ca4 caf
    refine calls_at (fun V => Els V v2.heap.size 1 (fun _ => ⟨x0, x1, x2, x3, x4⟩) ∧ Bl5 V w.heap.size x0 x1 x2 x3 x4 ∧ Gl V ∧ Below w.heap.size w V) ⟨HE.out v2, A_2.out.alloc _, Z_2.out.grown ((Below.refl _ _).alloc (Nat.le_refl _) _), G_2.out.alloc G_2.out.size _⟩ ?_
    rintro v3 ⟨hE, hA, hZ, hG⟩
    have A_3 : Hid (Bl5 v3 w.heap.size x0 x1 x2 x3 x4) := hA
    have Z_3 : Hid (Gl v3) := hZ
    have G_3 : Hid (Below w.heap.size w v3) := hG
    have hE' : Hid (Els v3 v2.heap.size 1 (fun _ => ⟨x0, x1, x2, x3, x4⟩)) := hE
    clear hE hA hZ hG A_2 Z_2 G_2
    refine (Kt.out _ _ hE'.out).mono ?_
    rintro e v4 ⟨rfl, g⟩
    have A_4 : Hid (Bl5 v4 w.heap.size x0 x1 x2 x3 x4) := A_3.out.below g
    have Z_4 : Hid (Gl v4) := Z_3.out.grown g
    have G_4 : Hid (Below w.heap.size w v4) := G_3.out.trans (g.mono G_3.out.size)
    clear A_3 Z_3 G_3 g
    clear hE'
    go_wp2_with fail
    go_ret
    exact ⟨rfl, G_4.out⟩

end Go.Proofs.YtnebpleplogfeaaDoor
