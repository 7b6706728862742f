/-
  The contracts of the document's own numbers of layer 4: 2^255 - 19, what is modulo it, products, sums, differences. Conditions: as each theorem says.
-/
import Derived.Test.YtkbiiolkekpkiaaDoorQuo
import Derived.Test.YtkbiiolkekpkiaaDoorFB
import Derived.Test.YtkbiiolkekpkiaaDoorNT
namespace Go.Proofs.YtkbiiolkekpkiaaDoor
open Go.RowKit
set_option linter.unusedVariables false

theorem P25_lt11 : P25 < 16777216 ^ 11 := by decide +kernel
theorem P25_lt22 : P25 < 16777216 ^ 22 := by decide +kernel
theorem pow_lt22 : 2 ^ 255 < 16777216 ^ 22 := by decide +kernel
theorem num_lit (w : World) (d : Nat) (h0 : 0 < d) (h1 : d < 16777216) : Num (w.alloc (.cells #[.int .i64 (d : Int)] 3)) (.slice (some ⟨w.heap.size, 0, none⟩) 1 1) d :=
  ⟨[d], Sl.lit1 w d (d : Int) rfl, fun j => by rcases j with _ | j <;> simp [h1], Or.inr (by simp; omega), by simp [valD]⟩
theorem num_none (w : World) : Num w (.slice none 0 0) 0 := ⟨[], Sl.nil w, Dg.nil, Or.inl rfl, rfl⟩
set_option maxRecDepth 100000 in
set_option maxHeartbeats 2000000 in
theorem pD_num  (w : World) :
    Calls Tryd.prog 43 #[] w fun e w' => ∃ v, e = .returned v ∧ Num w' v (P25) ∧ Below w.heap.size w w' := by
  go_enter Tryd.func43, Tryd.ntmps43
  go_wp2_with fail
  refine (power_any 255 _ (by omega)).mono ?_
  rintro e w1 ⟨v, rfl, hn, g⟩
  obtain ⟨Aa, Ac, Ad, rfl⟩ := hn.shape
  have A_1 : Hid (Num w1 (.slice Aa Ac Ad) (2 ^ 255)) := hn
  have G_1 : Hid (Below w.heap.size w w1) := g
  clear  hn g
  go_wp2_with fail
  refine calls_at (fun V => Num V (.slice Aa Ac Ad) (2 ^ 255) ∧ Num V (.slice (some ⟨w1.heap.size, 0, none⟩) 1 1) 19 ∧ Below w.heap.size w V) ⟨A_1.out.below ((Below.refl _ _).alloc (Nat.le_refl _) _), num_lit w1 19 (by omega) (by omega), G_1.out.alloc G_1.out.size _⟩ ?_
  rintro w2 ⟨k0, k1, hG⟩
  have A_2 : Hid (Num w2 (.slice Aa Ac Ad) (2 ^ 255)) := k0
  have B_2 : Hid (Num w2 (.slice (some ⟨w1.heap.size, 0, none⟩) 1 1) 19) := k1
  have G_2 : Hid (Below w.heap.size w w2) := hG
  clear A_1 G_1 hG k0 k1
  refine (sub_num (2 ^ 255) 19 _ _ _ A_2.out B_2.out 22 pow_lt22 (by omega) (by decide +kernel)).mono ?_
  rintro e w3 ⟨v, rfl, hn, g⟩
  obtain ⟨Ca, Cc, Cd, rfl⟩ := hn.shape
  have C_3 : Hid (Num w3 (.slice Ca Cc Cd) (2 ^ 255 - 19)) := hn
  have G_3 := hold (G_2.out.trans (g.mono G_2.out.size))
  clear A_2 B_2 G_2 hn g
  have H : Hid (Num w3 (.slice Ca Cc Cd) P25) := by unfold Hid; rw [P25_pow]; exact C_3.out
  go_wp2_with fail
  go_ret
  exact ⟨_, rfl, H.out, G_3.out⟩

theorem reduce_step (B : Nat) : (B - B / 2 ^ 255 * 2 ^ 255 + B / 2 ^ 255 * 19) % P25 = B % P25 := by
  have e := Nat.div_add_mod B (2 ^ 255)
  have h : B = (B - B / 2 ^ 255 * 2 ^ 255 + B / 2 ^ 255 * 19) + P25 * (B / 2 ^ 255) := by
    have h2 : B / 2 ^ 255 * 2 ^ 255 ≤ B := Nat.div_mul_le_self _ _
    have h3 : B / 2 ^ 255 * 2 ^ 255 = B / 2 ^ 255 * 19 + P25 * (B / 2 ^ 255) := by
      rw [Nat.mul_comm P25, ← Nat.mul_add]
      congr 1
    omega
  conv => rhs; rw [h, Nat.add_mul_mod_self_left]
theorem reduce_less (B : Nat) (h : 2 ^ 255 ≤ B) : B - B / 2 ^ 255 * 2 ^ 255 + B / 2 ^ 255 * 19 < B := by
  have h1 : 0 < B / 2 ^ 255 := Nat.div_pos h (Nat.two_pow_pos 255)
  have h2 : B / 2 ^ 255 * 2 ^ 255 ≤ B := Nat.div_mul_le_self _ _
  have h3 : B / 2 ^ 255 * 19 < B / 2 ^ 255 * 2 ^ 255 := Nat.mul_lt_mul_of_pos_left (by decide +kernel) h1
  omega
theorem nbits_above (B : Nat) : 255 < nbits B ↔ 2 ^ 255 ≤ B := by
  constructor
  · intro h
    rcases Nat.lt_or_ge B (2 ^ 255) with h1 | h1
    · have := nbits_le B 255 h1; omega
    · exact h1
  · intro h
    rcases Nat.lt_or_ge 255 (nbits B) with h1 | h1
    · exact h1
    · have h2 : B < 2 ^ nbits B := by
        unfold nbits
        by_cases h0 : B = 0
        · rw [if_pos h0, h0]; decide
        · rw [if_neg h0]; exact Nat.lt_log2_self
      have h3 : 2 ^ nbits B ≤ 2 ^ 255 := Nat.pow_le_pow_right (by omega) h1
      omega
theorem reduce_last (B : Nat) (h : B < 2 ^ 255) (h1 : P25 ≤ B) : B - P25 = B % P25 := by
  rw [Nat.mod_eq_sub_mod h1, Nat.mod_eq_of_lt]
  have : 2 ^ 255 < P25 + P25 := by decide +kernel
  omega
set_option maxRecDepth 100000 in
set_option maxHeartbeats 2000000 in
theorem reduceD_num (A : Nat) (va : Value) (w : World) (hA : Num w va A) (hb : A < 16777216 ^ 22) :
    Calls Tryd.prog 60 #[va] w fun e w' => ∃ v, e = .returned v ∧ Num w' v (A % P25) ∧ Below w.heap.size w w' := by
  obtain ⟨Aa, Ac, Ad, rfl⟩ := hA.shape
  have A_0 : Hid (Num w (.slice Aa Ac Ad) (A)) := hA
  clear hA
  go_enter Tryd.func60, Tryd.ntmps60
  go_wp2_with fail
  refine (pD_num _).mono ?_
  rintro e w1 ⟨v, rfl, hn, g⟩
  obtain ⟨Pa, Pc, Pd, rfl⟩ := hn.shape
  have P_1 : Hid (Num w1 (.slice Pa Pc Pd) (P25)) := hn
  have A_1 := hold (A_0.out.below g)
  have G_1 : Hid (Below w.heap.size w w1) := g
  clear A_0 hn g
  go_wp2_with fail
  go_loopw [0] (fun v wr => ∃ B : Nat, Hid (Num wr v B) ∧ Hid (B % P25 = A % P25 ∧ B < 16777216 ^ 22) ∧ Hid (Num wr (.slice Pa Pc Pd) P25) ∧ Hid (Below w.heap.size w wr)) (fun v wr => Classical.epsilon (fun n => Num wr v n))
  case atStart => exact ⟨A, A_1, ⟨rfl, hb⟩, P_1, G_1⟩
  case round =>
    obtain ⟨B, hN, hB, hP, hG⟩ := hrel
    obtain ⟨ba, bc, bd, rfl⟩ := hN.out.shape
    have hE : Hid (Classical.epsilon (fun n => Num wr (.slice ba bc bd) n) = B) := num_eps hN.out
    clear A_1 P_1 G_1 hb
    obtain ⟨w1, hw1⟩ : ∃ w1, wr = w1 := ⟨_, rfl⟩
    subst hw1
    have HB22 : Hid (B < 16777216 ^ 22) := hB.out.2
    by_cases hlt : 2 ^ 255 ≤ B
    · have hn : (255 : Int) < (nbits B : Int) := by have := (nbits_above B).2 hlt; omega
      obtain ⟨n, hn'⟩ : ∃ n, nbits B = n := ⟨_, rfl⟩
      obtain ⟨C, hC⟩ : ∃ C, B / 2 ^ 255 = C := ⟨_, rfl⟩
      have hC22 : C < 16777216 ^ 22 := by rw [← hC]; exact Nat.lt_of_le_of_lt (Nat.div_le_self _ _) HB22.out
      have hCB : C * 2 ^ 255 ≤ B := by rw [← hC]; exact Nat.div_mul_le_self _ _
      have r1 := reduce_step B
      have r2 := reduce_less B hlt
      rw [hC] at r1 r2
      have C1 : Hid (∀ w, Num w (.slice ba bc bd) B → Calls Tryd.prog 82 #[.slice ba bc bd] w fun e w' => e = .returned (.int .i64 (n : Int)) ∧ Below w.heap.size w w') := by
        intro w h; have := bits_num B _ w h 22 HB22.out (by omega); rwa [hn'] at this
      have C2 : Hid (∀ w, Num w (.slice ba bc bd) B → Calls Tryd.prog 83 #[.slice ba bc bd, .int .i64 255] w fun e w' => ∃ v, e = .returned v ∧ Num w' v C ∧ Below w.heap.size w w') := by
        intro w h; have := down_num B _ 255 w h 22 HB22.out (by omega) (by omega); rwa [hC] at this
      have C3 : Hid (∀ v w, Num w v C → Calls Tryd.prog 58 #[v, .int .i64 255] w fun e w' => ∃ v, e = .returned v ∧ Num w' v (C * 2 ^ 255) ∧ Below w.heap.size w w') := fun v w h => shift_num C v 255 w h 22 hC22 (by omega) (by omega)
      have C5 : Hid (∀ v w, Num w v C → Calls Tryd.prog 81 #[v, .int .i64 19] w fun e w' => ∃ v, e = .returned v ∧ Num w' v (C * 19) ∧ Below w.heap.size w w') := fun v w h => small_num C v 19 w h 22 hC22 (by omega) (by omega)
      obtain ⟨S, hS⟩ : ∃ S, C * 2 ^ 255 = S := ⟨_, rfl⟩
      obtain ⟨T, hT⟩ : ∃ T, C * 19 = T := ⟨_, rfl⟩
      rw [hS] at C3 hCB r1 r2
      rw [hT] at C5 r1 r2
      have hBS : B - S < 16777216 ^ 22 := Nat.lt_of_le_of_lt (Nat.sub_le _ _) HB22.out
      have hT22 : T < 16777216 ^ 22 := by have := HB22.out; omega
      have C4 : Hid (∀ v w, Num w (.slice ba bc bd) B → Num w v S → Calls Tryd.prog 41 #[.slice ba bc bd, v] w fun e w' => ∃ v, e = .returned v ∧ Num w' v (B - S) ∧ Below w.heap.size w w') := fun v w h h' => sub_num B S _ v w h h' 22 HB22.out (by omega) hCB
      have C6 : Hid (∀ u v w, Num w u (B - S) → Num w v T → Calls Tryd.prog 57 #[u, v] w fun e w' => ∃ v, e = .returned v ∧ Num w' v (B - S + T) ∧ Below w.heap.size w w') := fun u v w h h' => add_num (B - S) T u v w h h' 22 hBS hT22 (by omega)
      have HR : Hid ((B - S + T) % P25 = A % P25 ∧ B - S + T < 16777216 ^ 22) := ⟨by rw [r1]; exact hB.out.1, by have := HB22.out; omega⟩
      have HL : Hid (B - S + T < B) := r2
      rw [hn'] at hn
      clear r1 r2 hS hT hC hn' hC22 hCB hlt hBS hT22 hB HB22
      have N_1 : Hid (Num wr (.slice ba bc bd) B) := hN
      have P_1 : Hid (Num wr (.slice Pa Pc Pd) P25) := hP
      have G_1 : Hid (Below w.heap.size w wr) := hG
      clear hN hP hG
      go_wp2_with fail
      refine (C1.out _ N_1.out).mono ?_
      rintro e w2 ⟨rfl, g⟩
      have N_2 := hold (N_1.out.below g)
      have P_2 := hold (P_1.out.below g)
      have G_2 := hold (G_1.out.trans (g.mono G_1.out.size))
      clear N_1 P_1 G_1 g
      go_wp2_with fail
      refine (C2.out _ N_2.out).mono ?_
      rintro e w3 ⟨v, rfl, hn, g⟩
      obtain ⟨Ca, Cc, Cd, rfl⟩ := hn.shape
      have C_3 : Hid (Num w3 (.slice Ca Cc Cd) (C)) := hn
      have N_3 := hold (N_2.out.below g)
      have P_3 := hold (P_2.out.below g)
      have G_3 := hold (G_2.out.trans (g.mono G_2.out.size))
      clear N_2 P_2 G_2 hn g
      go_wp2_with fail
      refine (C3.out _ _ C_3.out).mono ?_
      rintro e w4 ⟨v, rfl, hn, g⟩
      obtain ⟨Sa, Sc, Sd, rfl⟩ := hn.shape
      have S_4 : Hid (Num w4 (.slice Sa Sc Sd) (S)) := hn
      have N_4 := hold (N_3.out.below g)
      have P_4 := hold (P_3.out.below g)
      have C_4 := hold (C_3.out.below g)
      have G_4 := hold (G_3.out.trans (g.mono G_3.out.size))
      clear N_3 P_3 C_3 G_3 hn g
      go_wp2_with fail
      refine (C4.out _ _ N_4.out S_4.out).mono ?_
      rintro e w5 ⟨v, rfl, hn, g⟩
      obtain ⟨Ya, Yc, Yd, rfl⟩ := hn.shape
      have Y_5 : Hid (Num w5 (.slice Ya Yc Yd) (B - S)) := hn
      have P_5 := hold (P_4.out.below g)
      have C_5 := hold (C_4.out.below g)
      have G_5 := hold (G_4.out.trans (g.mono G_4.out.size))
      clear N_4 P_4 C_4 S_4 G_4 hn g
      go_wp2_with fail
      refine (C5.out _ _ C_5.out).mono ?_
      rintro e w6 ⟨v, rfl, hn, g⟩
      obtain ⟨Ta, Tc, Td, rfl⟩ := hn.shape
      have T_6 : Hid (Num w6 (.slice Ta Tc Td) (T)) := hn
      have P_6 := hold (P_5.out.below g)
      have Y_6 := hold (Y_5.out.below g)
      have G_6 := hold (G_5.out.trans (g.mono G_5.out.size))
      clear P_5 C_5 Y_5 G_5 hn g
      go_wp2_with fail
      refine (C6.out _ _ _ Y_6.out T_6.out).mono ?_
      rintro e w7 ⟨v, rfl, hn, g⟩
      obtain ⟨Za, Zc, Zd, rfl⟩ := hn.shape
      have Z_7 : Hid (Num w7 (.slice Za Zc Zd) (B - S + T)) := hn
      have P_7 := hold (P_6.out.below g)
      have G_7 := hold (G_6.out.trans (g.mono G_6.out.size))
      clear P_6 Y_6 T_6 G_6 hn g
      go_wp2_with fail
      go_roundw
      case rel => exact ⟨_, Z_7, HR, P_7, G_7⟩
      case measure =>
        rw [num_eps Z_7.out, hE.out]
        exact HL.out
    · have hn : ¬ (255 : Int) < (nbits B : Int) := by have := (nbits_above B).1; omega
      obtain ⟨n, hn'⟩ : ∃ n, nbits B = n := ⟨_, rfl⟩
      have C1 : Hid (∀ w, Num w (.slice ba bc bd) B → Calls Tryd.prog 82 #[.slice ba bc bd] w fun e w' => e = .returned (.int .i64 (n : Int)) ∧ Below w.heap.size w w') := by
        intro w h; have := bits_num B _ w h 22 HB22.out (by omega); rwa [hn'] at this
      have C2 : Hid (∀ w, Num w (.slice ba bc bd) B → Num w (.slice Pa Pc Pd) P25 → Calls Tryd.prog 15 #[.slice ba bc bd, .slice Pa Pc Pd] w fun e w' => e = .returned (.int .i64 (ord (B : Int) (P25 : Int))) ∧ Below w.heap.size w w') := fun w h h' => cmp_num B P25 _ _ w h h' 22 HB22.out P25_lt22 (by omega)
      rw [hn'] at hn
      have N_1 : Hid (Num wr (.slice ba bc bd) B) := hN
      have P_1 : Hid (Num wr (.slice Pa Pc Pd) P25) := hP
      have G_1 : Hid (Below w.heap.size w wr) := hG
      clear hN hP hG hn' hE
      by_cases hge : P25 ≤ B
      · have C3 : Hid (∀ w, Num w (.slice ba bc bd) B → Num w (.slice Pa Pc Pd) P25 → Calls Tryd.prog 41 #[.slice ba bc bd, .slice Pa Pc Pd] w fun e w' => ∃ v, e = .returned v ∧ Num w' v (B - P25) ∧ Below w.heap.size w w') := fun w h h' => sub_num B P25 _ _ w h h' 22 HB22.out (by omega) hge
        have HE : Hid (∀ w v, Num w v (B - P25) → Num w v (A % P25)) := by intro w v h; rwa [reduce_last B (by omega) hge, hB.out.1] at h
        obtain ⟨x, hx⟩ : ∃ x : Int, ord (B : Int) (P25 : Int) = x := ⟨_, rfl⟩
        have hx0 : 0 ≤ x := by rw [← hx]; unfold ord; split <;> (try split) <;> omega
        rw [hx] at C2
        clear hx hge hlt hB HB22
        go_wp2_with fail
        refine (C1.out _ N_1.out).mono ?_
        rintro e w2 ⟨rfl, g⟩
        have N_2 := hold (N_1.out.below g)
        have P_2 := hold (P_1.out.below g)
        have G_2 := hold (G_1.out.trans (g.mono G_1.out.size))
        clear N_1 P_1 G_1 g
        go_wp2_with fail
        refine (C2.out _ N_2.out P_2.out).mono ?_
        rintro e w3 ⟨rfl, g⟩
        have N_3 := hold (N_2.out.below g)
        have P_3 := hold (P_2.out.below g)
        have G_3 := hold (G_2.out.trans (g.mono G_2.out.size))
        clear N_2 P_2 G_2 g
        go_wp2_with fail
        refine (C3.out _ N_3.out P_3.out).mono ?_
        rintro e w4 ⟨v, rfl, hn, g⟩
        obtain ⟨Ca, Cc, Cd, rfl⟩ := hn.shape
        have C_4 : Hid (Num w4 (.slice Ca Cc Cd) (B - P25)) := hn
        have N_4 := hold (N_3.out.below g)
        have P_4 := hold (P_3.out.below g)
        have G_4 := hold (G_3.out.trans (g.mono G_3.out.size))
        clear N_3 P_3 G_3 hn g
        go_wp2_with fail
        go_ret
        exact ⟨_, rfl, HE.out _ _ C_4.out, G_4.out⟩
      · have HE : Hid (∀ w v, Num w v B → Num w v (A % P25)) := by intro w v h; rwa [← hB.out.1, Nat.mod_eq_of_lt (by omega)]
        obtain ⟨x, hx⟩ : ∃ x : Int, ord (B : Int) (P25 : Int) = x := ⟨_, rfl⟩
        have hx0 : x < 0 := by rw [← hx]; unfold ord; split <;> (try split) <;> omega
        rw [hx] at C2
        clear hx hge hlt hB HB22
        go_wp2_with fail
        refine (C1.out _ N_1.out).mono ?_
        rintro e w2 ⟨rfl, g⟩
        have N_2 := hold (N_1.out.below g)
        have P_2 := hold (P_1.out.below g)
        have G_2 := hold (G_1.out.trans (g.mono G_1.out.size))
        clear N_1 P_1 G_1 g
        go_wp2_with fail
        refine (C2.out _ N_2.out P_2.out).mono ?_
        rintro e w3 ⟨rfl, g⟩
        have N_3 := hold (N_2.out.below g)
        have P_3 := hold (P_2.out.below g)
        have G_3 := hold (G_2.out.trans (g.mono G_2.out.size))
        clear N_2 P_2 G_2 g
        go_wp2_with fail
        go_ret
        exact ⟨_, rfl, HE.out _ _ N_3.out, G_3.out⟩

theorem prod22 {A B : Nat} (h1 : A < 16777216 ^ 11) (h2 : B < 16777216 ^ 11) : A * B < 16777216 ^ 22 := by
  rw [show (22 : Nat) = 11 + 11 from rfl, Nat.pow_add]; exact Nat.mul_lt_mul'' h1 h2
theorem sum22 {A B : Nat} (h1 : A < 16777216 ^ 11) (h2 : B < 16777216 ^ 11) : A + B < 16777216 ^ 22 := by
  have h3 : 16777216 ^ 11 + 16777216 ^ 11 ≤ 16777216 ^ 22 := by decide +kernel
  omega
set_option maxRecDepth 100000 in
set_option maxHeartbeats 2000000 in
theorem mulD_num (A B : Nat) (va vb : Value) (w : World) (hA : Num w va A) (hB : Num w vb B) (hA2 : A < 16777216 ^ 11) (hB2 : B < 16777216 ^ 11) :
    Calls Tryd.prog 44 #[va, vb] w fun e w' => ∃ v, e = .returned v ∧ Num w' v (A * B % P25) ∧ Below w.heap.size w w' := by
  obtain ⟨Aa, Ac, Ad, rfl⟩ := hA.shape
  have A_0 : Hid (Num w (.slice Aa Ac Ad) (A)) := hA
  clear hA
  obtain ⟨Ba, Bc, Bd, rfl⟩ := hB.shape
  have B_0 : Hid (Num w (.slice Ba Bc Bd) (B)) := hB
  clear hB
  have b1 : Hid (A * B < 16777216 ^ 22) := prod22 hA2 hB2
  have b2 : Hid (A < 16777216 ^ 11) := hA2
  have b3 : Hid (B < 16777216 ^ 11) := hB2
  clear hA2 hB2
  go_enter Tryd.func44, Tryd.ntmps44
  go_wp2_with fail
  refine (ref_mul_num A B _ _ _ A_0.out B_0.out 11 b2.out b3.out (by omega)).mono ?_
  rintro e w1 ⟨v, rfl, hn, g⟩
  obtain ⟨Ca, Cc, Cd, rfl⟩ := hn.shape
  have C_1 : Hid (Num w1 (.slice Ca Cc Cd) (A * B)) := hn
  have A_1 := hold (A_0.out.below g)
  have B_1 := hold (B_0.out.below g)
  have G_1 : Hid (Below w.heap.size w w1) := g
  clear A_0 B_0 hn g
  go_wp2_with fail
  refine (reduceD_num _ _ _ C_1.out b1.out).mono ?_
  rintro e w2 ⟨v, rfl, hn, g⟩
  obtain ⟨Ea, Ec, Ed, rfl⟩ := hn.shape
  have E_2 : Hid (Num w2 (.slice Ea Ec Ed) (A * B % P25)) := hn
  have A_2 := hold (A_1.out.below g)
  have B_2 := hold (B_1.out.below g)
  have C_2 := hold (C_1.out.below g)
  have G_2 := hold (G_1.out.trans (g.mono G_1.out.size))
  clear A_1 B_1 C_1 G_1 hn g
  go_wp2_with fail
  go_ret
  exact ⟨_, rfl, E_2.out, G_2.out⟩

set_option maxRecDepth 100000 in
set_option maxHeartbeats 2000000 in
theorem addD_num (A B : Nat) (va vb : Value) (w : World) (hA : Num w va A) (hB : Num w vb B) (hA2 : A < 16777216 ^ 11) (hB2 : B < 16777216 ^ 11) :
    Calls Tryd.prog 47 #[va, vb] w fun e w' => ∃ v, e = .returned v ∧ Num w' v ((A + B) % P25) ∧ Below w.heap.size w w' := by
  obtain ⟨Aa, Ac, Ad, rfl⟩ := hA.shape
  have A_0 : Hid (Num w (.slice Aa Ac Ad) (A)) := hA
  clear hA
  obtain ⟨Ba, Bc, Bd, rfl⟩ := hB.shape
  have B_0 : Hid (Num w (.slice Ba Bc Bd) (B)) := hB
  clear hB
  have b1 : Hid (A + B < 16777216 ^ 22) := sum22 hA2 hB2
  have b2 : Hid (A < 16777216 ^ 11) := hA2
  have b3 : Hid (B < 16777216 ^ 11) := hB2
  clear hA2 hB2
  go_enter Tryd.func47, Tryd.ntmps47
  go_wp2_with fail
  refine (add_num A B _ _ _ A_0.out B_0.out 11 b2.out b3.out (by omega)).mono ?_
  rintro e w1 ⟨v, rfl, hn, g⟩
  obtain ⟨Ca, Cc, Cd, rfl⟩ := hn.shape
  have C_1 : Hid (Num w1 (.slice Ca Cc Cd) (A + B)) := hn
  have A_1 := hold (A_0.out.below g)
  have B_1 := hold (B_0.out.below g)
  have G_1 : Hid (Below w.heap.size w w1) := g
  clear A_0 B_0 hn g
  go_wp2_with fail
  refine (reduceD_num _ _ _ C_1.out b1.out).mono ?_
  rintro e w2 ⟨v, rfl, hn, g⟩
  obtain ⟨Ea, Ec, Ed, rfl⟩ := hn.shape
  have E_2 : Hid (Num w2 (.slice Ea Ec Ed) ((A + B) % P25)) := hn
  have A_2 := hold (A_1.out.below g)
  have B_2 := hold (B_1.out.below g)
  have C_2 := hold (C_1.out.below g)
  have G_2 := hold (G_1.out.trans (g.mono G_1.out.size))
  clear A_1 B_1 C_1 G_1 hn g
  go_wp2_with fail
  go_ret
  exact ⟨_, rfl, E_2.out, G_2.out⟩

set_option maxRecDepth 100000 in
set_option maxHeartbeats 2000000 in
theorem subD_num (A B : Nat) (va vb : Value) (w : World) (hA : Num w va A) (hB : Num w vb B) (hA2 : A < 16777216 ^ 11) (hB2 : B ≤ A + P25) :
    Calls Tryd.prog 46 #[va, vb] w fun e w' => ∃ v, e = .returned v ∧ Num w' v ((A + P25 - B) % P25) ∧ Below w.heap.size w w' := by
  obtain ⟨Aa, Ac, Ad, rfl⟩ := hA.shape
  have A_0 : Hid (Num w (.slice Aa Ac Ad) (A)) := hA
  clear hA
  obtain ⟨Ba, Bc, Bd, rfl⟩ := hB.shape
  have B_0 : Hid (Num w (.slice Ba Bc Bd) (B)) := hB
  clear hB
  have b1 : Hid (A + P25 - B < 16777216 ^ 22) := Nat.lt_of_le_of_lt (Nat.sub_le _ _) (sum22 hA2 P25_lt11)
  have b2 : Hid (A < 16777216 ^ 11) := hA2
  have b3 : Hid (B ≤ A + P25) := hB2
  have b4 : Hid (A + P25 < 16777216 ^ 22) := sum22 hA2 P25_lt11
  clear hA2 hB2
  go_enter Tryd.func46, Tryd.ntmps46
  go_wp2_with fail
  refine (pD_num _).mono ?_
  rintro e w1 ⟨v, rfl, hn, g⟩
  obtain ⟨Pa, Pc, Pd, rfl⟩ := hn.shape
  have P_1 : Hid (Num w1 (.slice Pa Pc Pd) (P25)) := hn
  have A_1 := hold (A_0.out.below g)
  have B_1 := hold (B_0.out.below g)
  have G_1 : Hid (Below w.heap.size w w1) := g
  clear A_0 B_0 hn g
  go_wp2_with fail
  refine (add_num A P25 _ _ _ A_1.out P_1.out 11 b2.out P25_lt11 (by omega)).mono ?_
  rintro e w2 ⟨v, rfl, hn, g⟩
  obtain ⟨Ca, Cc, Cd, rfl⟩ := hn.shape
  have C_2 : Hid (Num w2 (.slice Ca Cc Cd) (A + P25)) := hn
  have A_2 := hold (A_1.out.below g)
  have B_2 := hold (B_1.out.below g)
  have P_2 := hold (P_1.out.below g)
  have G_2 := hold (G_1.out.trans (g.mono G_1.out.size))
  clear A_1 B_1 P_1 G_1 hn g
  go_wp2_with fail
  refine (sub_num (A + P25) B _ _ _ C_2.out B_2.out 22 b4.out (by omega) b3.out).mono ?_
  rintro e w3 ⟨v, rfl, hn, g⟩
  obtain ⟨Sa, Sc, Sd, rfl⟩ := hn.shape
  have S_3 : Hid (Num w3 (.slice Sa Sc Sd) (A + P25 - B)) := hn
  have A_3 := hold (A_2.out.below g)
  have B_3 := hold (B_2.out.below g)
  have P_3 := hold (P_2.out.below g)
  have C_3 := hold (C_2.out.below g)
  have G_3 := hold (G_2.out.trans (g.mono G_2.out.size))
  clear A_2 B_2 P_2 C_2 G_2 hn g
  go_wp2_with fail
  refine (reduceD_num _ _ _ S_3.out b1.out).mono ?_
  rintro e w4 ⟨v, rfl, hn, g⟩
  obtain ⟨Ea, Ec, Ed, rfl⟩ := hn.shape
  have E_4 : Hid (Num w4 (.slice Ea Ec Ed) ((A + P25 - B) % P25)) := hn
  have A_4 := hold (A_3.out.below g)
  have B_4 := hold (B_3.out.below g)
  have P_4 := hold (P_3.out.below g)
  have C_4 := hold (C_3.out.below g)
  have S_4 := hold (S_3.out.below g)
  have G_4 := hold (G_3.out.trans (g.mono G_3.out.size))
  clear A_3 B_3 P_3 C_3 S_3 G_3 hn g
  go_wp2_with fail
  go_ret
  exact ⟨_, rfl, E_4.out, G_4.out⟩


end Go.Proofs.YtkbiiolkekpkiaaDoor

/-
  The contracts of the document's own powers, roots and ratios of layer 4. Conditions: as each theorem says.
-/
namespace Go.Proofs.YtkbiiolkekpkiaaDoor
open Go.RowKit
set_option linter.unusedVariables false

theorem half_up4 (E i : Nat) : E / 2 ^ i = 2 * (E / 2 ^ (i + 1)) + E / 2 ^ i % 2 := by
  rw [Nat.pow_succ, ← Nat.div_div_eq_div_mul]; omega
theorem nbits_lt4 (x : Nat) : x < 2 ^ nbits x := by
  unfold nbits
  by_cases h : x = 0
  · rw [if_pos h, h]; decide
  · rw [if_neg h]; exact Nat.lt_log2_self
theorem nbits_le4 (E : Nat) (h : E < 2 ^ 256) : nbits E ≤ 256 := nbits_le E 256 h
theorem pow_sq4 (A t M : Nat) : (A ^ t % M) * (A ^ t % M) % M = A ^ (2 * t) % M := by
  rw [← Nat.mul_mod, ← Nat.pow_add, show t + t = 2 * t by omega]
theorem pow_more4 (A t M : Nat) : (A ^ t % M) * A % M = A ^ (t + 1) % M := by
  rw [Nat.pow_succ, Nat.mul_mod, Nat.mod_mod, ← Nat.mul_mod]
theorem lt11_of_mod (x : Nat) : x % P25 < 16777216 ^ 11 := Nat.lt_trans (Nat.mod_lt _ (by decide +kernel)) P25_lt11

set_option maxRecDepth 100000 in
set_option maxHeartbeats 2000000 in
theorem expD_num4 (A E : Nat) (va ve : Value) (w : World) (hA : Num w va A) (hE : Num w ve E) (hA1 : A < 16777216 ^ 11) (hE1 : E < 2 ^ 256) :
    Calls Tryd.prog 79 #[va, ve] w fun e w' => ∃ v, e = .returned v ∧ Num w' v (A ^ E % P25) ∧ Below w.heap.size w w' := by
  obtain ⟨xa, xc, xd, rfl⟩ := hA.shape
  obtain ⟨ya, yc, yd, rfl⟩ := hE.shape
  have hE11 : E < 16777216 ^ 11 := Nat.lt_trans hE1 (by decide +kernel)
  have CB : Hid (∀ w, Num w (.slice ya yc yd) E → Calls Tryd.prog 82 #[.slice ya yc yd] w fun e w' => e = .returned (.int .i64 (nbits E : Int)) ∧ Below w.heap.size w w') := fun w h => bits_num E _ w h 11 hE11 (by omega)
  have CS : Hid (∀ v (x : Value) w, Num w x (A ^ v % P25) → Calls Tryd.prog 44 #[x, x] w fun e w' => ∃ r, e = .returned r ∧ Num w' r (A ^ (2 * v) % P25) ∧ Below w.heap.size w w') := by
    intro v x w h
    have := mulD_num _ _ x x w h h (lt11_of_mod _) (lt11_of_mod _)
    rwa [pow_sq4] at this
  have CT : Hid (∀ v (x : Value) w, Num w x (A ^ v % P25) → Num w (.slice xa xc xd) A → Calls Tryd.prog 44 #[x, .slice xa xc xd] w fun e w' => ∃ r, e = .returned r ∧ Num w' r (A ^ (v + 1) % P25) ∧ Below w.heap.size w w') := by
    intro v x w h h'
    have := mulD_num _ A x _ w h h' (lt11_of_mod _) hA1
    rwa [pow_more4] at this
  have CI : Hid (∀ (i : Nat) w, i ≤ 264 → Num w (.slice ya yc yd) E → Calls Tryd.prog 40 #[.slice ya yc yd, .int .i64 (i : Int)] w fun e w' => e = .returned (.int .i64 ((E / 2 ^ i % 2 : Nat) : Int)) ∧ Below w.heap.size w w') := fun i w hi h => bit_num E _ i w h 11 hE11 (by omega) (by omega)
  have hnb := nbits_le4 E hE1
  have HN := nbits_lt4 E
  obtain ⟨nb, hNB⟩ : ∃ nb, nbits E = nb := ⟨_, rfl⟩
  rw [hNB] at hnb CB HN
  have HNB : Hid (E < 2 ^ nb) := HN
  have hnb' : (nb : Int) ≤ 256 := by omega
  have O0 : Hid (Num (w.alloc (.cells #[.int .i64 1] 3)) (.slice (some ⟨w.heap.size, 0, none⟩) 1 1) (A ^ 0 % P25)) := by
    have h := num_lit w 1 (by omega) (by omega)
    unfold Hid
    rw [Nat.pow_zero, Nat.mod_eq_of_lt (by decide +kernel)]
    exact h
  have A0 : Hid (Num (w.alloc (.cells #[.int .i64 1] 3)) (.slice xa xc xd) A) := hA.below ((Below.refl _ _).alloc (Nat.le_refl _) _)
  have Y0 : Hid (Num (w.alloc (.cells #[.int .i64 1] 3)) (.slice ya yc yd) E) := hE.below ((Below.refl _ _).alloc (Nat.le_refl _) _)
  have G0 : Hid (Below w.heap.size w (w.alloc (.cells #[.int .i64 1] 3))) := (Below.refl _ _).alloc (Nat.le_refl _) _
  clear hA hE hA1 hE1 hE11 HN hNB
  go_enter Tryd.func79, Tryd.ntmps79
  go_wp2_with fail
  refine (CB.out _ Y0.out).mono ?_
  rintro e w2 ⟨rfl, g2⟩
  have R2 := hold (O0.out.below g2)
  have A2 := hold (A0.out.below g2)
  have Y2 := hold (Y0.out.below g2)
  have G2 := hold (G0.out.trans (g2.mono G0.out.size))
  clear g2 O0 A0 Y0 G0
  go_wp2_with fail
  go_loopw [5, 6] (fun v y wr => ∃ k : Nat, k ≤ nb ∧ y = .int .i64 ((nb : Int) - 1 - (k : Int)) ∧ Hid (Num wr v (A ^ (E / 2 ^ (nb - k)) % P25)) ∧ Hid (Num wr (.slice xa xc xd) A) ∧ Hid (Num wr (.slice ya yc yd) E) ∧ Hid (Below w.heap.size w wr)) (fun _ y _ => (intOf y + 1).toNat)
  case atStart => exact ⟨0, by omega, by go_num, by rw [Nat.sub_zero, Nat.div_eq_of_lt HNB.out]; exact R2, A2, Y2, G2⟩
  case round =>
    obtain ⟨k, hk, rfl, hR, hA, hY, hG⟩ := hrel
    clear R2 A2 Y2 G2
    obtain ⟨w3, hw3⟩ : ∃ w3, wr = w3 := ⟨_, rfl⟩
    subst hw3
    obtain ⟨za, zc, zd, rfl⟩ := hR.out.shape
    by_cases hlt : k < nb
    · obtain ⟨i, hi⟩ : ∃ i : Nat, (nb : Int) - 1 - (k : Int) = (i : Int) := ⟨nb - 1 - k, by omega⟩
      have Hi : Hid ((nb : Int) - 1 - (k : Int) = (i : Int)) := hi
      have hi3 : i ≤ 264 := by omega
      have e1 : nb - k = i + 1 := by omega
      have e2 : nb - (k + 1) = i := by omega
      rw [e1] at hR
      have HE : Hid (E / 2 ^ i = 2 * (E / 2 ^ (i + 1)) + E / 2 ^ i % 2) := half_up4 E i
      obtain ⟨t, ht⟩ : ∃ t, E / 2 ^ (i + 1) = t := ⟨_, rfl⟩
      obtain ⟨z, hz⟩ : ∃ z, E / 2 ^ i % 2 = z := ⟨_, rfl⟩
      have hz1 : z = 0 ∨ z = 1 := by omega
      rw [ht, hz] at HE
      rw [ht] at hR
      have CI' : Hid (∀ w, Num w (.slice ya yc yd) E → Calls Tryd.prog 40 #[.slice ya yc yd, .int .i64 (i : Int)] w fun e w' => e = .returned (.int .i64 (z : Int)) ∧ Below w.heap.size w w') := by
        intro w h; have := CI.out i w hi3 h; rwa [hz] at this
      have HE2 : Hid (E / 2 ^ (nb - (k + 1)) = 2 * t + z) := by unfold Hid; rw [e2]; exact HE.out
      have hi0 : (0 : Int) ≤ (i : Int) := by omega
      rw [hi]
      clear hi e1 e2 ht hz HE
      go_wp2_with fail
      refine (CS.out t _ _ hR.out).mono ?_
      rintro e w4 ⟨v4, rfl, h4, g4⟩
      obtain ⟨qa, qc, qd, rfl⟩ := h4.shape
      have R4 : Hid (Num w4 (.slice qa qc qd) (A ^ (2 * t) % P25)) := h4
      have A4 := hold (hA.out.below g4)
      have Y4 := hold (hY.out.below g4)
      have G4 := hold (hG.out.trans (g4.mono hG.out.size))
      clear h4 g4 hR hA hY hG
      go_wp2_with fail
      refine (CI'.out _ Y4.out).mono ?_
      rintro e w5 ⟨rfl, g5⟩
      have R5 := hold (R4.out.below g5)
      have A5 := hold (A4.out.below g5)
      have Y5 := hold (Y4.out.below g5)
      have G5 := hold (G4.out.trans (g5.mono G4.out.size))
      clear g5 R4 A4 Y4 G4
      rcases hz1 with rfl | rfl
      · have F : Hid (Num w5 (.slice qa qc qd) (A ^ (E / 2 ^ (nb - (k + 1))) % P25)) := by unfold Hid; rw [HE2.out, Nat.add_zero]; exact R5.out
        clear HE2 R5
        go_wp2_with fail
        go_roundw
        case rel => exact ⟨k + 1, by omega, by have := Hi.out; go_num, F, A5, Y5, G5⟩
        case measure => simp [intOf]
      · go_wp2_with fail
        refine (CT.out (2 * t) _ _ R5.out A5.out).mono ?_
        rintro e w6 ⟨v6, rfl, h6, g6⟩
        have F : Hid (Num w6 v6 (A ^ (E / 2 ^ (nb - (k + 1))) % P25)) := by unfold Hid; rw [HE2.out]; exact h6
        have A6 := hold (A5.out.below g6)
        have Y6 := hold (Y5.out.below g6)
        have G6 := hold (G5.out.trans (g6.mono G5.out.size))
        clear h6 g6 HE2 R5 A5 Y5 G5
        go_wp2_with fail
        go_roundw
        case rel => exact ⟨k + 1, by omega, by have := Hi.out; go_num, F, A6, Y6, G6⟩
        case measure => simp [intOf]
    · obtain rfl : k = nb := by omega
      have hm1 : (k : Int) - 1 - (k : Int) = -1 := by omega
      rw [hm1]
      rw [Nat.sub_self, Nat.pow_zero, Nat.div_one] at hR
      go_wp2_with fail
      go_ret
      exact ⟨_, rfl, hR.out, hG.out⟩

set_option maxRecDepth 100000 in
set_option maxHeartbeats 2000000 in
theorem invD_num4 (A : Nat) (va : Value) (w : World) (hA : Num w va A) (hb : A < 16777216 ^ 11) :
    Calls Tryd.prog 50 #[va] w fun e w' => ∃ v, e = .returned v ∧ Num w' v (A ^ (P25 - 2) % P25) ∧ Below w.heap.size w w' := by
  obtain ⟨Aa, Ac, Ad, rfl⟩ := hA.shape
  have A_0 : Hid (Num w (.slice Aa Ac Ad) (A)) := hA
  clear hA
  have b1 : Hid (A < 16777216 ^ 11) := hb
  clear hb
  go_enter Tryd.func50, Tryd.ntmps50
  go_wp2_with fail
  refine (pD_num _).mono ?_
  rintro e w1 ⟨v, rfl, hn, g⟩
  obtain ⟨Pa, Pc, Pd, rfl⟩ := hn.shape
  have P_1 : Hid (Num w1 (.slice Pa Pc Pd) (P25)) := hn
  have A_1 := hold (A_0.out.below g)
  have G_1 : Hid (Below w.heap.size w w1) := g
  clear A_0 hn g
  go_wp2_with fail
  refine calls_at (fun V => Num V (.slice Aa Ac Ad) (A) ∧ Num V (.slice Pa Pc Pd) (P25) ∧ Num V (.slice (some ⟨w1.heap.size, 0, none⟩) 1 1) 2 ∧ Below w.heap.size w V) ⟨A_1.out.below ((Below.refl _ _).alloc (Nat.le_refl _) _), P_1.out.below ((Below.refl _ _).alloc (Nat.le_refl _) _), num_lit w1 2 (by omega) (by omega), G_1.out.alloc G_1.out.size _⟩ ?_
  rintro w2 ⟨k0, k1, k2, hG⟩
  have A_2 : Hid (Num w2 (.slice Aa Ac Ad) (A)) := k0
  have P_2 : Hid (Num w2 (.slice Pa Pc Pd) (P25)) := k1
  have B_2 : Hid (Num w2 (.slice (some ⟨w1.heap.size, 0, none⟩) 1 1) 2) := k2
  have G_2 : Hid (Below w.heap.size w w2) := hG
  clear A_1 P_1 G_1 hG k0 k1 k2
  refine (sub_num P25 2 _ _ _ P_2.out B_2.out 22 P25_lt22 (by omega) (by decide +kernel)).mono ?_
  rintro e w3 ⟨v, rfl, hn, g⟩
  obtain ⟨Ca, Cc, Cd, rfl⟩ := hn.shape
  have C_3 : Hid (Num w3 (.slice Ca Cc Cd) (P25 - 2)) := hn
  have A_3 := hold (A_2.out.below g)
  have G_3 := hold (G_2.out.trans (g.mono G_2.out.size))
  clear A_2 P_2 B_2 G_2 hn g
  go_wp2_with fail
  refine (expD_num4 A (P25 - 2) _ _ _ A_3.out C_3.out b1.out (by decide +kernel)).mono ?_
  rintro e w4 ⟨v, rfl, hn, g⟩
  obtain ⟨Ea, Ec, Ed, rfl⟩ := hn.shape
  have E_4 : Hid (Num w4 (.slice Ea Ec Ed) (A ^ (P25 - 2) % P25)) := hn
  have A_4 := hold (A_3.out.below g)
  have C_4 := hold (C_3.out.below g)
  have G_4 := hold (G_3.out.trans (g.mono G_3.out.size))
  clear A_3 C_3 G_3 hn g
  go_wp2_with fail
  go_ret
  exact ⟨_, rfl, E_4.out, G_4.out⟩

set_option maxRecDepth 100000 in
set_option maxHeartbeats 2000000 in
theorem oddD_num (A : Nat) (va : Value) (w : World) (hA : Num w va A) (hb : A < 16777216 ^ 22) :
    Calls Tryd.prog 84 #[va] w fun e w' => e = .returned (.bool (decide (A % 2 = 1))) ∧ Below w.heap.size w w' := by
  obtain ⟨Aa, Ac, Ad, rfl⟩ := hA.shape
  have A_0 : Hid (Num w (.slice Aa Ac Ad) (A)) := hA
  clear hA
  have C : Hid (∀ w, Num w (.slice Aa Ac Ad) A → Calls Tryd.prog 40 #[.slice Aa Ac Ad, .int .i64 0] w fun e w' => e = .returned (.int .i64 ((A % 2 : Nat) : Int)) ∧ Below w.heap.size w w') := by
    intro w h; have := bit_num A _ 0 w h 22 hb (by omega) (by omega); rwa [Nat.pow_zero, Nat.div_one] at this
  obtain ⟨z, hz⟩ : ∃ z, A % 2 = z := ⟨_, rfl⟩
  have hz1 : z = 0 ∨ z = 1 := by omega
  rw [hz] at C ⊢
  clear hz hb
  rcases hz1 with rfl | rfl
  all_goals
    go_enter Tryd.func84, Tryd.ntmps84
    go_wp2_with fail
    refine (C.out _ A_0.out).mono ?_
    rintro e w1 ⟨rfl, g⟩
    have A_1 := hold (A_0.out.below g)
    have G_1 : Hid (Below w.heap.size w w1) := g
    clear A_0 g
    go_wp2_with fail
    go_ret
    exact ⟨rfl, G_1.out⟩

/-- A number, or its other sign, that is even. -/
def evn (A : Nat) : Nat := if A % 2 = 1 then (P25 - A) % P25 else A
set_option maxRecDepth 100000 in
set_option maxHeartbeats 2000000 in
theorem evenD_num (A : Nat) (va : Value) (w : World) (hA : Num w va A) (hb : A < P25) :
    Calls Tryd.prog 87 #[va] w fun e w' => ∃ v, e = .returned v ∧ Num w' v (evn A) ∧ Below w.heap.size w w' := by
  obtain ⟨Aa, Ac, Ad, rfl⟩ := hA.shape
  have A_0 : Hid (Num w (.slice Aa Ac Ad) (A)) := hA
  clear hA
  have hb2 : A < 16777216 ^ 22 := Nat.lt_trans hb P25_lt22
  have C : Hid (∀ w, Num w (.slice Aa Ac Ad) A → Calls Tryd.prog 84 #[.slice Aa Ac Ad] w fun e w' => e = .returned (.bool (decide (A % 2 = 1))) ∧ Below w.heap.size w w') := fun w h => oddD_num A _ w h hb2
  have S : Hid (∀ w, Num w (.slice Aa Ac Ad) A → Calls Tryd.prog 46 #[.slice none 0 0, .slice Aa Ac Ad] w fun e w' => ∃ v, e = .returned v ∧ Num w' v ((P25 - A) % P25) ∧ Below w.heap.size w w') := by
    intro w h; have := subD_num 0 A _ _ w (num_none w) h (by decide +kernel) (by omega); rwa [Nat.zero_add] at this
  unfold evn
  by_cases h : A % 2 = 1
  · rw [if_pos h]
    rw [decide_eq_true h] at C
    clear hb hb2 h
    go_enter Tryd.func87, Tryd.ntmps87
    go_wp2_with fail
    refine (C.out _ A_0.out).mono ?_
    rintro e w1 ⟨rfl, g⟩
    have A_1 := hold (A_0.out.below g)
    have G_1 : Hid (Below w.heap.size w w1) := g
    clear A_0 g
    go_wp2_with fail
    refine (S.out _ A_1.out).mono ?_
    rintro e w2 ⟨v, rfl, hn, g⟩
    obtain ⟨Ea, Ec, Ed, rfl⟩ := hn.shape
    have E_2 : Hid (Num w2 (.slice Ea Ec Ed) ((P25 - A) % P25)) := hn
    have A_2 := hold (A_1.out.below g)
    have G_2 := hold (G_1.out.trans (g.mono G_1.out.size))
    clear A_1 G_1 hn g
    go_wp2_with fail
    go_ret
    exact ⟨_, rfl, E_2.out, G_2.out⟩
  · rw [if_neg h]
    rw [decide_eq_false h] at C
    clear hb hb2 h
    go_enter Tryd.func87, Tryd.ntmps87
    go_wp2_with fail
    refine (C.out _ A_0.out).mono ?_
    rintro e w1 ⟨rfl, g⟩
    have A_1 := hold (A_0.out.below g)
    have G_1 : Hid (Below w.heap.size w w1) := g
    clear A_0 g
    go_wp2_with fail
    go_ret
    exact ⟨_, rfl, A_1.out, G_1.out⟩

end Go.Proofs.YtkbiiolkekpkiaaDoor

/-
  The contracts of the document's own roots, ratios and rests of layer 4. Conditions: as each theorem says.
-/
namespace Go.Proofs.YtkbiiolkekpkiaaDoor
open Go.RowKit
set_option linter.unusedVariables false

/-- The document's first try at a root, and its second. -/
def rt1 (a : Nat) : Nat := a ^ ((P25 + 3) / 8) % P25
def rt2 (a : Nat) : Nat := rt1 a * I25 % P25
def rootOk (a : Nat) : Bool := if rt1 a * rt1 a % P25 = a then true else if rt2 a * rt2 a % P25 = a then true else false
def rootN (a : Nat) : Nat := if rt1 a * rt1 a % P25 = a then evn (rt1 a) else if rt2 a * rt2 a % P25 = a then evn (rt2 a) else 0
def ratOk (u v : Nat) : Bool := if v = 0 ∧ 0 < u then false else rootOk (u * (v ^ (P25 - 2) % P25) % P25)
def ratN (u v : Nat) : Nat := if v = 0 ∧ 0 < u then 0 else rootN (u * (v ^ (P25 - 2) % P25) % P25)
theorem rt1_lt (a : Nat) : rt1 a < P25 := Nat.mod_lt _ (by decide +kernel)
theorem rt2_lt (a : Nat) : rt2 a < P25 := Nat.mod_lt _ (by decide +kernel)
theorem num_len0 {w : World} {v : Value} {N : Nat} (h : Num w v N) : ∀ a n c, v = .slice a n c → (N = 0 ↔ n = 0) := by
  intro a n c e
  subst e
  obtain ⟨l, ⟨a', cap, e, -, -, -⟩, h2, h3, h4⟩ := h
  simp only [Value.slice.injEq] at e
  obtain ⟨-, rfl, -⟩ := e
  rcases h3 with rfl | h3
  · simp [valD] at h4; simp [← h4]
  · constructor
    · intro h0
      subst h0
      rcases Nat.eq_zero_or_pos l.length with hl | hl
      · exact hl
      · exfalso
        have e1 := valD_take l (l.length - 1)
        rw [show l.length - 1 + 1 = l.length by omega, List.take_length, h4] at e1
        have : 0 < 16777216 ^ (l.length - 1) * l.getD (l.length - 1) 0 := Nat.mul_pos (Nat.pow_pos (by omega)) (by omega)
        omega
    · intro hl
      have : l = [] := List.length_eq_zero_iff.1 hl
      subst this
      simpa [valD] using h4.symm
theorem ord_zero (a b : Nat) : ord (a : Int) (b : Int) = 0 ↔ a = b := by unfold ord; split <;> (try split) <;> omega
theorem I25_pow' : 2 ^ ((P25 - 1) / 2 ^ 2) % P25 = I25 := by rw [show (2 : Nat) ^ 2 = 4 from rfl]; exact I25_pow
theorem down3 : (P25 + 3) / 2 ^ 3 = (P25 + 3) / 8 := rfl

set_option maxRecDepth 100000 in
set_option maxHeartbeats 2000000 in
theorem rootD_num (A : Nat) (va : Value) (w : World) (hA : Num w va A) (hb : A < P25) :
    Calls Tryd.prog 73 #[va] w fun e w' => ∃ v, e = .returned (.tuple #[v, .bool (rootOk A)]) ∧ Num w' v (rootN A) ∧ Below w.heap.size w w' := by
  obtain ⟨Aa, Ac, Ad, rfl⟩ := hA.shape
  have A_0 : Hid (Num w (.slice Aa Ac Ad) (A)) := hA
  clear hA
  have b1 : Hid (A < P25) := hb
  have b2 : Hid (A < 16777216 ^ 11) := Nat.lt_trans hb P25_lt11
  have C1 : Hid (∀ v w, Num w v (P25 + 3) → Calls Tryd.prog 83 #[v, .int .i64 3] w fun e w' => ∃ v, e = .returned v ∧ Num w' v ((P25 + 3) / 8) ∧ Below w.heap.size w w') := by
    intro v w h; have := down_num (P25 + 3) v 3 w h 22 (by decide +kernel) (by omega) (by omega); rwa [down3] at this
  have C2 : Hid (∀ v w, Num w (.slice Aa Ac Ad) A → Num w v ((P25 + 3) / 8) → Calls Tryd.prog 79 #[.slice Aa Ac Ad, v] w fun e w' => ∃ v, e = .returned v ∧ Num w' v (rt1 A) ∧ Below w.heap.size w w') := fun v w h h' => expD_num4 A _ _ v w h h' b2.out (by decide +kernel)
  have C3 : Hid (∀ v w, Num w v (rt1 A) → Calls Tryd.prog 44 #[v, v] w fun e w' => ∃ v, e = .returned v ∧ Num w' v (rt1 A * rt1 A % P25) ∧ Below w.heap.size w w') := fun v w h => mulD_num _ _ v v w h h (Nat.lt_trans (rt1_lt A) P25_lt11) (Nat.lt_trans (rt1_lt A) P25_lt11)
  have C4 : Hid (∀ N v w, N < P25 → Num w v N → Num w (.slice Aa Ac Ad) A → Calls Tryd.prog 15 #[v, .slice Aa Ac Ad] w fun e w' => e = .returned (.int .i64 (ord (N : Int) (A : Int))) ∧ Below w.heap.size w w') := fun N v w hN h h' => cmp_num N A v _ w h h' 22 (Nat.lt_trans hN P25_lt22) (Nat.lt_trans b1.out P25_lt22) (by omega)
  have C5 : Hid (∀ N v w, N < P25 → Num w v N → Calls Tryd.prog 87 #[v] w fun e w' => ∃ v, e = .returned v ∧ Num w' v (evn N) ∧ Below w.heap.size w w') := fun N v w hN h => evenD_num N v w h hN
  have C6 : Hid (∀ v w, Num w v (P25 - 1) → Calls Tryd.prog 83 #[v, .int .i64 2] w fun e w' => ∃ v, e = .returned v ∧ Num w' v ((P25 - 1) / 2 ^ 2) ∧ Below w.heap.size w w') := fun v w h => down_num (P25 - 1) v 2 w h 22 (by decide +kernel) (by omega) (by omega)
  have C7 : Hid (∀ u v w, Num w u 2 → Num w v ((P25 - 1) / 2 ^ 2) → Calls Tryd.prog 79 #[u, v] w fun e w' => ∃ v, e = .returned v ∧ Num w' v I25 ∧ Below w.heap.size w w') := by
    intro u v w h h'; have := expD_num4 2 _ u v w h h' (by decide +kernel) (by decide +kernel); rwa [I25_pow'] at this
  have C8 : Hid (∀ u v w, Num w u (rt1 A) → Num w v I25 → Calls Tryd.prog 44 #[u, v] w fun e w' => ∃ v, e = .returned v ∧ Num w' v (rt2 A) ∧ Below w.heap.size w w') := fun u v w h h' => mulD_num _ _ u v w h h' (Nat.lt_trans (rt1_lt A) P25_lt11) (by decide +kernel)
  have C9 : Hid (∀ v w, Num w v (rt2 A) → Calls Tryd.prog 44 #[v, v] w fun e w' => ∃ v, e = .returned v ∧ Num w' v (rt2 A * rt2 A % P25) ∧ Below w.heap.size w w') := fun v w h => mulD_num _ _ v v w h h (Nat.lt_trans (rt2_lt A) P25_lt11) (Nat.lt_trans (rt2_lt A) P25_lt11)
  have m1 : Hid (rt1 A * rt1 A % P25 < P25) := Nat.mod_lt _ (by decide +kernel)
  have m2 : Hid (rt2 A * rt2 A % P25 < P25) := Nat.mod_lt _ (by decide +kernel)
  have m3 : Hid (rt1 A < P25) := rt1_lt A
  have m4 : Hid (rt2 A < P25) := rt2_lt A
  have z1 := ord_zero (rt1 A * rt1 A % P25) A
  have z2 := ord_zero (rt2 A * rt2 A % P25) A
  unfold rootOk rootN
  generalize rt1 A * rt1 A % P25 = X1 at *
  generalize rt2 A * rt2 A % P25 = X2 at *
  generalize rt1 A = r1 at *
  generalize rt2 A = r2 at *
  have C41 := C4.out X1
  have C42 := C4.out X2
  obtain ⟨o1, ho1⟩ : ∃ o : Int, ord (X1 : Int) (A : Int) = o := ⟨_, rfl⟩
  obtain ⟨o2, ho2⟩ : ∃ o : Int, ord (X2 : Int) (A : Int) = o := ⟨_, rfl⟩
  rw [ho1] at C41 z1
  rw [ho2] at C42 z2
  have D1 : Hid (∀ v w, X1 < P25 → Num w v X1 → Num w (.slice Aa Ac Ad) A → Calls Tryd.prog 15 #[v, .slice Aa Ac Ad] w fun e w' => e = .returned (.int .i64 o1) ∧ Below w.heap.size w w') := C41
  have D2 : Hid (∀ v w, X2 < P25 → Num w v X2 → Num w (.slice Aa Ac Ad) A → Calls Tryd.prog 15 #[v, .slice Aa Ac Ad] w fun e w' => e = .returned (.int .i64 o2) ∧ Below w.heap.size w w') := C42
  clear C41 C42 C4 ho1 ho2 hb
  by_cases h1 : X1 = A
  · rw [if_pos h1, if_pos h1]
    have o0 : o1 = 0 := z1.2 h1
    rw [o0] at D1
    clear z1 z2 h1 o0 C6 C7 C8 C9 D2 m2 m4
    go_enter Tryd.func73, Tryd.ntmps73
    go_wp2_with fail
    refine (pD_num _).mono ?_
    rintro e w1 ⟨v, rfl, hn, g⟩
    obtain ⟨Pa, Pc, Pd, rfl⟩ := hn.shape
    have P_1 : Hid (Num w1 (.slice Pa Pc Pd) (P25)) := hn
    have A_1 := hold (A_0.out.below g)
    have G_1 : Hid (Below w.heap.size w w1) := g
    clear A_0 hn g
    go_wp2_with fail
    refine calls_at (fun V => Num V (.slice Aa Ac Ad) (A) ∧ Num V (.slice Pa Pc Pd) (P25) ∧ Num V (.slice (some ⟨w1.heap.size, 0, none⟩) 1 1) 3 ∧ Below w.heap.size w V) ⟨A_1.out.below ((Below.refl _ _).alloc (Nat.le_refl _) _), P_1.out.below ((Below.refl _ _).alloc (Nat.le_refl _) _), num_lit w1 3 (by omega) (by omega), G_1.out.alloc G_1.out.size _⟩ ?_
    rintro w2 ⟨k0, k1, k2, hG⟩
    have A_2 : Hid (Num w2 (.slice Aa Ac Ad) (A)) := k0
    have P_2 : Hid (Num w2 (.slice Pa Pc Pd) (P25)) := k1
    have L_2 : Hid (Num w2 (.slice (some ⟨w1.heap.size, 0, none⟩) 1 1) 3) := k2
    have G_2 : Hid (Below w.heap.size w w2) := hG
    clear A_1 P_1 G_1 hG k0 k1 k2
    refine (add_num P25 3 _ _ _ P_2.out L_2.out 11 P25_lt11 (by decide +kernel) (by omega)).mono ?_
    rintro e w3 ⟨v, rfl, hn, g⟩
    obtain ⟨Sa, Sc, Sd, rfl⟩ := hn.shape
    have S_3 : Hid (Num w3 (.slice Sa Sc Sd) (P25 + 3)) := hn
    have A_3 := hold (A_2.out.below g)
    have P_3 := hold (P_2.out.below g)
    have G_3 := hold (G_2.out.trans (g.mono G_2.out.size))
    clear A_2 P_2 L_2 G_2 hn g
    go_wp2_with fail
    refine (C1.out _ _ S_3.out).mono ?_
    rintro e w4 ⟨v, rfl, hn, g⟩
    obtain ⟨Qa, Qc, Qd, rfl⟩ := hn.shape
    have Q_4 : Hid (Num w4 (.slice Qa Qc Qd) ((P25 + 3) / 8)) := hn
    have A_4 := hold (A_3.out.below g)
    have P_4 := hold (P_3.out.below g)
    have G_4 := hold (G_3.out.trans (g.mono G_3.out.size))
    clear A_3 P_3 S_3 G_3 hn g
    go_wp2_with fail
    refine (C2.out _ _ A_4.out Q_4.out).mono ?_
    rintro e w5 ⟨v, rfl, hn, g⟩
    obtain ⟨Xa, Xc, Xd, rfl⟩ := hn.shape
    have X_5 : Hid (Num w5 (.slice Xa Xc Xd) (r1)) := hn
    have A_5 := hold (A_4.out.below g)
    have P_5 := hold (P_4.out.below g)
    have G_5 := hold (G_4.out.trans (g.mono G_4.out.size))
    clear A_4 P_4 Q_4 G_4 hn g
    go_wp2_with fail
    refine (C3.out _ _ X_5.out).mono ?_
    rintro e w6 ⟨v, rfl, hn, g⟩
    obtain ⟨Ya, Yc, Yd, rfl⟩ := hn.shape
    have Y_6 : Hid (Num w6 (.slice Ya Yc Yd) (X1)) := hn
    have A_6 := hold (A_5.out.below g)
    have P_6 := hold (P_5.out.below g)
    have X_6 := hold (X_5.out.below g)
    have G_6 := hold (G_5.out.trans (g.mono G_5.out.size))
    clear A_5 P_5 X_5 G_5 hn g
    go_wp2_with fail
    refine (D1.out _ _ m1.out Y_6.out A_6.out).mono ?_
    rintro e w7 ⟨rfl, g⟩
    have A_7 := hold (A_6.out.below g)
    have P_7 := hold (P_6.out.below g)
    have X_7 := hold (X_6.out.below g)
    have G_7 := hold (G_6.out.trans (g.mono G_6.out.size))
    clear A_6 P_6 X_6 Y_6 G_6 g
    go_wp2_with fail
    refine (C5.out _ _ _ m3.out X_7.out).mono ?_
    rintro e w8 ⟨v, rfl, hn, g⟩
    obtain ⟨Ea, Ec, Ed, rfl⟩ := hn.shape
    have E_8 : Hid (Num w8 (.slice Ea Ec Ed) (evn r1)) := hn
    have A_8 := hold (A_7.out.below g)
    have P_8 := hold (P_7.out.below g)
    have X_8 := hold (X_7.out.below g)
    have G_8 := hold (G_7.out.trans (g.mono G_7.out.size))
    clear A_7 P_7 X_7 G_7 hn g
    go_wp2_with fail
    refine bodyPost_ret (results_tmp2 rfl _ _ _) rfl ?_
    exact ⟨_, rfl, E_8.out, G_8.out⟩
  · rw [if_neg h1, if_neg h1]
    have o0 : o1 ≠ 0 := fun h => h1 (z1.1 h)
    have o9 : o1 = 0 ↔ False := ⟨o0, False.elim⟩
    by_cases h2 : X2 = A
    · rw [if_pos h2, if_pos h2]
      have o5 : o2 = 0 := z2.2 h2
      rw [o5] at D2
      clear z1 z2 h1 h2 o5 o9
      go_enter Tryd.func73, Tryd.ntmps73
      go_wp2_with fail
      refine (pD_num _).mono ?_
      rintro e w1 ⟨v, rfl, hn, g⟩
      obtain ⟨Pa, Pc, Pd, rfl⟩ := hn.shape
      have P_1 : Hid (Num w1 (.slice Pa Pc Pd) (P25)) := hn
      have A_1 := hold (A_0.out.below g)
      have G_1 : Hid (Below w.heap.size w w1) := g
      clear A_0 hn g
      go_wp2_with fail
      refine calls_at (fun V => Num V (.slice Aa Ac Ad) (A) ∧ Num V (.slice Pa Pc Pd) (P25) ∧ Num V (.slice (some ⟨w1.heap.size, 0, none⟩) 1 1) 3 ∧ Below w.heap.size w V) ⟨A_1.out.below ((Below.refl _ _).alloc (Nat.le_refl _) _), P_1.out.below ((Below.refl _ _).alloc (Nat.le_refl _) _), num_lit w1 3 (by omega) (by omega), G_1.out.alloc G_1.out.size _⟩ ?_
      rintro w2 ⟨k0, k1, k2, hG⟩
      have A_2 : Hid (Num w2 (.slice Aa Ac Ad) (A)) := k0
      have P_2 : Hid (Num w2 (.slice Pa Pc Pd) (P25)) := k1
      have L_2 : Hid (Num w2 (.slice (some ⟨w1.heap.size, 0, none⟩) 1 1) 3) := k2
      have G_2 : Hid (Below w.heap.size w w2) := hG
      clear A_1 P_1 G_1 hG k0 k1 k2
      refine (add_num P25 3 _ _ _ P_2.out L_2.out 11 P25_lt11 (by decide +kernel) (by omega)).mono ?_
      rintro e w3 ⟨v, rfl, hn, g⟩
      obtain ⟨Sa, Sc, Sd, rfl⟩ := hn.shape
      have S_3 : Hid (Num w3 (.slice Sa Sc Sd) (P25 + 3)) := hn
      have A_3 := hold (A_2.out.below g)
      have P_3 := hold (P_2.out.below g)
      have G_3 := hold (G_2.out.trans (g.mono G_2.out.size))
      clear A_2 P_2 L_2 G_2 hn g
      go_wp2_with fail
      refine (C1.out _ _ S_3.out).mono ?_
      rintro e w4 ⟨v, rfl, hn, g⟩
      obtain ⟨Qa, Qc, Qd, rfl⟩ := hn.shape
      have Q_4 : Hid (Num w4 (.slice Qa Qc Qd) ((P25 + 3) / 8)) := hn
      have A_4 := hold (A_3.out.below g)
      have P_4 := hold (P_3.out.below g)
      have G_4 := hold (G_3.out.trans (g.mono G_3.out.size))
      clear A_3 P_3 S_3 G_3 hn g
      go_wp2_with fail
      refine (C2.out _ _ A_4.out Q_4.out).mono ?_
      rintro e w5 ⟨v, rfl, hn, g⟩
      obtain ⟨Xa, Xc, Xd, rfl⟩ := hn.shape
      have X_5 : Hid (Num w5 (.slice Xa Xc Xd) (r1)) := hn
      have A_5 := hold (A_4.out.below g)
      have P_5 := hold (P_4.out.below g)
      have G_5 := hold (G_4.out.trans (g.mono G_4.out.size))
      clear A_4 P_4 Q_4 G_4 hn g
      go_wp2_with fail
      refine (C3.out _ _ X_5.out).mono ?_
      rintro e w6 ⟨v, rfl, hn, g⟩
      obtain ⟨Ya, Yc, Yd, rfl⟩ := hn.shape
      have Y_6 : Hid (Num w6 (.slice Ya Yc Yd) (X1)) := hn
      have A_6 := hold (A_5.out.below g)
      have P_6 := hold (P_5.out.below g)
      have X_6 := hold (X_5.out.below g)
      have G_6 := hold (G_5.out.trans (g.mono G_5.out.size))
      clear A_5 P_5 X_5 G_5 hn g
      go_wp2_with fail
      refine (D1.out _ _ m1.out Y_6.out A_6.out).mono ?_
      rintro e w7 ⟨rfl, g⟩
      have A_7 := hold (A_6.out.below g)
      have P_7 := hold (P_6.out.below g)
      have X_7 := hold (X_6.out.below g)
      have G_7 := hold (G_6.out.trans (g.mono G_6.out.size))
      clear A_6 P_6 X_6 Y_6 G_6 g
      go_wp2_with fail
      have lit2 : Num ((w7.alloc (.cells #[.int .i64 2] 3)).alloc (.cells #[.int .i64 1] 3)) (.slice (some ⟨w7.heap.size + 1, 0, none⟩) 1 1) 1 := by have := num_lit (w7.alloc (.cells #[.int .i64 2] 3)) 1 (by omega) (by omega); simpa using this
      refine calls_at (fun V => Num V (.slice Aa Ac Ad) (A) ∧ Num V (.slice Pa Pc Pd) (P25) ∧ Num V (.slice Xa Xc Xd) (r1) ∧ Num V (.slice (some ⟨w7.heap.size, 0, none⟩) 1 1) 2 ∧ Num V (.slice (some ⟨w7.heap.size + 1, 0, none⟩) 1 1) 1 ∧ Below w.heap.size w V) ⟨A_7.out.below (((Below.refl _ _).alloc (Nat.le_refl _) _).alloc (by simp) _), P_7.out.below (((Below.refl _ _).alloc (Nat.le_refl _) _).alloc (by simp) _), X_7.out.below (((Below.refl _ _).alloc (Nat.le_refl _) _).alloc (by simp) _), (num_lit w7 2 (by omega) (by omega)).below ((Below.refl _ _).alloc (Nat.le_refl _) _), lit2, (G_7.out.alloc G_7.out.size _).alloc (by simp; have := G_7.out.size; omega) _⟩ ?_
      rintro w8 ⟨k0, k1, k2, k3, k4, hG⟩
      have A_8 : Hid (Num w8 (.slice Aa Ac Ad) (A)) := k0
      have P_8 : Hid (Num w8 (.slice Pa Pc Pd) (P25)) := k1
      have X_8 : Hid (Num w8 (.slice Xa Xc Xd) (r1)) := k2
      have L_8 : Hid (Num w8 (.slice (some ⟨w7.heap.size, 0, none⟩) 1 1) 2) := k3
      have M_8 : Hid (Num w8 (.slice (some ⟨w7.heap.size + 1, 0, none⟩) 1 1) 1) := k4
      have G_8 : Hid (Below w.heap.size w w8) := hG
      clear A_7 P_7 X_7 G_7 lit2 hG k0 k1 k2 k3 k4
      refine (sub_num P25 1 _ _ _ P_8.out M_8.out 22 P25_lt22 (by omega) (by decide +kernel)).mono ?_
      rintro e w9 ⟨v, rfl, hn, g⟩
      obtain ⟨Sa, Sc, Sd, rfl⟩ := hn.shape
      have S_9 : Hid (Num w9 (.slice Sa Sc Sd) (P25 - 1)) := hn
      have A_9 := hold (A_8.out.below g)
      have X_9 := hold (X_8.out.below g)
      have L_9 := hold (L_8.out.below g)
      have G_9 := hold (G_8.out.trans (g.mono G_8.out.size))
      clear A_8 P_8 X_8 L_8 M_8 G_8 hn g
      go_wp2_with fail
      refine (C6.out _ _ S_9.out).mono ?_
      rintro e w10 ⟨v, rfl, hn, g⟩
      obtain ⟨Qa, Qc, Qd, rfl⟩ := hn.shape
      have Q_10 : Hid (Num w10 (.slice Qa Qc Qd) ((P25 - 1) / 2 ^ 2)) := hn
      have A_10 := hold (A_9.out.below g)
      have X_10 := hold (X_9.out.below g)
      have L_10 := hold (L_9.out.below g)
      have G_10 := hold (G_9.out.trans (g.mono G_9.out.size))
      clear A_9 X_9 L_9 S_9 G_9 hn g
      go_wp2_with fail
      refine (C7.out _ _ _ L_10.out Q_10.out).mono ?_
      rintro e w11 ⟨v, rfl, hn, g⟩
      obtain ⟨Ia, Ic, Id, rfl⟩ := hn.shape
      have I_11 : Hid (Num w11 (.slice Ia Ic Id) (I25)) := hn
      have A_11 := hold (A_10.out.below g)
      have X_11 := hold (X_10.out.below g)
      have G_11 := hold (G_10.out.trans (g.mono G_10.out.size))
      clear A_10 X_10 L_10 Q_10 G_10 hn g
      go_wp2_with fail
      refine (C8.out _ _ _ X_11.out I_11.out).mono ?_
      rintro e w12 ⟨v, rfl, hn, g⟩
      obtain ⟨Za, Zc, Zd, rfl⟩ := hn.shape
      have Z_12 : Hid (Num w12 (.slice Za Zc Zd) (r2)) := hn
      have A_12 := hold (A_11.out.below g)
      have G_12 := hold (G_11.out.trans (g.mono G_11.out.size))
      clear A_11 X_11 I_11 G_11 hn g
      go_wp2_with fail
      refine (C9.out _ _ Z_12.out).mono ?_
      rintro e w13 ⟨v, rfl, hn, g⟩
      obtain ⟨Ya, Yc, Yd, rfl⟩ := hn.shape
      have Y_13 : Hid (Num w13 (.slice Ya Yc Yd) (X2)) := hn
      have A_13 := hold (A_12.out.below g)
      have Z_13 := hold (Z_12.out.below g)
      have G_13 := hold (G_12.out.trans (g.mono G_12.out.size))
      clear A_12 Z_12 G_12 hn g
      go_wp2_with fail
      refine (D2.out _ _ m2.out Y_13.out A_13.out).mono ?_
      rintro e w14 ⟨rfl, g⟩
      have A_14 := hold (A_13.out.below g)
      have Z_14 := hold (Z_13.out.below g)
      have G_14 := hold (G_13.out.trans (g.mono G_13.out.size))
      clear A_13 Z_13 Y_13 G_13 g
      go_wp2_with fail
      refine (C5.out _ _ _ m4.out Z_14.out).mono ?_
      rintro e w15 ⟨v, rfl, hn, g⟩
      obtain ⟨Ea, Ec, Ed, rfl⟩ := hn.shape
      have E_15 : Hid (Num w15 (.slice Ea Ec Ed) (evn r2)) := hn
      have A_15 := hold (A_14.out.below g)
      have Z_15 := hold (Z_14.out.below g)
      have G_15 := hold (G_14.out.trans (g.mono G_14.out.size))
      clear A_14 Z_14 G_14 hn g
      go_wp2_with fail
      refine bodyPost_ret (results_tmp2 rfl _ _ _) rfl ?_
      exact ⟨_, rfl, E_15.out, G_15.out⟩
    · rw [if_neg h2, if_neg h2]
      have o5 : o2 ≠ 0 := fun h => h2 (z2.1 h)
      clear z1 z2 h1 h2 o9
      go_enter Tryd.func73, Tryd.ntmps73
      go_wp2_with fail
      refine (pD_num _).mono ?_
      rintro e w1 ⟨v, rfl, hn, g⟩
      obtain ⟨Pa, Pc, Pd, rfl⟩ := hn.shape
      have P_1 : Hid (Num w1 (.slice Pa Pc Pd) (P25)) := hn
      have A_1 := hold (A_0.out.below g)
      have G_1 : Hid (Below w.heap.size w w1) := g
      clear A_0 hn g
      go_wp2_with fail
      refine calls_at (fun V => Num V (.slice Aa Ac Ad) (A) ∧ Num V (.slice Pa Pc Pd) (P25) ∧ Num V (.slice (some ⟨w1.heap.size, 0, none⟩) 1 1) 3 ∧ Below w.heap.size w V) ⟨A_1.out.below ((Below.refl _ _).alloc (Nat.le_refl _) _), P_1.out.below ((Below.refl _ _).alloc (Nat.le_refl _) _), num_lit w1 3 (by omega) (by omega), G_1.out.alloc G_1.out.size _⟩ ?_
      rintro w2 ⟨k0, k1, k2, hG⟩
      have A_2 : Hid (Num w2 (.slice Aa Ac Ad) (A)) := k0
      have P_2 : Hid (Num w2 (.slice Pa Pc Pd) (P25)) := k1
      have L_2 : Hid (Num w2 (.slice (some ⟨w1.heap.size, 0, none⟩) 1 1) 3) := k2
      have G_2 : Hid (Below w.heap.size w w2) := hG
      clear A_1 P_1 G_1 hG k0 k1 k2
      refine (add_num P25 3 _ _ _ P_2.out L_2.out 11 P25_lt11 (by decide +kernel) (by omega)).mono ?_
      rintro e w3 ⟨v, rfl, hn, g⟩
      obtain ⟨Sa, Sc, Sd, rfl⟩ := hn.shape
      have S_3 : Hid (Num w3 (.slice Sa Sc Sd) (P25 + 3)) := hn
      have A_3 := hold (A_2.out.below g)
      have P_3 := hold (P_2.out.below g)
      have G_3 := hold (G_2.out.trans (g.mono G_2.out.size))
      clear A_2 P_2 L_2 G_2 hn g
      go_wp2_with fail
      refine (C1.out _ _ S_3.out).mono ?_
      rintro e w4 ⟨v, rfl, hn, g⟩
      obtain ⟨Qa, Qc, Qd, rfl⟩ := hn.shape
      have Q_4 : Hid (Num w4 (.slice Qa Qc Qd) ((P25 + 3) / 8)) := hn
      have A_4 := hold (A_3.out.below g)
      have P_4 := hold (P_3.out.below g)
      have G_4 := hold (G_3.out.trans (g.mono G_3.out.size))
      clear A_3 P_3 S_3 G_3 hn g
      go_wp2_with fail
      refine (C2.out _ _ A_4.out Q_4.out).mono ?_
      rintro e w5 ⟨v, rfl, hn, g⟩
      obtain ⟨Xa, Xc, Xd, rfl⟩ := hn.shape
      have X_5 : Hid (Num w5 (.slice Xa Xc Xd) (r1)) := hn
      have A_5 := hold (A_4.out.below g)
      have P_5 := hold (P_4.out.below g)
      have G_5 := hold (G_4.out.trans (g.mono G_4.out.size))
      clear A_4 P_4 Q_4 G_4 hn g
      go_wp2_with fail
      refine (C3.out _ _ X_5.out).mono ?_
      rintro e w6 ⟨v, rfl, hn, g⟩
      obtain ⟨Ya, Yc, Yd, rfl⟩ := hn.shape
      have Y_6 : Hid (Num w6 (.slice Ya Yc Yd) (X1)) := hn
      have A_6 := hold (A_5.out.below g)
      have P_6 := hold (P_5.out.below g)
      have X_6 := hold (X_5.out.below g)
      have G_6 := hold (G_5.out.trans (g.mono G_5.out.size))
      clear A_5 P_5 X_5 G_5 hn g
      go_wp2_with fail
      refine (D1.out _ _ m1.out Y_6.out A_6.out).mono ?_
      rintro e w7 ⟨rfl, g⟩
      have A_7 := hold (A_6.out.below g)
      have P_7 := hold (P_6.out.below g)
      have X_7 := hold (X_6.out.below g)
      have G_7 := hold (G_6.out.trans (g.mono G_6.out.size))
      clear A_6 P_6 X_6 Y_6 G_6 g
      go_wp2_with fail
      have lit2 : Num ((w7.alloc (.cells #[.int .i64 2] 3)).alloc (.cells #[.int .i64 1] 3)) (.slice (some ⟨w7.heap.size + 1, 0, none⟩) 1 1) 1 := by have := num_lit (w7.alloc (.cells #[.int .i64 2] 3)) 1 (by omega) (by omega); simpa using this
      refine calls_at (fun V => Num V (.slice Aa Ac Ad) (A) ∧ Num V (.slice Pa Pc Pd) (P25) ∧ Num V (.slice Xa Xc Xd) (r1) ∧ Num V (.slice (some ⟨w7.heap.size, 0, none⟩) 1 1) 2 ∧ Num V (.slice (some ⟨w7.heap.size + 1, 0, none⟩) 1 1) 1 ∧ Below w.heap.size w V) ⟨A_7.out.below (((Below.refl _ _).alloc (Nat.le_refl _) _).alloc (by simp) _), P_7.out.below (((Below.refl _ _).alloc (Nat.le_refl _) _).alloc (by simp) _), X_7.out.below (((Below.refl _ _).alloc (Nat.le_refl _) _).alloc (by simp) _), (num_lit w7 2 (by omega) (by omega)).below ((Below.refl _ _).alloc (Nat.le_refl _) _), lit2, (G_7.out.alloc G_7.out.size _).alloc (by simp; have := G_7.out.size; omega) _⟩ ?_
      rintro w8 ⟨k0, k1, k2, k3, k4, hG⟩
      have A_8 : Hid (Num w8 (.slice Aa Ac Ad) (A)) := k0
      have P_8 : Hid (Num w8 (.slice Pa Pc Pd) (P25)) := k1
      have X_8 : Hid (Num w8 (.slice Xa Xc Xd) (r1)) := k2
      have L_8 : Hid (Num w8 (.slice (some ⟨w7.heap.size, 0, none⟩) 1 1) 2) := k3
      have M_8 : Hid (Num w8 (.slice (some ⟨w7.heap.size + 1, 0, none⟩) 1 1) 1) := k4
      have G_8 : Hid (Below w.heap.size w w8) := hG
      clear A_7 P_7 X_7 G_7 lit2 hG k0 k1 k2 k3 k4
      refine (sub_num P25 1 _ _ _ P_8.out M_8.out 22 P25_lt22 (by omega) (by decide +kernel)).mono ?_
      rintro e w9 ⟨v, rfl, hn, g⟩
      obtain ⟨Sa, Sc, Sd, rfl⟩ := hn.shape
      have S_9 : Hid (Num w9 (.slice Sa Sc Sd) (P25 - 1)) := hn
      have A_9 := hold (A_8.out.below g)
      have X_9 := hold (X_8.out.below g)
      have L_9 := hold (L_8.out.below g)
      have G_9 := hold (G_8.out.trans (g.mono G_8.out.size))
      clear A_8 P_8 X_8 L_8 M_8 G_8 hn g
      go_wp2_with fail
      refine (C6.out _ _ S_9.out).mono ?_
      rintro e w10 ⟨v, rfl, hn, g⟩
      obtain ⟨Qa, Qc, Qd, rfl⟩ := hn.shape
      have Q_10 : Hid (Num w10 (.slice Qa Qc Qd) ((P25 - 1) / 2 ^ 2)) := hn
      have A_10 := hold (A_9.out.below g)
      have X_10 := hold (X_9.out.below g)
      have L_10 := hold (L_9.out.below g)
      have G_10 := hold (G_9.out.trans (g.mono G_9.out.size))
      clear A_9 X_9 L_9 S_9 G_9 hn g
      go_wp2_with fail
      refine (C7.out _ _ _ L_10.out Q_10.out).mono ?_
      rintro e w11 ⟨v, rfl, hn, g⟩
      obtain ⟨Ia, Ic, Id, rfl⟩ := hn.shape
      have I_11 : Hid (Num w11 (.slice Ia Ic Id) (I25)) := hn
      have A_11 := hold (A_10.out.below g)
      have X_11 := hold (X_10.out.below g)
      have G_11 := hold (G_10.out.trans (g.mono G_10.out.size))
      clear A_10 X_10 L_10 Q_10 G_10 hn g
      go_wp2_with fail
      refine (C8.out _ _ _ X_11.out I_11.out).mono ?_
      rintro e w12 ⟨v, rfl, hn, g⟩
      obtain ⟨Za, Zc, Zd, rfl⟩ := hn.shape
      have Z_12 : Hid (Num w12 (.slice Za Zc Zd) (r2)) := hn
      have A_12 := hold (A_11.out.below g)
      have G_12 := hold (G_11.out.trans (g.mono G_11.out.size))
      clear A_11 X_11 I_11 G_11 hn g
      go_wp2_with fail
      refine (C9.out _ _ Z_12.out).mono ?_
      rintro e w13 ⟨v, rfl, hn, g⟩
      obtain ⟨Ya, Yc, Yd, rfl⟩ := hn.shape
      have Y_13 : Hid (Num w13 (.slice Ya Yc Yd) (X2)) := hn
      have A_13 := hold (A_12.out.below g)
      have Z_13 := hold (Z_12.out.below g)
      have G_13 := hold (G_12.out.trans (g.mono G_12.out.size))
      clear A_12 Z_12 G_12 hn g
      go_wp2_with fail
      refine (D2.out _ _ m2.out Y_13.out A_13.out).mono ?_
      rintro e w14 ⟨rfl, g⟩
      have A_14 := hold (A_13.out.below g)
      have Z_14 := hold (Z_13.out.below g)
      have G_14 := hold (G_13.out.trans (g.mono G_13.out.size))
      clear A_13 Z_13 Y_13 G_13 g
      go_wp2_with fail
      refine bodyPost_ret (results_tmp2 rfl _ _ _) rfl ?_
      exact ⟨_, rfl, num_none _, G_14.out⟩

set_option maxRecDepth 100000 in
set_option maxHeartbeats 2000000 in
theorem ratioD_num (U V : Nat) (vu vv : Value) (w : World) (hU : Num w vu U) (hV : Num w vv V) (hu : U < P25) (hv : V < P25) :
    Calls Tryd.prog 45 #[vu, vv] w fun e w' => ∃ v, e = .returned (.tuple #[v, .bool (ratOk U V)]) ∧ Num w' v (ratN U V) ∧ Below w.heap.size w w' := by
  have lu := num_len0 hU
  have lv := num_len0 hV
  obtain ⟨Ua, Uc, Ud, rfl⟩ := hU.shape
  have U_0 : Hid (Num w (.slice Ua Uc Ud) (U)) := hU
  clear hU
  obtain ⟨Va, Vc, Vd, rfl⟩ := hV.shape
  have V_0 : Hid (Num w (.slice Va Vc Vd) (V)) := hV
  clear hV
  have lu := lu _ _ _ rfl
  have lv := lv _ _ _ rfl
  have C1 : Hid (∀ w, Num w (.slice Va Vc Vd) V → Calls Tryd.prog 50 #[.slice Va Vc Vd] w fun e w' => ∃ v, e = .returned v ∧ Num w' v (V ^ (P25 - 2) % P25) ∧ Below w.heap.size w w') := fun w h => invD_num4 V _ w h (Nat.lt_trans hv P25_lt11)
  have C2 : Hid (∀ v w, Num w (.slice Ua Uc Ud) U → Num w v (V ^ (P25 - 2) % P25) → Calls Tryd.prog 44 #[.slice Ua Uc Ud, v] w fun e w' => ∃ v, e = .returned v ∧ Num w' v (U * (V ^ (P25 - 2) % P25) % P25) ∧ Below w.heap.size w w') := fun v w h h' => mulD_num _ _ _ v w h h' (Nat.lt_trans hu P25_lt11) (lt11_of_mod _)
  unfold ratOk ratN
  have m1 : Hid (U * (V ^ (P25 - 2) % P25) % P25 < P25) := Nat.mod_lt _ (by decide +kernel)
  generalize U * (V ^ (P25 - 2) % P25) % P25 = Q at *
  generalize V ^ (P25 - 2) % P25 = I at *
  clear hu hv
  by_cases h : V = 0 ∧ 0 < U
  · rw [if_pos h, if_pos h]
    have c1 : Vc = 0 := lv.1 h.1
    have c2 : (0 : Int) < (Uc : Int) := by have := lu.2; omega
    subst c1
    clear h lu lv C1 C2 m1
    go_enter Tryd.func45, Tryd.ntmps45
    go_wp2_with fail
    refine bodyPost_ret (results_tmp2 rfl _ _ _) rfl ?_
    exact ⟨_, rfl, num_none _, Below.refl _ _⟩
  · rw [if_neg h, if_neg h]
    have c : (Vc : Int) = 0 → ¬ (0 : Int) < (Uc : Int) := by
      intro h1 h2
      exact h ⟨lv.2 (by omega), by have := lu.1; omega⟩
    clear h lu lv
    by_cases c1 : Vc = 0
    · have c2 : ¬ (0 : Int) < (Uc : Int) := c (by omega)
      have c3 : (Vc : Int) = 0 := by omega
      clear c c1
      go_enter Tryd.func45, Tryd.ntmps45
      go_wp2_with fail
      refine (C1.out _ V_0.out).mono ?_
      rintro e w1 ⟨v, rfl, hn, g⟩
      obtain ⟨Ia, Ic, Id, rfl⟩ := hn.shape
      have I_1 : Hid (Num w1 (.slice Ia Ic Id) (I)) := hn
      have U_1 := hold (U_0.out.below g)
      have V_1 := hold (V_0.out.below g)
      have G_1 : Hid (Below w.heap.size w w1) := g
      clear U_0 V_0 hn g
      go_wp2_with fail
      refine (C2.out _ _ U_1.out I_1.out).mono ?_
      rintro e w2 ⟨v, rfl, hn, g⟩
      obtain ⟨Qa, Qc, Qd, rfl⟩ := hn.shape
      have Q_2 : Hid (Num w2 (.slice Qa Qc Qd) (Q)) := hn
      have U_2 := hold (U_1.out.below g)
      have V_2 := hold (V_1.out.below g)
      have G_2 := hold (G_1.out.trans (g.mono G_1.out.size))
      clear U_1 V_1 I_1 G_1 hn g
      go_wp2_with fail
      refine (rootD_num _ _ _ Q_2.out m1.out).mono ?_
      rintro e w3 ⟨v, rfl, hn, g⟩
      obtain ⟨Ea, Ec, Ed, rfl⟩ := hn.shape
      have E_3 : Hid (Num w3 (.slice Ea Ec Ed) (rootN Q)) := hn
      have G_3 := hold (G_2.out.trans (g.mono G_2.out.size))
      clear hn g
      go_wp2_with fail
      refine bodyPost_ret (results_tmp2 rfl _ _ _) rfl ?_
      exact ⟨_, rfl, E_3.out, G_3.out⟩
    · have c2 : ¬ (Vc : Int) = 0 := by omega
      clear c c1
      go_enter Tryd.func45, Tryd.ntmps45
      go_wp2_with fail
      refine (C1.out _ V_0.out).mono ?_
      rintro e w1 ⟨v, rfl, hn, g⟩
      obtain ⟨Ia, Ic, Id, rfl⟩ := hn.shape
      have I_1 : Hid (Num w1 (.slice Ia Ic Id) (I)) := hn
      have U_1 := hold (U_0.out.below g)
      have V_1 := hold (V_0.out.below g)
      have G_1 : Hid (Below w.heap.size w w1) := g
      clear U_0 V_0 hn g
      go_wp2_with fail
      refine (C2.out _ _ U_1.out I_1.out).mono ?_
      rintro e w2 ⟨v, rfl, hn, g⟩
      obtain ⟨Qa, Qc, Qd, rfl⟩ := hn.shape
      have Q_2 : Hid (Num w2 (.slice Qa Qc Qd) (Q)) := hn
      have U_2 := hold (U_1.out.below g)
      have V_2 := hold (V_1.out.below g)
      have G_2 := hold (G_1.out.trans (g.mono G_1.out.size))
      clear U_1 V_1 I_1 G_1 hn g
      go_wp2_with fail
      refine (rootD_num _ _ _ Q_2.out m1.out).mono ?_
      rintro e w3 ⟨v, rfl, hn, g⟩
      obtain ⟨Ea, Ec, Ed, rfl⟩ := hn.shape
      have E_3 : Hid (Num w3 (.slice Ea Ec Ed) (rootN Q)) := hn
      have G_3 := hold (G_2.out.trans (g.mono G_2.out.size))
      clear hn g
      go_wp2_with fail
      refine bodyPost_ret (results_tmp2 rfl _ _ _) rfl ?_
      exact ⟨_, rfl, E_3.out, G_3.out⟩


end Go.Proofs.YtkbiiolkekpkiaaDoor

/-
  Roots modulo 2^255 - 19: the root by a fraction's numerator and denominator is the document's. No program is spoken of here. Conditions: as each theorem says.
-/
namespace Go.Proofs.YtkbiiolkekpkiaaDoor
set_option linter.unusedVariables false

theorem P25_pos : 0 < P25 := by decide +kernel
theorem mod_mul_mod (a b p : Nat) : (a % p) * b % p = a * b % p := by rw [Nat.mul_mod, Nat.mod_mod, ← Nat.mul_mod]
theorem mul_mod_mod' (a b p : Nat) : a * (b % p) % p = a * b % p := by rw [Nat.mul_mod, Nat.mod_mod, ← Nat.mul_mod]
theorem mul_cong {a b c d p : Nat} (h1 : a % p = b % p) (h2 : c % p = d % p) : a * c % p = b * d % p := by rw [Nat.mul_mod, h1, h2, ← Nat.mul_mod]
theorem pow_cong {a b p : Nat} (h : a % p = b % p) (n : Nat) : a ^ n % p = b ^ n % p := by rw [Nat.pow_mod, h, ← Nat.pow_mod]
theorem neg_iff {p x y : Nat} (hx : x < p) (hy : y < p) : x = (p - y) % p ↔ (x + y) % p = 0 := by
  rcases Nat.eq_zero_or_pos y with rfl | h0
  · rw [Nat.sub_zero, Nat.mod_self, Nat.add_zero, Nat.mod_eq_of_lt hx]
  · rw [Nat.mod_eq_of_lt (show p - y < p by omega)]
    constructor
    · intro h
      rw [h, Nat.sub_add_cancel (by omega), Nat.mod_self]
    · intro h
      rcases Nat.lt_or_ge (x + y) p with h1 | h1
      · rw [Nat.mod_eq_of_lt h1] at h; omega
      · rw [Nat.mod_eq_sub_mod h1, Nat.mod_eq_of_lt (by omega)] at h; omega
theorem mul_minus_one {p s : Nat} (hp : 0 < p) (hs : s < p) : s * (p - 1) % p = (p - s) % p := by
  rcases Nat.eq_zero_or_pos s with rfl | h0
  · rw [Nat.zero_mul, Nat.sub_zero, Nat.mod_self, Nat.zero_mod]
  · have e : s * (p - 1) = (p - s) + p * (s - 1) := by
      obtain ⟨q, rfl⟩ : ∃ q, p = q + 1 := ⟨p - 1, by omega⟩
      obtain ⟨t, rfl⟩ : ∃ t, s = t + 1 := ⟨s - 1, by omega⟩
      rw [Nat.add_sub_cancel, Nat.add_sub_cancel, Nat.add_mul, Nat.add_mul, Nat.one_mul, Nat.one_mul, Nat.mul_comm]
      omega
    rw [e, Nat.add_mul_mod_self_left]

def nearK : Nat := 2 ^ 252 - 3
/-- What the program takes for a root, at first. -/
def nearN (U V : Nat) : Nat := U * V ^ 3 * (U * V ^ 7) ^ nearK % P25
theorem near_exp1 : nearK + 1 = (P25 + 3) / 8 := by decide +kernel
theorem near_exp2 : 8 * nearK + 4 = P25 - 1 := by decide +kernel
theorem near_poly (a V k : Nat) : (a * V) * V ^ 3 * ((a * V) * V ^ 7) ^ k = a ^ (k + 1) * V ^ (8 * k + 4) := by
  rw [Nat.mul_pow, Nat.mul_pow, ← Nat.pow_mul, Nat.pow_add V (8 * k) 4, Nat.pow_succ a k, show 8 * k = k + 7 * k by omega, Nat.pow_add V k (7 * k)]
  generalize a ^ k = x
  generalize V ^ k = y
  generalize V ^ (7 * k) = z
  grind
theorem frac_back {U V : Nat} (hU : U < P25) (hV : V % P25 ≠ 0) : (U * (V ^ (P25 - 2) % P25) % P25) * V % P25 = U := by
  have hf := fermat P25_prime hV
  rw [mod_mul_mod, Nat.mul_right_comm, mul_mod_mod', Nat.mul_assoc, ← Nat.pow_succ', show (P25 - 2).succ = P25 - 1 by decide +kernel, ← mul_mod_mod', hf, Nat.mul_one, Nat.mod_eq_of_lt hU]
theorem near_eq {U V : Nat} (hU : U < P25) (hV : V % P25 ≠ 0) : nearN U V = rt1 (U * (V ^ (P25 - 2) % P25) % P25) := by
  have hb := frac_back hU hV
  generalize U * (V ^ (P25 - 2) % P25) % P25 = a at hb
  have hU' : U % P25 = a * V % P25 := by rw [hb, Nat.mod_eq_of_lt hU]
  have key : ∀ k : Nat, U * V ^ 3 * (U * V ^ 7) ^ k % P25 = a ^ (k + 1) * V ^ (8 * k + 4) % P25 := by
    intro k
    rw [← near_poly]
    exact mul_cong (mul_cong hU' rfl) (pow_cong (mul_cong hU' rfl) k)
  unfold nearN rt1
  rw [key, near_exp1, near_exp2, ← mul_mod_mod', fermat P25_prime hV, Nat.mul_one]

/-- The program's root. -/
def codeOk (U V : Nat) : Bool := if nearN U V * nearN U V % P25 * V % P25 = U then true else if nearN U V * nearN U V % P25 * V % P25 = (P25 - U) % P25 then true else false
def codeN (U V : Nat) : Nat := if nearN U V * nearN U V % P25 * V % P25 = U then evn (nearN U V) else if nearN U V * nearN U V % P25 * V % P25 = (P25 - U) % P25 then evn (nearN U V * I25 % P25) else 0

theorem code_first {U V X a : Nat} (hU : U < P25) (hV : V % P25 ≠ 0) (ha : a < P25) (hb : a * V % P25 = U) : X * X % P25 * V % P25 = U ↔ X * X % P25 = a := by
  constructor
  · intro h
    have h1 : V * (X * X % P25) % P25 = V * a % P25 := by rw [Nat.mul_comm V, Nat.mul_comm V, h, hb]
    have h2 := P25_prime.cancel hV h1
    rwa [Nat.mod_mod, Nat.mod_eq_of_lt ha] at h2
  · intro h
    rw [h, hb]
theorem code_second {U V X a : Nat} (hU : U < P25) (hV : V % P25 ≠ 0) (ha : a < P25) (hb : a * V % P25 = U) : X * X % P25 * V % P25 = (P25 - U) % P25 ↔ (X * I25 % P25) * (X * I25 % P25) % P25 = a := by
  have hs : X * X % P25 < P25 := Nat.mod_lt _ P25_pos
  have e1 : (X * I25 % P25) * (X * I25 % P25) % P25 = (P25 - X * X % P25) % P25 := by
    rw [← Nat.mul_mod, show X * I25 * (X * I25) = (X * X) * (I25 * I25) by grind, Nat.mul_mod, I25_sq, mul_minus_one P25_pos hs]
  have e2 : (P25 - X * X % P25) % P25 = a ↔ (a + X * X % P25) % P25 = 0 := by
    rw [← neg_iff ha hs]
    exact eq_comm
  rw [e1, e2, neg_iff (Nat.mod_lt _ P25_pos) hU, ← hb, ← Nat.add_mod, ← Nat.add_mul]
  generalize X * X % P25 = s at *
  rw [Nat.add_comm s a]
  constructor
  · intro h
    apply Classical.byContradiction
    intro hn
    exact P25_prime.mul_ne hn hV h
  · intro h
    rw [Nat.mul_mod, h, Nat.zero_mul, Nat.zero_mod]

theorem near_zero (U : Nat) : nearN U 0 = 0 := by
  unfold nearN
  generalize nearK = k
  rw [show (0 : Nat) ^ 3 = 0 from rfl, Nat.mul_zero, Nat.zero_mul, Nat.zero_mod]
theorem rat_of {U V : Nat} (h : ¬ (V = 0 ∧ 0 < U)) : ratOk U V = rootOk (U * (V ^ (P25 - 2) % P25) % P25) ∧ ratN U V = rootN (U * (V ^ (P25 - 2) % P25) % P25) := by
  unfold ratOk ratN
  exact ⟨if_neg h, if_neg h⟩
theorem rat_no {U V : Nat} (h : V = 0 ∧ 0 < U) : ratOk U V = false ∧ ratN U V = 0 := by
  unfold ratOk ratN
  exact ⟨if_pos h, if_pos h⟩
theorem rt1_zero (a : Nat) (h : a = 0) : rt1 a = 0 := by
  have he : 0 < (P25 + 3) / 8 := by decide +kernel
  unfold rt1
  generalize (P25 + 3) / 8 = e at he
  rw [h, Nat.zero_pow he, Nat.zero_mod]
theorem root_zero (a : Nat) (h : a = 0) : rootOk a = true ∧ rootN a = 0 := by
  have h0 : rt1 a * rt1 a % P25 = a := by rw [rt1_zero a h, Nat.zero_mul, Nat.zero_mod, h]
  unfold rootOk rootN
  rw [if_pos h0, if_pos h0, rt1_zero a h]
  exact ⟨rfl, by unfold evn; rw [if_neg (by decide)]⟩
theorem code_zero : codeOk 0 0 = true ∧ codeN 0 0 = 0 := by
  have h0 : nearN 0 0 * nearN 0 0 % P25 * 0 % P25 = 0 := by rw [Nat.mul_zero, Nat.zero_mod]
  unfold codeOk codeN
  rw [if_pos h0, if_pos h0, near_zero]
  exact ⟨rfl, by unfold evn; rw [if_neg (by decide)]⟩
theorem code_none {U : Nat} (hU : U < P25) (h : 0 < U) : codeOk U 0 = false ∧ codeN U 0 = 0 := by
  have h1 : ¬ nearN U 0 * nearN U 0 % P25 * 0 % P25 = U := by rw [Nat.mul_zero, Nat.zero_mod]; omega
  have h2 : ¬ nearN U 0 * nearN U 0 % P25 * 0 % P25 = (P25 - U) % P25 := by rw [Nat.mul_zero, Nat.zero_mod, Nat.mod_eq_of_lt (show P25 - U < P25 by omega)]; omega
  unfold codeOk codeN
  rw [if_neg h1, if_neg h1, if_neg h2, if_neg h2]
  exact ⟨rfl, rfl⟩
theorem code_some {U V a : Nat} (hU : U < P25) (hV : V % P25 ≠ 0) (ha : a < P25) (hb : a * V % P25 = U) (hn : nearN U V = rt1 a) : codeOk U V = rootOk a ∧ codeN U V = rootN a := by
  have k1 := code_first (X := rt1 a) hU hV ha hb
  have k2 := code_second (X := rt1 a) hU hV ha hb
  unfold codeOk codeN rootOk rootN rt2
  rw [hn]
  by_cases h1 : rt1 a * rt1 a % P25 * V % P25 = U
  · rw [if_pos h1, if_pos h1, if_pos (k1.1 h1), if_pos (k1.1 h1)]
    exact ⟨rfl, rfl⟩
  · have h1' := fun h => h1 (k1.2 h)
    rw [if_neg h1, if_neg h1, if_neg h1', if_neg h1']
    by_cases h2 : rt1 a * rt1 a % P25 * V % P25 = (P25 - U) % P25
    · rw [if_pos h2, if_pos h2, if_pos (k2.1 h2), if_pos (k2.1 h2)]
      exact ⟨rfl, rfl⟩
    · have h2' := fun h => h2 (k2.2 h)
      rw [if_neg h2, if_neg h2, if_neg h2', if_neg h2']
      exact ⟨rfl, rfl⟩
theorem code_rat {U V : Nat} (hU : U < P25) (hV : V < P25) : codeOk U V = ratOk U V ∧ codeN U V = ratN U V := by
  rcases Nat.eq_zero_or_pos V with h0 | h0
  · subst h0
    rcases Nat.eq_zero_or_pos U with hu | hu
    · subst hu
      have h1 := rat_of (U := 0) (V := 0) (by omega)
      have h2 : ∀ y, 0 * y % P25 = 0 := fun y => by rw [Nat.zero_mul, Nat.zero_mod]
      have h3 := root_zero _ (h2 (0 ^ (P25 - 2) % P25))
      exact ⟨code_zero.1.trans (h1.1.trans h3.1).symm, code_zero.2.trans (h1.2.trans h3.2).symm⟩
    · have h1 := rat_no (U := U) (V := 0) ⟨rfl, hu⟩
      have h2 := code_none hU hu
      rw [h1.1, h1.2, h2.1, h2.2]
      exact ⟨rfl, rfl⟩
  · have hV' : V % P25 ≠ 0 := by rw [Nat.mod_eq_of_lt hV]; omega
    have h1 := rat_of (U := U) (V := V) (by omega)
    have h2 := code_some hU hV' (Nat.mod_lt _ P25_pos) (frac_back hU hV') (near_eq hU hV')
    rw [h1.1, h1.2, h2.1, h2.2]
    exact ⟨rfl, rfl⟩

end Go.Proofs.YtkbiiolkekpkiaaDoor
