/-
  The contracts of the document's own numbers of layer 4: 2^255 - 19, what is modulo it, products, sums, differences. Conditions: as each theorem says.
-/
import Derived.Test.YtnebpleplogfeaaDoorRefR
import Derived.Test.YtnebpleplogfeaaDoorFB
import Derived.Test.YtnebpleplogfeaaDoorP25
import Derived.Test.YtnebpleplogfeaaDoorNumU
namespace Go.Proofs.YtnebpleplogfeaaDoor
open Go.RowKit
set_option linter.unusedVariables false

theorem P25_lt11 : P25 < 16777216 ^ 11 := by decide +kernel
theorem P25_lt22 : P25 < 16777216 ^ 22 := by decide +kernel
theorem pow_lt22 : 2 ^ 255 < 16777216 ^ 22 := by decide +kernel
theorem num_lit (w : World) (d : Nat) (h0 : 0 < d) (h1 : d < 16777216) : Num (w.alloc (.cells #[.int .i64 (d : Int)] 3)) (.slice (some ⟨w.heap.size, 0, none⟩) 1 1) d :=
  ⟨[d], Sl.lit1 w d (d : Int) rfl, fun j => by rcases j with _ | j <;> simp [h1], Or.inr (by simp; omega), by simp [valD]⟩
theorem num_none (w : World) : Num w (.slice none 0 0) 0 := ⟨[], Sl.nil w, Dg.nil, Or.inl rfl, rfl⟩
set_option maxRecDepth 100000 in
set_option maxHeartbeats 2000000 in
theorem pD_num  (w : World) :
    Calls Tryd.prog 33 #[] w fun e w' => ∃ v, e = .returned v ∧ Num w' v (P25) ∧ Below w.heap.size w w' := by
  go_enter Tryd.func33, Tryd.ntmps33
  go_wp2_with fail
  refine (power_any 255 _ (by omega)).mono ?_
  rintro e w1 ⟨v, rfl, hn, g⟩
  obtain ⟨Aa, Ac, Ad, rfl⟩ := hn.shape
  have A_1 : Hid (Num w1 (.slice Aa Ac Ad) (2 ^ 255)) := hn
  have G_1 : Hid (Below w.heap.size w w1) := g
  clear  hn g
  go_wp2_with fail
  refine calls_at (fun V => Num V (.slice Aa Ac Ad) (2 ^ 255) ∧ Num V (.slice (some ⟨w1.heap.size, 0, none⟩) 1 1) 19 ∧ Below w.heap.size w V) ⟨A_1.out.below ((Below.refl _ _).alloc (Nat.le_refl _) _), num_lit w1 19 (by omega) (by omega), G_1.out.alloc G_1.out.size _⟩ ?_
  rintro w2 ⟨k0, k1, hG⟩
  have A_2 : Hid (Num w2 (.slice Aa Ac Ad) (2 ^ 255)) := k0
  have B_2 : Hid (Num w2 (.slice (some ⟨w1.heap.size, 0, none⟩) 1 1) 19) := k1
  have G_2 : Hid (Below w.heap.size w w2) := hG
  clear A_1 G_1 hG k0 k1
  refine (sub_num (2 ^ 255) 19 _ _ _ A_2.out B_2.out 22 pow_lt22 (by omega) (by decide +kernel)).mono ?_
  rintro e w3 ⟨v, rfl, hn, g⟩
  obtain ⟨Ca, Cc, Cd, rfl⟩ := hn.shape
  have C_3 : Hid (Num w3 (.slice Ca Cc Cd) (2 ^ 255 - 19)) := hn
  have G_3 : Hid (Below w.heap.size w w3) := G_2.out.trans (g.mono G_2.out.size)
  clear A_2 B_2 G_2 hn g
  have H : Hid (Num w3 (.slice Ca Cc Cd) P25) := by unfold Hid; rw [P25_pow]; exact C_3.out
  go_wp2_with fail
  go_ret
  exact ⟨_, rfl, H.out, G_3.out⟩

theorem reduce_step (B : Nat) : (B - B / 2 ^ 255 * 2 ^ 255 + B / 2 ^ 255 * 19) % P25 = B % P25 := by
  have e := Nat.div_add_mod B (2 ^ 255)
  have h : B = (B - B / 2 ^ 255 * 2 ^ 255 + B / 2 ^ 255 * 19) + P25 * (B / 2 ^ 255) := by
    have h2 : B / 2 ^ 255 * 2 ^ 255 ≤ B := Nat.div_mul_le_self _ _
    have h3 : B / 2 ^ 255 * 2 ^ 255 = B / 2 ^ 255 * 19 + P25 * (B / 2 ^ 255) := by
      rw [Nat.mul_comm P25, ← Nat.mul_add]
      congr 1
    omega
  conv => rhs; rw [h, Nat.add_mul_mod_self_left]
theorem reduce_less (B : Nat) (h : 2 ^ 255 ≤ B) : B - B / 2 ^ 255 * 2 ^ 255 + B / 2 ^ 255 * 19 < B := by
  have h1 : 0 < B / 2 ^ 255 := Nat.div_pos h (Nat.two_pow_pos 255)
  have h2 : B / 2 ^ 255 * 2 ^ 255 ≤ B := Nat.div_mul_le_self _ _
  have h3 : B / 2 ^ 255 * 19 < B / 2 ^ 255 * 2 ^ 255 := Nat.mul_lt_mul_of_pos_left (by decide +kernel) h1
  omega
theorem nbits_above (B : Nat) : 255 < nbits B ↔ 2 ^ 255 ≤ B := by
  constructor
  · intro h
    rcases Nat.lt_or_ge B (2 ^ 255) with h1 | h1
    · have := nbits_le B 255 h1; omega
    · exact h1
  · intro h
    rcases Nat.lt_or_ge 255 (nbits B) with h1 | h1
    · exact h1
    · have h2 : B < 2 ^ nbits B := by
        unfold nbits
        by_cases h0 : B = 0
        · rw [if_pos h0, h0]; decide
        · rw [if_neg h0]; exact Nat.lt_log2_self
      have h3 : 2 ^ nbits B ≤ 2 ^ 255 := Nat.pow_le_pow_right (by omega) h1
      omega
theorem reduce_last (B : Nat) (h : B < 2 ^ 255) (h1 : P25 ≤ B) : B - P25 = B % P25 := by
  rw [Nat.mod_eq_sub_mod h1, Nat.mod_eq_of_lt]
  have : 2 ^ 255 < P25 + P25 := by decide +kernel
  omega
set_option maxRecDepth 100000 in
set_option maxHeartbeats 2000000 in
theorem reduceD_num (A : Nat) (va : Value) (w : World) (hA : Num w va A) (hb : A < 16777216 ^ 22) :
    Calls Tryd.prog 43 #[va] w fun e w' => ∃ v, e = .returned v ∧ Num w' v (A % P25) ∧ Below w.heap.size w w' := by
  obtain ⟨Aa, Ac, Ad, rfl⟩ := hA.shape
  have A_0 : Hid (Num w (.slice Aa Ac Ad) (A)) := hA
  clear hA
  go_enter Tryd.func43, Tryd.ntmps43
  go_wp2_with fail
  refine (pD_num _).mono ?_
  rintro e w1 ⟨v, rfl, hn, g⟩
  obtain ⟨Pa, Pc, Pd, rfl⟩ := hn.shape
  have P_1 : Hid (Num w1 (.slice Pa Pc Pd) (P25)) := hn
  have A_1 : Hid (Num w1 (.slice Aa Ac Ad) (A)) := A_0.out.below g
  have G_1 : Hid (Below w.heap.size w w1) := g
  clear A_0 hn g
  go_wp2_with fail
  go_loopw [0] (fun v wr => ∃ B : Nat, Hid (Num wr v B) ∧ Hid (B % P25 = A % P25 ∧ B < 16777216 ^ 22) ∧ Hid (Num wr (.slice Pa Pc Pd) P25) ∧ Hid (Below w.heap.size w wr)) (fun v wr => Classical.epsilon (fun n => Num wr v n))
  case atStart => exact ⟨A, A_1, ⟨rfl, hb⟩, P_1, G_1⟩
  case round =>
    obtain ⟨B, hN, hB, hP, hG⟩ := hrel
    obtain ⟨ba, bc, bd, rfl⟩ := hN.out.shape
    have hE : Hid (Classical.epsilon (fun n => Num wr (.slice ba bc bd) n) = B) := num_eps hN.out
    clear A_1 P_1 G_1 hb
    obtain ⟨w1, hw1⟩ : ∃ w1, wr = w1 := ⟨_, rfl⟩
    subst hw1
    have HB22 : Hid (B < 16777216 ^ 22) := hB.out.2
    by_cases hlt : 2 ^ 255 ≤ B
    · have hn : (255 : Int) < (nbits B : Int) := by have := (nbits_above B).2 hlt; omega
      obtain ⟨n, hn'⟩ : ∃ n, nbits B = n := ⟨_, rfl⟩
      obtain ⟨C, hC⟩ : ∃ C, B / 2 ^ 255 = C := ⟨_, rfl⟩
      have hC22 : C < 16777216 ^ 22 := by rw [← hC]; exact Nat.lt_of_le_of_lt (Nat.div_le_self _ _) HB22.out
      have hCB : C * 2 ^ 255 ≤ B := by rw [← hC]; exact Nat.div_mul_le_self _ _
      have r1 := reduce_step B
      have r2 := reduce_less B hlt
      rw [hC] at r1 r2
      have C1 : Hid (∀ w, Num w (.slice ba bc bd) B → Calls Tryd.prog 64 #[.slice ba bc bd] w fun e w' => e = .returned (.int .i64 (n : Int)) ∧ Below w.heap.size w w') := by
        intro w h; have := bits_num B _ w h 22 HB22.out (by omega); rwa [hn'] at this
      have C2 : Hid (∀ w, Num w (.slice ba bc bd) B → Calls Tryd.prog 65 #[.slice ba bc bd, .int .i64 255] w fun e w' => ∃ v, e = .returned v ∧ Num w' v C ∧ Below w.heap.size w w') := by
        intro w h; have := down_num B _ 255 w h 22 HB22.out (by omega) (by omega); rwa [hC] at this
      have C3 : Hid (∀ v w, Num w v C → Calls Tryd.prog 41 #[v, .int .i64 255] w fun e w' => ∃ v, e = .returned v ∧ Num w' v (C * 2 ^ 255) ∧ Below w.heap.size w w') := fun v w h => shift_num C v 255 w h 22 hC22 (by omega) (by omega)
      have C5 : Hid (∀ v w, Num w v C → Calls Tryd.prog 61 #[v, .int .i64 19] w fun e w' => ∃ v, e = .returned v ∧ Num w' v (C * 19) ∧ Below w.heap.size w w') := fun v w h => small_num C v 19 w h 22 hC22 (by omega) (by omega)
      obtain ⟨S, hS⟩ : ∃ S, C * 2 ^ 255 = S := ⟨_, rfl⟩
      obtain ⟨T, hT⟩ : ∃ T, C * 19 = T := ⟨_, rfl⟩
      rw [hS] at C3 hCB r1 r2
      rw [hT] at C5 r1 r2
      have hBS : B - S < 16777216 ^ 22 := Nat.lt_of_le_of_lt (Nat.sub_le _ _) HB22.out
      have hT22 : T < 16777216 ^ 22 := by have := HB22.out; omega
      have C4 : Hid (∀ v w, Num w (.slice ba bc bd) B → Num w v S → Calls Tryd.prog 45 #[.slice ba bc bd, v] w fun e w' => ∃ v, e = .returned v ∧ Num w' v (B - S) ∧ Below w.heap.size w w') := fun v w h h' => sub_num B S _ v w h h' 22 HB22.out (by omega) hCB
      have C6 : Hid (∀ u v w, Num w u (B - S) → Num w v T → Calls Tryd.prog 40 #[u, v] w fun e w' => ∃ v, e = .returned v ∧ Num w' v (B - S + T) ∧ Below w.heap.size w w') := fun u v w h h' => add_num (B - S) T u v w h h' 22 hBS hT22 (by omega)
      have HR : Hid ((B - S + T) % P25 = A % P25 ∧ B - S + T < 16777216 ^ 22) := ⟨by rw [r1]; exact hB.out.1, by have := HB22.out; omega⟩
      have HL : Hid (B - S + T < B) := r2
      rw [hn'] at hn
      clear r1 r2 hS hT hC hn' hC22 hCB hlt hBS hT22 hB HB22
      have N_1 : Hid (Num wr (.slice ba bc bd) B) := hN
      have P_1 : Hid (Num wr (.slice Pa Pc Pd) P25) := hP
      have G_1 : Hid (Below w.heap.size w wr) := hG
      clear hN hP hG
      go_wp2_with fail
      refine (C1.out _ N_1.out).mono ?_
      rintro e w2 ⟨rfl, g⟩
      have N_2 : Hid (Num w2 (.slice ba bc bd) B) := N_1.out.below g
      have P_2 : Hid (Num w2 (.slice Pa Pc Pd) P25) := P_1.out.below g
      have G_2 : Hid (Below w.heap.size w w2) := G_1.out.trans (g.mono G_1.out.size)
      clear N_1 P_1 G_1 g
      go_wp2_with fail
      refine (C2.out _ N_2.out).mono ?_
      rintro e w3 ⟨v, rfl, hn, g⟩
      obtain ⟨Ca, Cc, Cd, rfl⟩ := hn.shape
      have C_3 : Hid (Num w3 (.slice Ca Cc Cd) (C)) := hn
      have N_3 : Hid (Num w3 (.slice ba bc bd) B) := N_2.out.below g
      have P_3 : Hid (Num w3 (.slice Pa Pc Pd) P25) := P_2.out.below g
      have G_3 : Hid (Below w.heap.size w w3) := G_2.out.trans (g.mono G_2.out.size)
      clear N_2 P_2 G_2 hn g
      go_wp2_with fail
      refine (C3.out _ _ C_3.out).mono ?_
      rintro e w4 ⟨v, rfl, hn, g⟩
      obtain ⟨Sa, Sc, Sd, rfl⟩ := hn.shape
      have S_4 : Hid (Num w4 (.slice Sa Sc Sd) (S)) := hn
      have N_4 : Hid (Num w4 (.slice ba bc bd) B) := N_3.out.below g
      have P_4 : Hid (Num w4 (.slice Pa Pc Pd) P25) := P_3.out.below g
      have C_4 : Hid (Num w4 (.slice Ca Cc Cd) (C)) := C_3.out.below g
      have G_4 : Hid (Below w.heap.size w w4) := G_3.out.trans (g.mono G_3.out.size)
      clear N_3 P_3 C_3 G_3 hn g
      go_wp2_with fail
      refine (C4.out _ _ N_4.out S_4.out).mono ?_
      rintro e w5 ⟨v, rfl, hn, g⟩
      obtain ⟨Ya, Yc, Yd, rfl⟩ := hn.shape
      have Y_5 : Hid (Num w5 (.slice Ya Yc Yd) (B - S)) := hn
      have P_5 : Hid (Num w5 (.slice Pa Pc Pd) P25) := P_4.out.below g
      have C_5 : Hid (Num w5 (.slice Ca Cc Cd) (C)) := C_4.out.below g
      have G_5 : Hid (Below w.heap.size w w5) := G_4.out.trans (g.mono G_4.out.size)
      clear N_4 P_4 C_4 S_4 G_4 hn g
      go_wp2_with fail
      refine (C5.out _ _ C_5.out).mono ?_
      rintro e w6 ⟨v, rfl, hn, g⟩
      obtain ⟨Ta, Tc, Td, rfl⟩ := hn.shape
      have T_6 : Hid (Num w6 (.slice Ta Tc Td) (T)) := hn
      have P_6 : Hid (Num w6 (.slice Pa Pc Pd) P25) := P_5.out.below g
      have Y_6 : Hid (Num w6 (.slice Ya Yc Yd) (B - S)) := Y_5.out.below g
      have G_6 : Hid (Below w.heap.size w w6) := G_5.out.trans (g.mono G_5.out.size)
      clear P_5 C_5 Y_5 G_5 hn g
      go_wp2_with fail
      refine (C6.out _ _ _ Y_6.out T_6.out).mono ?_
      rintro e w7 ⟨v, rfl, hn, g⟩
      obtain ⟨Za, Zc, Zd, rfl⟩ := hn.shape
      have Z_7 : Hid (Num w7 (.slice Za Zc Zd) (B - S + T)) := hn
      have P_7 : Hid (Num w7 (.slice Pa Pc Pd) P25) := P_6.out.below g
      have G_7 : Hid (Below w.heap.size w w7) := G_6.out.trans (g.mono G_6.out.size)
      clear P_6 Y_6 T_6 G_6 hn g
      go_wp2_with fail
      go_roundw
      case rel => exact ⟨_, Z_7, HR, P_7, G_7⟩
      case measure =>
        rw [num_eps Z_7.out, hE.out]
        exact HL.out
    · have hn : ¬ (255 : Int) < (nbits B : Int) := by have := (nbits_above B).1; omega
      obtain ⟨n, hn'⟩ : ∃ n, nbits B = n := ⟨_, rfl⟩
      have C1 : Hid (∀ w, Num w (.slice ba bc bd) B → Calls Tryd.prog 64 #[.slice ba bc bd] w fun e w' => e = .returned (.int .i64 (n : Int)) ∧ Below w.heap.size w w') := by
        intro w h; have := bits_num B _ w h 22 HB22.out (by omega); rwa [hn'] at this
      have C2 : Hid (∀ w, Num w (.slice ba bc bd) B → Num w (.slice Pa Pc Pd) P25 → Calls Tryd.prog 29 #[.slice ba bc bd, .slice Pa Pc Pd] w fun e w' => e = .returned (.int .i64 (ord (B : Int) (P25 : Int))) ∧ Below w.heap.size w w') := fun w h h' => cmp_num B P25 _ _ w h h' 22 HB22.out P25_lt22 (by omega)
      rw [hn'] at hn
      have N_1 : Hid (Num wr (.slice ba bc bd) B) := hN
      have P_1 : Hid (Num wr (.slice Pa Pc Pd) P25) := hP
      have G_1 : Hid (Below w.heap.size w wr) := hG
      clear hN hP hG hn' hE
      by_cases hge : P25 ≤ B
      · have C3 : Hid (∀ w, Num w (.slice ba bc bd) B → Num w (.slice Pa Pc Pd) P25 → Calls Tryd.prog 45 #[.slice ba bc bd, .slice Pa Pc Pd] w fun e w' => ∃ v, e = .returned v ∧ Num w' v (B - P25) ∧ Below w.heap.size w w') := fun w h h' => sub_num B P25 _ _ w h h' 22 HB22.out (by omega) hge
        have HE : Hid (∀ w v, Num w v (B - P25) → Num w v (A % P25)) := by intro w v h; rwa [reduce_last B (by omega) hge, hB.out.1] at h
        obtain ⟨x, hx⟩ : ∃ x : Int, ord (B : Int) (P25 : Int) = x := ⟨_, rfl⟩
        have hx0 : 0 ≤ x := by rw [← hx]; unfold ord; split <;> (try split) <;> omega
        rw [hx] at C2
        clear hx hge hlt hB HB22
        go_wp2_with fail
        refine (C1.out _ N_1.out).mono ?_
        rintro e w2 ⟨rfl, g⟩
        have N_2 : Hid (Num w2 (.slice ba bc bd) B) := N_1.out.below g
        have P_2 : Hid (Num w2 (.slice Pa Pc Pd) P25) := P_1.out.below g
        have G_2 : Hid (Below w.heap.size w w2) := G_1.out.trans (g.mono G_1.out.size)
        clear N_1 P_1 G_1 g
        go_wp2_with fail
        refine (C2.out _ N_2.out P_2.out).mono ?_
        rintro e w3 ⟨rfl, g⟩
        have N_3 : Hid (Num w3 (.slice ba bc bd) B) := N_2.out.below g
        have P_3 : Hid (Num w3 (.slice Pa Pc Pd) P25) := P_2.out.below g
        have G_3 : Hid (Below w.heap.size w w3) := G_2.out.trans (g.mono G_2.out.size)
        clear N_2 P_2 G_2 g
        go_wp2_with fail
        refine (C3.out _ N_3.out P_3.out).mono ?_
        rintro e w4 ⟨v, rfl, hn, g⟩
        obtain ⟨Ca, Cc, Cd, rfl⟩ := hn.shape
        have C_4 : Hid (Num w4 (.slice Ca Cc Cd) (B - P25)) := hn
        have N_4 : Hid (Num w4 (.slice ba bc bd) B) := N_3.out.below g
        have P_4 : Hid (Num w4 (.slice Pa Pc Pd) P25) := P_3.out.below g
        have G_4 : Hid (Below w.heap.size w w4) := G_3.out.trans (g.mono G_3.out.size)
        clear N_3 P_3 G_3 hn g
        go_wp2_with fail
        go_ret
        exact ⟨_, rfl, HE.out _ _ C_4.out, G_4.out⟩
      · have HE : Hid (∀ w v, Num w v B → Num w v (A % P25)) := by intro w v h; rwa [← hB.out.1, Nat.mod_eq_of_lt (by omega)]
        obtain ⟨x, hx⟩ : ∃ x : Int, ord (B : Int) (P25 : Int) = x := ⟨_, rfl⟩
        have hx0 : x < 0 := by rw [← hx]; unfold ord; split <;> (try split) <;> omega
        rw [hx] at C2
        clear hx hge hlt hB HB22
        go_wp2_with fail
        refine (C1.out _ N_1.out).mono ?_
        rintro e w2 ⟨rfl, g⟩
        have N_2 : Hid (Num w2 (.slice ba bc bd) B) := N_1.out.below g
        have P_2 : Hid (Num w2 (.slice Pa Pc Pd) P25) := P_1.out.below g
        have G_2 : Hid (Below w.heap.size w w2) := G_1.out.trans (g.mono G_1.out.size)
        clear N_1 P_1 G_1 g
        go_wp2_with fail
        refine (C2.out _ N_2.out P_2.out).mono ?_
        rintro e w3 ⟨rfl, g⟩
        have N_3 : Hid (Num w3 (.slice ba bc bd) B) := N_2.out.below g
        have P_3 : Hid (Num w3 (.slice Pa Pc Pd) P25) := P_2.out.below g
        have G_3 : Hid (Below w.heap.size w w3) := G_2.out.trans (g.mono G_2.out.size)
        clear N_2 P_2 G_2 g
        go_wp2_with fail
        go_ret
        exact ⟨_, rfl, HE.out _ _ N_3.out, G_3.out⟩

theorem prod22 {A B : Nat} (h1 : A < 16777216 ^ 11) (h2 : B < 16777216 ^ 11) : A * B < 16777216 ^ 22 := by
  rw [show (22 : Nat) = 11 + 11 from rfl, Nat.pow_add]; exact Nat.mul_lt_mul'' h1 h2
theorem sum22 {A B : Nat} (h1 : A < 16777216 ^ 11) (h2 : B < 16777216 ^ 11) : A + B < 16777216 ^ 22 := by
  have h3 : 16777216 ^ 11 + 16777216 ^ 11 ≤ 16777216 ^ 22 := by decide +kernel
  omega
set_option maxRecDepth 100000 in
set_option maxHeartbeats 2000000 in
theorem mulD_num (A B : Nat) (va vb : Value) (w : World) (hA : Num w va A) (hB : Num w vb B) (hA2 : A < 16777216 ^ 11) (hB2 : B < 16777216 ^ 11) :
    Calls Tryd.prog 18 #[va, vb] w fun e w' => ∃ v, e = .returned v ∧ Num w' v (A * B % P25) ∧ Below w.heap.size w w' := by
  obtain ⟨Aa, Ac, Ad, rfl⟩ := hA.shape
  have A_0 : Hid (Num w (.slice Aa Ac Ad) (A)) := hA
  clear hA
  obtain ⟨Ba, Bc, Bd, rfl⟩ := hB.shape
  have B_0 : Hid (Num w (.slice Ba Bc Bd) (B)) := hB
  clear hB
  have b1 : Hid (A * B < 16777216 ^ 22) := prod22 hA2 hB2
  have b2 : Hid (A < 16777216 ^ 11) := hA2
  have b3 : Hid (B < 16777216 ^ 11) := hB2
  clear hA2 hB2
  go_enter Tryd.func18, Tryd.ntmps18
  go_wp2_with fail
  refine (ref_mul_num A B _ _ _ A_0.out B_0.out 11 b2.out b3.out (by omega)).mono ?_
  rintro e w1 ⟨v, rfl, hn, g⟩
  obtain ⟨Ca, Cc, Cd, rfl⟩ := hn.shape
  have C_1 : Hid (Num w1 (.slice Ca Cc Cd) (A * B)) := hn
  have A_1 : Hid (Num w1 (.slice Aa Ac Ad) (A)) := A_0.out.below g
  have B_1 : Hid (Num w1 (.slice Ba Bc Bd) (B)) := B_0.out.below g
  have G_1 : Hid (Below w.heap.size w w1) := g
  clear A_0 B_0 hn g
  go_wp2_with fail
  refine (reduceD_num _ _ _ C_1.out b1.out).mono ?_
  rintro e w2 ⟨v, rfl, hn, g⟩
  obtain ⟨Ea, Ec, Ed, rfl⟩ := hn.shape
  have E_2 : Hid (Num w2 (.slice Ea Ec Ed) (A * B % P25)) := hn
  have A_2 : Hid (Num w2 (.slice Aa Ac Ad) (A)) := A_1.out.below g
  have B_2 : Hid (Num w2 (.slice Ba Bc Bd) (B)) := B_1.out.below g
  have C_2 : Hid (Num w2 (.slice Ca Cc Cd) (A * B)) := C_1.out.below g
  have G_2 : Hid (Below w.heap.size w w2) := G_1.out.trans (g.mono G_1.out.size)
  clear A_1 B_1 C_1 G_1 hn g
  go_wp2_with fail
  go_ret
  exact ⟨_, rfl, E_2.out, G_2.out⟩

set_option maxRecDepth 100000 in
set_option maxHeartbeats 2000000 in
theorem addD_num (A B : Nat) (va vb : Value) (w : World) (hA : Num w va A) (hB : Num w vb B) (hA2 : A < 16777216 ^ 11) (hB2 : B < 16777216 ^ 11) :
    Calls Tryd.prog 13 #[va, vb] w fun e w' => ∃ v, e = .returned v ∧ Num w' v ((A + B) % P25) ∧ Below w.heap.size w w' := by
  obtain ⟨Aa, Ac, Ad, rfl⟩ := hA.shape
  have A_0 : Hid (Num w (.slice Aa Ac Ad) (A)) := hA
  clear hA
  obtain ⟨Ba, Bc, Bd, rfl⟩ := hB.shape
  have B_0 : Hid (Num w (.slice Ba Bc Bd) (B)) := hB
  clear hB
  have b1 : Hid (A + B < 16777216 ^ 22) := sum22 hA2 hB2
  have b2 : Hid (A < 16777216 ^ 11) := hA2
  have b3 : Hid (B < 16777216 ^ 11) := hB2
  clear hA2 hB2
  go_enter Tryd.func13, Tryd.ntmps13
  go_wp2_with fail
  refine (add_num A B _ _ _ A_0.out B_0.out 11 b2.out b3.out (by omega)).mono ?_
  rintro e w1 ⟨v, rfl, hn, g⟩
  obtain ⟨Ca, Cc, Cd, rfl⟩ := hn.shape
  have C_1 : Hid (Num w1 (.slice Ca Cc Cd) (A + B)) := hn
  have A_1 : Hid (Num w1 (.slice Aa Ac Ad) (A)) := A_0.out.below g
  have B_1 : Hid (Num w1 (.slice Ba Bc Bd) (B)) := B_0.out.below g
  have G_1 : Hid (Below w.heap.size w w1) := g
  clear A_0 B_0 hn g
  go_wp2_with fail
  refine (reduceD_num _ _ _ C_1.out b1.out).mono ?_
  rintro e w2 ⟨v, rfl, hn, g⟩
  obtain ⟨Ea, Ec, Ed, rfl⟩ := hn.shape
  have E_2 : Hid (Num w2 (.slice Ea Ec Ed) ((A + B) % P25)) := hn
  have A_2 : Hid (Num w2 (.slice Aa Ac Ad) (A)) := A_1.out.below g
  have B_2 : Hid (Num w2 (.slice Ba Bc Bd) (B)) := B_1.out.below g
  have C_2 : Hid (Num w2 (.slice Ca Cc Cd) (A + B)) := C_1.out.below g
  have G_2 : Hid (Below w.heap.size w w2) := G_1.out.trans (g.mono G_1.out.size)
  clear A_1 B_1 C_1 G_1 hn g
  go_wp2_with fail
  go_ret
  exact ⟨_, rfl, E_2.out, G_2.out⟩

set_option maxRecDepth 100000 in
set_option maxHeartbeats 2000000 in
theorem subD_num (A B : Nat) (va vb : Value) (w : World) (hA : Num w va A) (hB : Num w vb B) (hA2 : A < 16777216 ^ 11) (hB2 : B ≤ A + P25) :
    Calls Tryd.prog 15 #[va, vb] w fun e w' => ∃ v, e = .returned v ∧ Num w' v ((A + P25 - B) % P25) ∧ Below w.heap.size w w' := by
  obtain ⟨Aa, Ac, Ad, rfl⟩ := hA.shape
  have A_0 : Hid (Num w (.slice Aa Ac Ad) (A)) := hA
  clear hA
  obtain ⟨Ba, Bc, Bd, rfl⟩ := hB.shape
  have B_0 : Hid (Num w (.slice Ba Bc Bd) (B)) := hB
  clear hB
  have b1 : Hid (A + P25 - B < 16777216 ^ 22) := Nat.lt_of_le_of_lt (Nat.sub_le _ _) (sum22 hA2 P25_lt11)
  have b2 : Hid (A < 16777216 ^ 11) := hA2
  have b3 : Hid (B ≤ A + P25) := hB2
  have b4 : Hid (A + P25 < 16777216 ^ 22) := sum22 hA2 P25_lt11
  clear hA2 hB2
  go_enter Tryd.func15, Tryd.ntmps15
  go_wp2_with fail
  refine (pD_num _).mono ?_
  rintro e w1 ⟨v, rfl, hn, g⟩
  obtain ⟨Pa, Pc, Pd, rfl⟩ := hn.shape
  have P_1 : Hid (Num w1 (.slice Pa Pc Pd) (P25)) := hn
  have A_1 : Hid (Num w1 (.slice Aa Ac Ad) (A)) := A_0.out.below g
  have B_1 : Hid (Num w1 (.slice Ba Bc Bd) (B)) := B_0.out.below g
  have G_1 : Hid (Below w.heap.size w w1) := g
  clear A_0 B_0 hn g
  go_wp2_with fail
  refine (add_num A P25 _ _ _ A_1.out P_1.out 11 b2.out P25_lt11 (by omega)).mono ?_
  rintro e w2 ⟨v, rfl, hn, g⟩
  obtain ⟨Ca, Cc, Cd, rfl⟩ := hn.shape
  have C_2 : Hid (Num w2 (.slice Ca Cc Cd) (A + P25)) := hn
  have A_2 : Hid (Num w2 (.slice Aa Ac Ad) (A)) := A_1.out.below g
  have B_2 : Hid (Num w2 (.slice Ba Bc Bd) (B)) := B_1.out.below g
  have P_2 : Hid (Num w2 (.slice Pa Pc Pd) (P25)) := P_1.out.below g
  have G_2 : Hid (Below w.heap.size w w2) := G_1.out.trans (g.mono G_1.out.size)
  clear A_1 B_1 P_1 G_1 hn g
  go_wp2_with fail
  refine (sub_num (A + P25) B _ _ _ C_2.out B_2.out 22 b4.out (by omega) b3.out).mono ?_
  rintro e w3 ⟨v, rfl, hn, g⟩
  obtain ⟨Sa, Sc, Sd, rfl⟩ := hn.shape
  have S_3 : Hid (Num w3 (.slice Sa Sc Sd) (A + P25 - B)) := hn
  have A_3 : Hid (Num w3 (.slice Aa Ac Ad) (A)) := A_2.out.below g
  have B_3 : Hid (Num w3 (.slice Ba Bc Bd) (B)) := B_2.out.below g
  have P_3 : Hid (Num w3 (.slice Pa Pc Pd) (P25)) := P_2.out.below g
  have C_3 : Hid (Num w3 (.slice Ca Cc Cd) (A + P25)) := C_2.out.below g
  have G_3 : Hid (Below w.heap.size w w3) := G_2.out.trans (g.mono G_2.out.size)
  clear A_2 B_2 P_2 C_2 G_2 hn g
  go_wp2_with fail
  refine (reduceD_num _ _ _ S_3.out b1.out).mono ?_
  rintro e w4 ⟨v, rfl, hn, g⟩
  obtain ⟨Ea, Ec, Ed, rfl⟩ := hn.shape
  have E_4 : Hid (Num w4 (.slice Ea Ec Ed) ((A + P25 - B) % P25)) := hn
  have A_4 : Hid (Num w4 (.slice Aa Ac Ad) (A)) := A_3.out.below g
  have B_4 : Hid (Num w4 (.slice Ba Bc Bd) (B)) := B_3.out.below g
  have P_4 : Hid (Num w4 (.slice Pa Pc Pd) (P25)) := P_3.out.below g
  have C_4 : Hid (Num w4 (.slice Ca Cc Cd) (A + P25)) := C_3.out.below g
  have S_4 : Hid (Num w4 (.slice Sa Sc Sd) (A + P25 - B)) := S_3.out.below g
  have G_4 : Hid (Below w.heap.size w w4) := G_3.out.trans (g.mono G_3.out.size)
  clear A_3 B_3 P_3 C_3 S_3 G_3 hn g
  go_wp2_with fail
  go_ret
  exact ⟨_, rfl, E_4.out, G_4.out⟩


end Go.Proofs.YtnebpleplogfeaaDoor
