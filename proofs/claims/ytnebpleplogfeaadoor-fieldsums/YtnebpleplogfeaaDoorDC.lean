/-
  The contracts of the document's own powers, roots and ratios of layer 4. Conditions: as each theorem says.
-/
import Derived.Test.YtnebpleplogfeaaDoorDA
namespace Go.Proofs.YtnebpleplogfeaaDoor
open Go.RowKit
set_option linter.unusedVariables false

theorem half_up4 (E i : Nat) : E / 2 ^ i = 2 * (E / 2 ^ (i + 1)) + E / 2 ^ i % 2 := by
  rw [Nat.pow_succ, ← Nat.div_div_eq_div_mul]; omega
theorem nbits_lt4 (x : Nat) : x < 2 ^ nbits x := by
  unfold nbits
  by_cases h : x = 0
  · rw [if_pos h, h]; decide
  · rw [if_neg h]; exact Nat.lt_log2_self
theorem nbits_le4 (E : Nat) (h : E < 2 ^ 256) : nbits E ≤ 256 := nbits_le E 256 h
theorem pow_sq4 (A t M : Nat) : (A ^ t % M) * (A ^ t % M) % M = A ^ (2 * t) % M := by
  rw [← Nat.mul_mod, ← Nat.pow_add, show t + t = 2 * t by omega]
theorem pow_more4 (A t M : Nat) : (A ^ t % M) * A % M = A ^ (t + 1) % M := by
  rw [Nat.pow_succ, Nat.mul_mod, Nat.mod_mod, ← Nat.mul_mod]
theorem lt11_of_mod (x : Nat) : x % P25 < 16777216 ^ 11 := Nat.lt_trans (Nat.mod_lt _ (by decide +kernel)) P25_lt11

set_option maxRecDepth 100000 in
set_option maxHeartbeats 2000000 in
theorem expD_num4 (A E : Nat) (va ve : Value) (w : World) (hA : Num w va A) (hE : Num w ve E) (hA1 : A < 16777216 ^ 11) (hE1 : E < 2 ^ 256) :
    Calls Tryd.prog 52 #[va, ve] w fun e w' => ∃ v, e = .returned v ∧ Num w' v (A ^ E % P25) ∧ Below w.heap.size w w' := by
  obtain ⟨xa, xc, xd, rfl⟩ := hA.shape
  obtain ⟨ya, yc, yd, rfl⟩ := hE.shape
  have hE11 : E < 16777216 ^ 11 := Nat.lt_trans hE1 (by decide +kernel)
  have CB : Hid (∀ w, Num w (.slice ya yc yd) E → Calls Tryd.prog 64 #[.slice ya yc yd] w fun e w' => e = .returned (.int .i64 (nbits E : Int)) ∧ Below w.heap.size w w') := fun w h => bits_num E _ w h 11 hE11 (by omega)
  have CS : Hid (∀ v (x : Value) w, Num w x (A ^ v % P25) → Calls Tryd.prog 18 #[x, x] w fun e w' => ∃ r, e = .returned r ∧ Num w' r (A ^ (2 * v) % P25) ∧ Below w.heap.size w w') := by
    intro v x w h
    have := mulD_num _ _ x x w h h (lt11_of_mod _) (lt11_of_mod _)
    rwa [pow_sq4] at this
  have CT : Hid (∀ v (x : Value) w, Num w x (A ^ v % P25) → Num w (.slice xa xc xd) A → Calls Tryd.prog 18 #[x, .slice xa xc xd] w fun e w' => ∃ r, e = .returned r ∧ Num w' r (A ^ (v + 1) % P25) ∧ Below w.heap.size w w') := by
    intro v x w h h'
    have := mulD_num _ A x _ w h h' (lt11_of_mod _) hA1
    rwa [pow_more4] at this
  have CI : Hid (∀ (i : Nat) w, i ≤ 264 → Num w (.slice ya yc yd) E → Calls Tryd.prog 56 #[.slice ya yc yd, .int .i64 (i : Int)] w fun e w' => e = .returned (.int .i64 ((E / 2 ^ i % 2 : Nat) : Int)) ∧ Below w.heap.size w w') := fun i w hi h => bit_num E _ i w h 11 hE11 (by omega) (by omega)
  have hnb := nbits_le4 E hE1
  have HN := nbits_lt4 E
  obtain ⟨nb, hNB⟩ : ∃ nb, nbits E = nb := ⟨_, rfl⟩
  rw [hNB] at hnb CB HN
  have HNB : Hid (E < 2 ^ nb) := HN
  have hnb' : (nb : Int) ≤ 256 := by omega
  have O0 : Hid (Num (w.alloc (.cells #[.int .i64 1] 3)) (.slice (some ⟨w.heap.size, 0, none⟩) 1 1) (A ^ 0 % P25)) := by
    have h := num_lit w 1 (by omega) (by omega)
    unfold Hid
    rw [Nat.pow_zero, Nat.mod_eq_of_lt (by decide +kernel)]
    exact h
  have A0 : Hid (Num (w.alloc (.cells #[.int .i64 1] 3)) (.slice xa xc xd) A) := hA.below ((Below.refl _ _).alloc (Nat.le_refl _) _)
  have Y0 : Hid (Num (w.alloc (.cells #[.int .i64 1] 3)) (.slice ya yc yd) E) := hE.below ((Below.refl _ _).alloc (Nat.le_refl _) _)
  have G0 : Hid (Below w.heap.size w (w.alloc (.cells #[.int .i64 1] 3))) := (Below.refl _ _).alloc (Nat.le_refl _) _
  clear hA hE hA1 hE1 hE11 HN hNB
  go_enter Tryd.func52, Tryd.ntmps52
  go_wp2_with fail
  refine (CB.out _ Y0.out).mono ?_
  rintro e w2 ⟨rfl, g2⟩
  have R2 : Hid (Num w2 (.slice (some ⟨w.heap.size, 0, none⟩) 1 1) (A ^ 0 % P25)) := O0.out.below g2
  have A2 : Hid (Num w2 (.slice xa xc xd) A) := A0.out.below g2
  have Y2 : Hid (Num w2 (.slice ya yc yd) E) := Y0.out.below g2
  have G2 : Hid (Below w.heap.size w w2) := G0.out.trans (g2.mono G0.out.size)
  clear g2 O0 A0 Y0 G0
  go_wp2_with fail
  go_loopw [5, 6] (fun v y wr => ∃ k : Nat, k ≤ nb ∧ y = .int .i64 ((nb : Int) - 1 - (k : Int)) ∧ Hid (Num wr v (A ^ (E / 2 ^ (nb - k)) % P25)) ∧ Hid (Num wr (.slice xa xc xd) A) ∧ Hid (Num wr (.slice ya yc yd) E) ∧ Hid (Below w.heap.size w wr)) (fun _ y _ => (intOf y + 1).toNat)
  case atStart => exact ⟨0, by omega, by go_num, by rw [Nat.sub_zero, Nat.div_eq_of_lt HNB.out]; exact R2, A2, Y2, G2⟩
  case round =>
    obtain ⟨k, hk, rfl, hR, hA, hY, hG⟩ := hrel
    clear R2 A2 Y2 G2
    obtain ⟨w3, hw3⟩ : ∃ w3, wr = w3 := ⟨_, rfl⟩
    subst hw3
    obtain ⟨za, zc, zd, rfl⟩ := hR.out.shape
    by_cases hlt : k < nb
    · obtain ⟨i, hi⟩ : ∃ i : Nat, (nb : Int) - 1 - (k : Int) = (i : Int) := ⟨nb - 1 - k, by omega⟩
      have Hi : Hid ((nb : Int) - 1 - (k : Int) = (i : Int)) := hi
      have hi3 : i ≤ 264 := by omega
      have e1 : nb - k = i + 1 := by omega
      have e2 : nb - (k + 1) = i := by omega
      rw [e1] at hR
      have HE : Hid (E / 2 ^ i = 2 * (E / 2 ^ (i + 1)) + E / 2 ^ i % 2) := half_up4 E i
      obtain ⟨t, ht⟩ : ∃ t, E / 2 ^ (i + 1) = t := ⟨_, rfl⟩
      obtain ⟨z, hz⟩ : ∃ z, E / 2 ^ i % 2 = z := ⟨_, rfl⟩
      have hz1 : z = 0 ∨ z = 1 := by omega
      rw [ht, hz] at HE
      rw [ht] at hR
      have CI' : Hid (∀ w, Num w (.slice ya yc yd) E → Calls Tryd.prog 56 #[.slice ya yc yd, .int .i64 (i : Int)] w fun e w' => e = .returned (.int .i64 (z : Int)) ∧ Below w.heap.size w w') := by
        intro w h; have := CI.out i w hi3 h; rwa [hz] at this
      have HE2 : Hid (E / 2 ^ (nb - (k + 1)) = 2 * t + z) := by unfold Hid; rw [e2]; exact HE.out
      have hi0 : (0 : Int) ≤ (i : Int) := by omega
      rw [hi]
      clear hi e1 e2 ht hz HE
      go_wp2_with fail
      refine (CS.out t _ _ hR.out).mono ?_
      rintro e w4 ⟨v4, rfl, h4, g4⟩
      obtain ⟨qa, qc, qd, rfl⟩ := h4.shape
      have R4 : Hid (Num w4 (.slice qa qc qd) (A ^ (2 * t) % P25)) := h4
      have A4 : Hid (Num w4 (.slice xa xc xd) A) := hA.out.below g4
      have Y4 : Hid (Num w4 (.slice ya yc yd) E) := hY.out.below g4
      have G4 : Hid (Below w.heap.size w w4) := hG.out.trans (g4.mono hG.out.size)
      clear h4 g4 hR hA hY hG
      go_wp2_with fail
      refine (CI'.out _ Y4.out).mono ?_
      rintro e w5 ⟨rfl, g5⟩
      have R5 : Hid (Num w5 (.slice qa qc qd) (A ^ (2 * t) % P25)) := R4.out.below g5
      have A5 : Hid (Num w5 (.slice xa xc xd) A) := A4.out.below g5
      have Y5 : Hid (Num w5 (.slice ya yc yd) E) := Y4.out.below g5
      have G5 : Hid (Below w.heap.size w w5) := G4.out.trans (g5.mono G4.out.size)
      clear g5 R4 A4 Y4 G4
      rcases hz1 with rfl | rfl
      · have F : Hid (Num w5 (.slice qa qc qd) (A ^ (E / 2 ^ (nb - (k + 1))) % P25)) := by unfold Hid; rw [HE2.out, Nat.add_zero]; exact R5.out
        clear HE2 R5
        go_wp2_with fail
        go_roundw
        case rel => exact ⟨k + 1, by omega, by have := Hi.out; go_num, F, A5, Y5, G5⟩
        case measure => simp [intOf]
      · go_wp2_with fail
        refine (CT.out (2 * t) _ _ R5.out A5.out).mono ?_
        rintro e w6 ⟨v6, rfl, h6, g6⟩
        have F : Hid (Num w6 v6 (A ^ (E / 2 ^ (nb - (k + 1))) % P25)) := by unfold Hid; rw [HE2.out]; exact h6
        have A6 : Hid (Num w6 (.slice xa xc xd) A) := A5.out.below g6
        have Y6 : Hid (Num w6 (.slice ya yc yd) E) := Y5.out.below g6
        have G6 : Hid (Below w.heap.size w w6) := G5.out.trans (g6.mono G5.out.size)
        clear h6 g6 HE2 R5 A5 Y5 G5
        go_wp2_with fail
        go_roundw
        case rel => exact ⟨k + 1, by omega, by have := Hi.out; go_num, F, A6, Y6, G6⟩
        case measure => simp [intOf]
    · obtain rfl : k = nb := by omega
      have hm1 : (k : Int) - 1 - (k : Int) = -1 := by omega
      rw [hm1]
      rw [Nat.sub_self, Nat.pow_zero, Nat.div_one] at hR
      go_wp2_with fail
      go_ret
      exact ⟨_, rfl, hR.out, hG.out⟩

set_option maxRecDepth 100000 in
set_option maxHeartbeats 2000000 in
theorem invD_num4 (A : Nat) (va : Value) (w : World) (hA : Num w va A) (hb : A < 16777216 ^ 11) :
    Calls Tryd.prog 23 #[va] w fun e w' => ∃ v, e = .returned v ∧ Num w' v (A ^ (P25 - 2) % P25) ∧ Below w.heap.size w w' := by
  obtain ⟨Aa, Ac, Ad, rfl⟩ := hA.shape
  have A_0 : Hid (Num w (.slice Aa Ac Ad) (A)) := hA
  clear hA
  have b1 : Hid (A < 16777216 ^ 11) := hb
  clear hb
  go_enter Tryd.func23, Tryd.ntmps23
  go_wp2_with fail
  refine (pD_num _).mono ?_
  rintro e w1 ⟨v, rfl, hn, g⟩
  obtain ⟨Pa, Pc, Pd, rfl⟩ := hn.shape
  have P_1 : Hid (Num w1 (.slice Pa Pc Pd) (P25)) := hn
  have A_1 : Hid (Num w1 (.slice Aa Ac Ad) (A)) := A_0.out.below g
  have G_1 : Hid (Below w.heap.size w w1) := g
  clear A_0 hn g
  go_wp2_with fail
  refine calls_at (fun V => Num V (.slice Aa Ac Ad) (A) ∧ Num V (.slice Pa Pc Pd) (P25) ∧ Num V (.slice (some ⟨w1.heap.size, 0, none⟩) 1 1) 2 ∧ Below w.heap.size w V) ⟨A_1.out.below ((Below.refl _ _).alloc (Nat.le_refl _) _), P_1.out.below ((Below.refl _ _).alloc (Nat.le_refl _) _), num_lit w1 2 (by omega) (by omega), G_1.out.alloc G_1.out.size _⟩ ?_
  rintro w2 ⟨k0, k1, k2, hG⟩
  have A_2 : Hid (Num w2 (.slice Aa Ac Ad) (A)) := k0
  have P_2 : Hid (Num w2 (.slice Pa Pc Pd) (P25)) := k1
  have B_2 : Hid (Num w2 (.slice (some ⟨w1.heap.size, 0, none⟩) 1 1) 2) := k2
  have G_2 : Hid (Below w.heap.size w w2) := hG
  clear A_1 P_1 G_1 hG k0 k1 k2
  refine (sub_num P25 2 _ _ _ P_2.out B_2.out 22 P25_lt22 (by omega) (by decide +kernel)).mono ?_
  rintro e w3 ⟨v, rfl, hn, g⟩
  obtain ⟨Ca, Cc, Cd, rfl⟩ := hn.shape
  have C_3 : Hid (Num w3 (.slice Ca Cc Cd) (P25 - 2)) := hn
  have A_3 : Hid (Num w3 (.slice Aa Ac Ad) (A)) := A_2.out.below g
  have G_3 : Hid (Below w.heap.size w w3) := G_2.out.trans (g.mono G_2.out.size)
  clear A_2 P_2 B_2 G_2 hn g
  go_wp2_with fail
  refine (expD_num4 A (P25 - 2) _ _ _ A_3.out C_3.out b1.out (by decide +kernel)).mono ?_
  rintro e w4 ⟨v, rfl, hn, g⟩
  obtain ⟨Ea, Ec, Ed, rfl⟩ := hn.shape
  have E_4 : Hid (Num w4 (.slice Ea Ec Ed) (A ^ (P25 - 2) % P25)) := hn
  have A_4 : Hid (Num w4 (.slice Aa Ac Ad) (A)) := A_3.out.below g
  have C_4 : Hid (Num w4 (.slice Ca Cc Cd) (P25 - 2)) := C_3.out.below g
  have G_4 : Hid (Below w.heap.size w w4) := G_3.out.trans (g.mono G_3.out.size)
  clear A_3 C_3 G_3 hn g
  go_wp2_with fail
  go_ret
  exact ⟨_, rfl, E_4.out, G_4.out⟩

set_option maxRecDepth 100000 in
set_option maxHeartbeats 2000000 in
theorem oddD_num (A : Nat) (va : Value) (w : World) (hA : Num w va A) (hb : A < 16777216 ^ 22) :
    Calls Tryd.prog 27 #[va] w fun e w' => e = .returned (.bool (decide (A % 2 = 1))) ∧ Below w.heap.size w w' := by
  obtain ⟨Aa, Ac, Ad, rfl⟩ := hA.shape
  have A_0 : Hid (Num w (.slice Aa Ac Ad) (A)) := hA
  clear hA
  have C : Hid (∀ w, Num w (.slice Aa Ac Ad) A → Calls Tryd.prog 56 #[.slice Aa Ac Ad, .int .i64 0] w fun e w' => e = .returned (.int .i64 ((A % 2 : Nat) : Int)) ∧ Below w.heap.size w w') := by
    intro w h; have := bit_num A _ 0 w h 22 hb (by omega) (by omega); rwa [Nat.pow_zero, Nat.div_one] at this
  obtain ⟨z, hz⟩ : ∃ z, A % 2 = z := ⟨_, rfl⟩
  have hz1 : z = 0 ∨ z = 1 := by omega
  rw [hz] at C ⊢
  clear hz hb
  rcases hz1 with rfl | rfl
  all_goals
    go_enter Tryd.func27, Tryd.ntmps27
    go_wp2_with fail
    refine (C.out _ A_0.out).mono ?_
    rintro e w1 ⟨rfl, g⟩
    have A_1 : Hid (Num w1 (.slice Aa Ac Ad) (A)) := A_0.out.below g
    have G_1 : Hid (Below w.heap.size w w1) := g
    clear A_0 g
    go_wp2_with fail
    go_ret
    exact ⟨rfl, G_1.out⟩

/-- A number, or its other sign, that is even. -/
def evn (A : Nat) : Nat := if A % 2 = 1 then (P25 - A) % P25 else A
set_option maxRecDepth 100000 in
set_option maxHeartbeats 2000000 in
theorem evenD_num (A : Nat) (va : Value) (w : World) (hA : Num w va A) (hb : A < P25) :
    Calls Tryd.prog 70 #[va] w fun e w' => ∃ v, e = .returned v ∧ Num w' v (evn A) ∧ Below w.heap.size w w' := by
  obtain ⟨Aa, Ac, Ad, rfl⟩ := hA.shape
  have A_0 : Hid (Num w (.slice Aa Ac Ad) (A)) := hA
  clear hA
  have hb2 : A < 16777216 ^ 22 := Nat.lt_trans hb P25_lt22
  have C : Hid (∀ w, Num w (.slice Aa Ac Ad) A → Calls Tryd.prog 27 #[.slice Aa Ac Ad] w fun e w' => e = .returned (.bool (decide (A % 2 = 1))) ∧ Below w.heap.size w w') := fun w h => oddD_num A _ w h hb2
  have S : Hid (∀ w, Num w (.slice Aa Ac Ad) A → Calls Tryd.prog 15 #[.slice none 0 0, .slice Aa Ac Ad] w fun e w' => ∃ v, e = .returned v ∧ Num w' v ((P25 - A) % P25) ∧ Below w.heap.size w w') := by
    intro w h; have := subD_num 0 A _ _ w (num_none w) h (by decide +kernel) (by omega); rwa [Nat.zero_add] at this
  unfold evn
  by_cases h : A % 2 = 1
  · rw [if_pos h]
    rw [decide_eq_true h] at C
    clear hb hb2 h
    go_enter Tryd.func70, Tryd.ntmps70
    go_wp2_with fail
    refine (C.out _ A_0.out).mono ?_
    rintro e w1 ⟨rfl, g⟩
    have A_1 : Hid (Num w1 (.slice Aa Ac Ad) (A)) := A_0.out.below g
    have G_1 : Hid (Below w.heap.size w w1) := g
    clear A_0 g
    go_wp2_with fail
    refine (S.out _ A_1.out).mono ?_
    rintro e w2 ⟨v, rfl, hn, g⟩
    obtain ⟨Ea, Ec, Ed, rfl⟩ := hn.shape
    have E_2 : Hid (Num w2 (.slice Ea Ec Ed) ((P25 - A) % P25)) := hn
    have A_2 : Hid (Num w2 (.slice Aa Ac Ad) (A)) := A_1.out.below g
    have G_2 : Hid (Below w.heap.size w w2) := G_1.out.trans (g.mono G_1.out.size)
    clear A_1 G_1 hn g
    go_wp2_with fail
    go_ret
    exact ⟨_, rfl, E_2.out, G_2.out⟩
  · rw [if_neg h]
    rw [decide_eq_false h] at C
    clear hb hb2 h
    go_enter Tryd.func70, Tryd.ntmps70
    go_wp2_with fail
    refine (C.out _ A_0.out).mono ?_
    rintro e w1 ⟨rfl, g⟩
    have A_1 : Hid (Num w1 (.slice Aa Ac Ad) (A)) := A_0.out.below g
    have G_1 : Hid (Below w.heap.size w w1) := g
    clear A_0 g
    go_wp2_with fail
    go_ret
    exact ⟨_, rfl, A_1.out, G_1.out⟩

end Go.Proofs.YtnebpleplogfeaaDoor
