/-
  The contracts of the document's powers modulo a number: Mul, Exp of Fast, Quick, Exp, Inv. Conditions: as each theorem says.
-/
import Derived.Test.YtkaekgjpjnnjpaaRefT
namespace Go.Proofs.Ytkaekgjpjnnjpaa
open Go.RowKit
set_option linter.unusedVariables false

theorem pow24 (n : Nat) : 16777216 ^ n = 2 ^ (24 * n) := by rw [show (16777216 : Nat) = 2 ^ 24 by decide, ← Nat.pow_mul]
theorem nbits24 (E n : Nat) (h : E < 16777216 ^ n) : nbits E ≤ 24 * n := nbits_le E (24 * n) (by rw [← pow24]; exact h)
theorem mul_lt22 (A B M : Nat) (hA : A < M) (hB : B < M) (hM : M < 16777216 ^ 11) : A * B < 16777216 ^ 22 := by
  rw [show (22 : Nat) = 11 + 11 from rfl, Nat.pow_add]
  exact Nat.mul_lt_mul'' (Nat.lt_trans hA hM) (Nat.lt_trans hB hM)

set_option maxHeartbeats 1000000 in
theorem fmul_num (A B M : Nat) (va vb : Value) (ma ua : Option Addr) (mc md uc ud : Nat) (w : World) (ha : Num w va A) (hb : Num w vb B) (hm : Num w (.slice ma mc md) M) (hu : Num w (.slice ua uc ud) (16777216 ^ (2 * mc) / M)) (hM11 : M < 16777216 ^ 11) (hA : A < M) (hB : B < M) :
    Calls Try.prog 68 #[.agg #[.slice ma mc md, .slice ua uc ud], va, vb] w fun e w' => ∃ v, e = .returned v ∧ Num w' v (A * B % M) ∧ Below w.heap.size w w' := by
  obtain ⟨xa, xc, xd, rfl⟩ := ha.shape
  obtain ⟨ya, yc, yd, rfl⟩ := hb.shape
  have CM : Hid (∀ w, Num w (.slice xa xc xd) A → Num w (.slice ya yc yd) B → Calls Try.prog 26 #[.slice xa xc xd, .slice ya yc yd] w fun e w' => ∃ r, e = .returned r ∧ Num w' r (A * B) ∧ Below w.heap.size w w') := fun w h h' => ref_mul_num A B _ _ w h h' 11 (Nat.lt_trans hA hM11) (Nat.lt_trans hB hM11) (by omega)
  have CR : Hid (∀ v w, Num w v (A * B) → Num w (.slice ma mc md) M → Num w (.slice ua uc ud) (16777216 ^ (2 * mc) / M) → Calls Try.prog 66 #[.agg #[.slice ma mc md, .slice ua uc ud], v] w fun e w' => ∃ v, e = .returned v ∧ Num w' v (A * B % M) ∧ Below w.heap.size w w') := fun v w h h' h'' => red_num (A * B) M v ma ua mc md uc ud w h h' h'' (by omega) hM11 (mul_lt22 A B M hA hB hM11)
  obtain ⟨U, hU⟩ : ∃ U, 16777216 ^ (2 * mc) / M = U := ⟨_, rfl⟩
  rw [hU] at CR hu
  obtain ⟨AB, hAB⟩ : ∃ AB, A * B = AB := ⟨_, rfl⟩
  rw [hAB] at CM CR ⊢
  have D0 : Below w.heap.size w (w.alloc (.cells #[.slice ma mc md, .slice ua uc ud] 64)) := (Below.refl _ _).alloc (Nat.le_refl _) _
  have B0 : Hid (Bx2 (w.alloc (.cells #[.slice ma mc md, .slice ua uc ud] 64)) w.heap.size (.slice ma mc md) (.slice ua uc ud)) := Bx2.new w _ _ _
  have A0 := (show Hid _ from ha.below D0)
  have Y0 := (show Hid _ from hb.below D0)
  have M0 := (show Hid _ from hm.below D0)
  have U0 := (show Hid _ from hu.below D0)
  clear ha hb hm hu hAB hU hM11 hA hB
  go_enter Try.func68, Try.ntmps68
  go_wp2_with fail
  refine wp_cut (fun V => Below w.heap.size w V ∧ Bx2 V w.heap.size (.slice ma mc md) (.slice ua uc ud) ∧ Num V (.slice xa xc xd) A ∧ Num V (.slice ya yc yd) B ∧ Num V (.slice ma mc md) M ∧ Num V (.slice ua uc ud) U) ⟨D0, B0.out, A0.out, Y0.out, M0.out, U0.out⟩ ?_
  clear D0 B0 A0 Y0 M0 U0
  rintro w1 ⟨hG, hB, hA, hY, hM', hU⟩
  have G1 : Hid (Below w.heap.size w w1) := hG
  have B1 : Hid (Bx2 w1 w.heap.size (.slice ma mc md) (.slice ua uc ud)) := hB
  have A1 : Hid (Num w1 (.slice xa xc xd) A) := hA
  have Y1 : Hid (Num w1 (.slice ya yc yd) B) := hY
  have M1 : Hid (Num w1 (.slice ma mc md) M) := hM'
  have U1 : Hid (Num w1 (.slice ua uc ud) U) := hU
  clear hG hB hA hM' hU hY
  have K : w1.drew.cell? ⟨w.heap.size, 0, none⟩ = some (.slice ma mc md) ∧ w1.drew.cell? ⟨w.heap.size, 1, none⟩ = some (.slice ua uc ud) := ⟨B1.out.drew.c0, B1.out.drew.c1⟩
  have D1 : Hid (Below w1.heap.size w1 w1.drew) := (Below.refl _ _).drew
  go_region_held3 (fun w' => w'.cell? ⟨w.heap.size, 0, none⟩ = some (.slice ma mc md) ∧ w'.cell? ⟨w.heap.size, 1, none⟩ = some (.slice ua uc ud)) (assumption)
    (first
      | (go_at_call 66; (with_reducible refine (CR.out _ _ P2.out M2.out U2.out).mono ?_); (rintro e w3 ⟨v3, rfl, h3, g3⟩; obtain ⟨za, zc, zd, rfl⟩ := h3.shape; have N3 : Hid (Num w3 (.slice za zc zd) (AB % M)) := h3; have G3 : Hid (Below w.heap.size w w3) := G2.out.trans (g3.mono G2.out.size); clear K; have K : w3.cell? ⟨w.heap.size, 0, none⟩ = some (.slice ma mc md) ∧ w3.cell? ⟨w.heap.size, 1, none⟩ = some (.slice ua uc ud) := ⟨(B2.out.below g3).c0, (B2.out.below g3).c1⟩; clear h3 g3 G2 B2 M2 U2 P2))
      | (go_at_call 26; (with_reducible refine (CM.out _ (A1.out.below D1.out) (Y1.out.below D1.out)).mono ?_); (rintro e w2 ⟨v2, rfl, h2, g2'⟩; have g2 : Below w1.heap.size w1 w2 := D1.out.trans g2'; obtain ⟨ta, tc, td, rfl⟩ := h2.shape; have P2 : Hid (Num w2 (.slice ta tc td) AB) := h2; have G2 : Hid (Below w.heap.size w w2) := G1.out.trans (g2.mono G1.out.size); have B2 : Hid (Bx2 w2 w.heap.size (.slice ma mc md) (.slice ua uc ud)) := B1.out.below g2; have M2 : Hid (Num w2 (.slice ma mc md) M) := M1.out.below g2; have U2 : Hid (Num w2 (.slice ua uc ud) U) := U1.out.below g2; clear K; have K : w2.cell? ⟨w.heap.size, 0, none⟩ = some (.slice ma mc md) ∧ w2.cell? ⟨w.heap.size, 1, none⟩ = some (.slice ua uc ud) := ⟨B2.out.c0, B2.out.c1⟩; clear h2 g2 g2' G1 B1 A1 Y1 M1 U1 D1)))
  go_wp2_with fail
  go_ret
  exact ⟨_, rfl, N3.out, G3.out⟩

theorem pow_twice (A v M : Nat) : (A ^ v % M) * (A ^ v % M) % M = A ^ (2 * v) % M := by
  rw [mul_mod_left', mul_mod_right', ← Nat.pow_add, Nat.two_mul]
theorem pow_once (A v M : Nat) : (A ^ v % M) * A % M = A ^ (v + 1) % M := by
  rw [mul_mod_left', Nat.pow_succ]
theorem half_up (E n : Nat) : E / 2 ^ n = 2 * (E / 2 ^ (n + 1)) + E / 2 ^ n % 2 := by
  rw [Nat.pow_succ, ← Nat.div_div_eq_div_mul]; omega
theorem nbits_lt' (x : Nat) : x < 2 ^ nbits x := by
  unfold nbits
  by_cases h : x = 0
  · rw [if_pos h, h]; decide
  · rw [if_neg h]; exact Nat.lt_log2_self

set_option maxHeartbeats 2000000 in
theorem fexp_num (A E M : Nat) (va ve : Value) (ma ua : Option Addr) (mc md uc ud : Nat) (w : World) (ha : Num w va A) (he : Num w ve E) (hm : Num w (.slice ma mc md) M) (hu : Num w (.slice ua uc ud) (16777216 ^ (2 * mc) / M)) (hM1 : 1 < M) (hM11 : M < 16777216 ^ 11) (hA : A < M) (hE : E < 16777216 ^ 11) :
    Calls Try.prog 48 #[.agg #[.slice ma mc md, .slice ua uc ud], va, ve] w fun e w' => ∃ v, e = .returned v ∧ Num w' v (A ^ E % M) ∧ Below w.heap.size w w' := by
  obtain ⟨xa, xc, xd, rfl⟩ := ha.shape
  obtain ⟨ya, yc, yd, rfl⟩ := he.shape
  obtain ⟨U, hU⟩ : ∃ U, 16777216 ^ (2 * mc) / M = U := ⟨_, rfl⟩
  have CR : Hid (∀ v w, Num w v 1 → Num w (.slice ma mc md) M → Num w (.slice ua uc ud) U → Calls Try.prog 66 #[.agg #[.slice ma mc md, .slice ua uc ud], v] w fun e w' => ∃ v, e = .returned v ∧ Num w' v (A ^ 0 % M) ∧ Below w.heap.size w w') := by
    intro v w h h' h''
    rw [← hU] at h''
    exact red_num 1 M v ma ua mc md uc ud w h h' h'' (by omega) hM11 (by decide)
  have CB : Hid (∀ w, Num w (.slice ya yc yd) E → Calls Try.prog 67 #[.slice ya yc yd] w fun e w' => e = .returned (.int .i64 (nbits E : Int)) ∧ Below w.heap.size w w') := fun w h => bits_num E _ w h 11 hE (by omega)
  have CS : Hid (∀ v (x : Value) w, Num w x (A ^ v % M) → Num w (.slice ma mc md) M → Num w (.slice ua uc ud) U → Calls Try.prog 68 #[.agg #[.slice ma mc md, .slice ua uc ud], x, x] w fun e w' => ∃ r, e = .returned r ∧ Num w' r (A ^ (2 * v) % M) ∧ Below w.heap.size w w') := by
    intro v x w h h' h''
    rw [← hU] at h''
    have := fmul_num _ _ M x x ma ua mc md uc ud w h h h' h'' hM11 (Nat.mod_lt _ (by omega)) (Nat.mod_lt _ (by omega))
    rwa [pow_twice] at this
  have CT : Hid (∀ v (x : Value) w, Num w x (A ^ v % M) → Num w (.slice xa xc xd) A → Num w (.slice ma mc md) M → Num w (.slice ua uc ud) U → Calls Try.prog 68 #[.agg #[.slice ma mc md, .slice ua uc ud], x, .slice xa xc xd] w fun e w' => ∃ r, e = .returned r ∧ Num w' r (A ^ (v + 1) % M) ∧ Below w.heap.size w w') := by
    intro v x w h h1 h' h''
    rw [← hU] at h''
    have := fmul_num _ A M x _ ma ua mc md uc ud w h h1 h' h'' hM11 (Nat.mod_lt _ (by omega)) hA
    rwa [pow_once] at this
  have CI : Hid (∀ (i : Nat) w, i ≤ 264 → Num w (.slice ya yc yd) E → Calls Try.prog 60 #[.slice ya yc yd, .int .i64 (i : Int)] w fun e w' => e = .returned (.int .i64 ((E / 2 ^ i % 2 : Nat) : Int)) ∧ Below w.heap.size w w') := fun i w hi h => bit_num E _ i w h 11 hE (by omega) (by omega)
  have hnb0 := nbits24 E 11 hE
  have hnb : nbits E ≤ 264 := by omega
  clear hnb0
  have HN := nbits_lt' E
  obtain ⟨nb, hNB⟩ : ∃ nb, nbits E = nb := ⟨_, rfl⟩
  rw [hNB] at hnb CB HN
  have HNB : Hid (E < 2 ^ nb) := HN
  clear HN hNB
  rw [hU] at hu
  have W0 : Below w.heap.size w ((w.alloc (.cells #[.slice ma mc md, .slice ua uc ud] 64)).alloc (.cells #[.int .i64 1] 3)) := ((Below.refl _ _).alloc (Nat.le_refl _) _).alloc (by simp) _
  have O0 : Hid (Num ((w.alloc (.cells #[.slice ma mc md, .slice ua uc ud] 64)).alloc (.cells #[.int .i64 1] 3)) (.slice (some ⟨w.heap.size + 1, 0, none⟩) 1 1) 1) := by
    have h := Sl.lit1 (w.alloc (.cells #[.slice ma mc md, .slice ua uc ud] 64)) 1 1 rfl
    rw [World.size_alloc] at h
    exact ⟨[1], h, fun j => by rcases j with _ | j <;> simp, Or.inr (by simp), by simp [valD]⟩
  have B0 : Hid (Bx2 ((w.alloc (.cells #[.slice ma mc md, .slice ua uc ud] 64)).alloc (.cells #[.int .i64 1] 3)) w.heap.size (.slice ma mc md) (.slice ua uc ud)) := (Bx2.new w _ _ _).alloc _
  have A0 : Hid (Num _ (.slice xa xc xd) A) := ha.below W0
  have Y0 : Hid (Num _ (.slice ya yc yd) E) := he.below W0
  have M0 : Hid (Num _ (.slice ma mc md) M) := hm.below W0
  have U0 : Hid (Num _ (.slice ua uc ud) U) := hu.below W0
  have G0 : Hid (Below w.heap.size w ((w.alloc (.cells #[.slice ma mc md, .slice ua uc ud] 64)).alloc (.cells #[.int .i64 1] 3))) := W0
  have hnb' : (nb : Int) ≤ 264 := by omega
  clear ha he hm hu hU W0 hA hE hM11
  go_enter Try.func48, Try.ntmps48
  go_wp2_with fail
  refine (CR.out _ _ O0.out M0.out U0.out).mono ?_
  rintro e w1 ⟨v1, rfl, h1, g1⟩
  have R1 : Hid (Num w1 v1 (A ^ 0 % M)) := h1
  have A1 : Hid (Num w1 (.slice xa xc xd) A) := A0.out.below g1
  have Y1 : Hid (Num w1 (.slice ya yc yd) E) := Y0.out.below g1
  have M1 : Hid (Num w1 (.slice ma mc md) M) := M0.out.below g1
  have U1 : Hid (Num w1 (.slice ua uc ud) U) := U0.out.below g1
  have B1 : Hid (Bx2 w1 w.heap.size (.slice ma mc md) (.slice ua uc ud)) := B0.out.below g1
  have G1 : Hid (Below w.heap.size w w1) := G0.out.trans (g1.mono G0.out.size)
  clear h1 g1 O0 A0 Y0 M0 U0 B0 G0
  go_wp2_with fail
  refine (CB.out _ Y1.out).mono ?_
  rintro e w2 ⟨rfl, g2⟩
  have R2 : Hid (Num w2 v1 (A ^ 0 % M)) := R1.out.below g2
  have A2 : Hid (Num w2 (.slice xa xc xd) A) := A1.out.below g2
  have Y2 : Hid (Num w2 (.slice ya yc yd) E) := Y1.out.below g2
  have M2 : Hid (Num w2 (.slice ma mc md) M) := M1.out.below g2
  have U2 : Hid (Num w2 (.slice ua uc ud) U) := U1.out.below g2
  have B2 : Hid (Bx2 w2 w.heap.size (.slice ma mc md) (.slice ua uc ud)) := B1.out.below g2
  have G2 : Hid (Below w.heap.size w w2) := G1.out.trans (g2.mono G1.out.size)
  clear g2 R1 A1 Y1 M1 U1 B1 G1
  go_wp2_with fail
  go_loopw [7, 8] (fun v y wr => ∃ k : Nat, k ≤ nb ∧ y = .int .i64 ((nb : Int) - 1 - (k : Int)) ∧ Hid (Num wr v (A ^ (E / 2 ^ (nb - k)) % M)) ∧ Hid (Num wr (.slice xa xc xd) A) ∧ Hid (Num wr (.slice ya yc yd) E) ∧ Hid (Num wr (.slice ma mc md) M) ∧ Hid (Num wr (.slice ua uc ud) U) ∧ Hid (Bx2 wr w.heap.size (.slice ma mc md) (.slice ua uc ud)) ∧ Hid (Below w.heap.size w wr)) (fun _ y _ => (intOf y + 1).toNat)
  case atStart => exact ⟨0, by omega, by go_num, by rw [Nat.sub_zero, Nat.div_eq_of_lt HNB.out]; exact R2, A2, Y2, M2, U2, B2, G2⟩
  case round =>
    obtain ⟨k, hk, rfl, hR, hA, hY, hM, hU, hB, hG⟩ := hrel
    clear R2 A2 Y2 M2 U2 B2 G2
    obtain ⟨w3, hw3⟩ : ∃ w3, wr = w3 := ⟨_, rfl⟩
    subst hw3
    obtain ⟨za, zc, zd, rfl⟩ := hR.out.shape
    by_cases hlt : k < nb
    · obtain ⟨i, hi⟩ : ∃ i : Nat, (nb : Int) - 1 - (k : Int) = (i : Int) := ⟨nb - 1 - k, by omega⟩
      have Hi : Hid ((nb : Int) - 1 - (k : Int) = (i : Int)) := hi
      have hi3 : i ≤ 264 := by omega
      have e1 : nb - k = i + 1 := by omega
      have e2 : nb - (k + 1) = i := by omega
      rw [e1] at hR
      have HE : Hid (E / 2 ^ i = 2 * (E / 2 ^ (i + 1)) + E / 2 ^ i % 2) := half_up E i
      obtain ⟨t, ht⟩ : ∃ t, E / 2 ^ (i + 1) = t := ⟨_, rfl⟩
      obtain ⟨z, hz⟩ : ∃ z, E / 2 ^ i % 2 = z := ⟨_, rfl⟩
      have hz1 : z = 0 ∨ z = 1 := by omega
      rw [ht, hz] at HE
      rw [ht] at hR
      have CI' : Hid (∀ w, Num w (.slice ya yc yd) E → Calls Try.prog 60 #[.slice ya yc yd, .int .i64 (i : Int)] w fun e w' => e = .returned (.int .i64 (z : Int)) ∧ Below w.heap.size w w') := by
        intro w h; have := CI.out i w hi3 h; rwa [hz] at this
      have HE2 : Hid (E / 2 ^ (nb - (k + 1)) = 2 * t + z) := by unfold Hid; rw [e2]; exact HE.out
      have hi0 : (0 : Int) ≤ (i : Int) := by omega
      rw [hi]
      clear hi e1 e2 ht hz HE
      obtain ⟨bl, b0, b1⟩ := hB.out
      go_wp2_with fail
      refine (CS.out t _ _ hR.out hM.out hU.out).mono ?_
      rintro e w4 ⟨v4, rfl, h4, g4⟩
      obtain ⟨qa, qc, qd, rfl⟩ := h4.shape
      have R4 : Hid (Num w4 (.slice qa qc qd) (A ^ (2 * t) % M)) := h4
      have A4 : Hid (Num w4 (.slice xa xc xd) A) := hA.out.below g4
      have Y4 : Hid (Num w4 (.slice ya yc yd) E) := hY.out.below g4
      have M4' : Hid (Num w4 (.slice ma mc md) M) := hM.out.below g4
      have U4 : Hid (Num w4 (.slice ua uc ud) U) := hU.out.below g4
      have B4 : Hid (Bx2 w4 w.heap.size (.slice ma mc md) (.slice ua uc ud)) := hB.out.below g4
      have G4 : Hid (Below w.heap.size w w4) := hG.out.trans (g4.mono hG.out.size)
      clear h4 g4 bl b0 b1 hR hA hY hM hU hB hG
      go_wp2_with fail
      refine (CI'.out _ Y4.out).mono ?_
      rintro e w5 ⟨rfl, g5⟩
      have R5 : Hid (Num w5 (.slice qa qc qd) (A ^ (2 * t) % M)) := R4.out.below g5
      have A5 : Hid (Num w5 (.slice xa xc xd) A) := A4.out.below g5
      have Y5 : Hid (Num w5 (.slice ya yc yd) E) := Y4.out.below g5
      have M5 : Hid (Num w5 (.slice ma mc md) M) := M4'.out.below g5
      have U5 : Hid (Num w5 (.slice ua uc ud) U) := U4.out.below g5
      have B5 : Hid (Bx2 w5 w.heap.size (.slice ma mc md) (.slice ua uc ud)) := B4.out.below g5
      have G5 : Hid (Below w.heap.size w w5) := G4.out.trans (g5.mono G4.out.size)
      clear g5 R4 A4 Y4 M4' U4 B4 G4
      rcases hz1 with rfl | rfl
      · have F : Hid (Num w5 (.slice qa qc qd) (A ^ (E / 2 ^ (nb - (k + 1))) % M)) := by unfold Hid; rw [HE2.out, Nat.add_zero]; exact R5.out
        clear HE2 R5
        go_wp2_with fail
        go_roundw
        case rel => exact ⟨k + 1, by omega, by have := Hi.out; go_num, F, A5, Y5, M5, U5, B5, G5⟩
        case measure => simp [intOf]
      · obtain ⟨bl, b0, b1⟩ := B5.out
        go_wp2_with fail
        refine (CT.out (2 * t) _ _ R5.out A5.out M5.out U5.out).mono ?_
        rintro e w6 ⟨v6, rfl, h6, g6⟩
        have F : Hid (Num w6 v6 (A ^ (E / 2 ^ (nb - (k + 1))) % M)) := by unfold Hid; rw [HE2.out]; exact h6
        have A6 : Hid (Num w6 (.slice xa xc xd) A) := A5.out.below g6
        have Y6 : Hid (Num w6 (.slice ya yc yd) E) := Y5.out.below g6
        have M6 : Hid (Num w6 (.slice ma mc md) M) := M5.out.below g6
        have U6 : Hid (Num w6 (.slice ua uc ud) U) := U5.out.below g6
        have B6 : Hid (Bx2 w6 w.heap.size (.slice ma mc md) (.slice ua uc ud)) := B5.out.below g6
        have G6 : Hid (Below w.heap.size w w6) := G5.out.trans (g6.mono G5.out.size)
        clear h6 g6 HE2 R5 A5 Y5 M5 U5 B5 G5 bl b0 b1
        go_wp2_with fail
        go_roundw
        case rel => exact ⟨k + 1, by omega, by have := Hi.out; go_num, F, A6, Y6, M6, U6, B6, G6⟩
        case measure => simp [intOf]
    · obtain rfl : k = nb := by omega
      have hm1 : (k : Int) - 1 - (k : Int) = -1 := by omega
      rw [hm1]
      rw [Nat.sub_self, Nat.pow_zero, Nat.div_one] at hR
      go_wp2_with fail
      go_ret
      exact ⟨_, rfl, hR.out, hG.out⟩

set_option maxHeartbeats 1000000 in
theorem quick_num (M : Nat) (ma : Option Addr) (mc md : Nat) (w : World) (hm : Num w (.slice ma mc md) M) (hM : 0 < M) (hM11 : M < 16777216 ^ 11) :
    Calls Try.prog 47 #[.slice ma mc md] w fun e w' => ∃ ua uc ud, e = .returned (.agg #[.slice ma mc md, .slice ua uc ud]) ∧ Num w' (.slice ua uc ud) (16777216 ^ (2 * mc) / M) ∧ Below w.heap.size w w' := by
  have hmc : mc ≤ 11 := by
    rcases Nat.lt_or_ge 11 mc with h | h
    · have h1 := ((num_len hm).2 hM).2
      have h2 : 16777216 ^ 11 ≤ 16777216 ^ (mc - 1) := Nat.pow_le_pow_right (by omega) (by omega)
      omega
    · exact h
  have hmc' : (mc : Int) ≤ 11 := by omega
  have e48 : 2 ^ (48 * mc) = 16777216 ^ (2 * mc) := by
    rw [show (16777216 : Nat) = 2 ^ 24 by decide, ← Nat.pow_mul]; congr 1; omega
  have hP : 16777216 ^ (2 * mc) < 16777216 ^ 23 := Nat.pow_lt_pow_right (by omega) (by omega)
  have hM23 : M < 16777216 ^ 23 := Nat.lt_of_lt_of_le hM11 (Nat.pow_le_pow_right (by omega) (by omega))
  obtain ⟨k, hk⟩ : ∃ k : Nat, 48 * (mc : Int) = (k : Int) := ⟨48 * mc, by omega⟩
  have CP : Hid (∀ w, Calls Try.prog 65 #[.int .i64 (k : Int)] w fun e w' => ∃ v, e = .returned v ∧ Num w' v (16777216 ^ (2 * mc)) ∧ Below w.heap.size w w') := by
    intro w; have := power_any k w (by omega); rwa [show k = 48 * mc by omega, e48, show 48 * mc = k by omega] at this
  have CD : Hid (∀ v w, Num w v (16777216 ^ (2 * mc)) → Num w (.slice ma mc md) M → Calls Try.prog 38 #[v, .slice ma mc md] w fun e w' => ∃ q r, e = .returned (.tuple #[q, r]) ∧ Num w' q (16777216 ^ (2 * mc) / M) ∧ Num w' r (16777216 ^ (2 * mc) % M) ∧ Below w.heap.size w w') := fun v w h h' => div_num _ M v _ w h h' hM 23 hP hM23 (by omega)
  obtain ⟨P, hPP⟩ : ∃ P, 16777216 ^ (2 * mc) = P := ⟨_, rfl⟩
  rw [hPP] at CP CD ⊢
  have D0 : Below w.heap.size w (w.alloc (.cells #[.slice none 0 0, .slice none 0 0] 64)) := (Below.refl _ _).alloc (Nat.le_refl _) _
  have M0 : Hid (Num _ (.slice ma mc md) M) := hm.below D0
  have G0 : Hid (Below w.heap.size w (w.alloc (.cells #[.slice none 0 0, .slice none 0 0] 64))) := D0
  clear hm e48 hP hM23 hPP hM11 D0
  go_enter Try.func47, Try.ntmps47
  go_wp2_with fail
  refine (CP.out _).mono ?_
  rintro e w1 ⟨v1, rfl, h1, g1⟩
  obtain ⟨pa, pc, pd, rfl⟩ := h1.shape
  have P1 : Hid (Num w1 (.slice pa pc pd) P) := h1
  have M1 : Hid (Num w1 (.slice ma mc md) M) := M0.out.below g1
  have G1 : Hid (Below w.heap.size w w1) := G0.out.trans (g1.mono G0.out.size)
  have B1 : Hid (Bx2 w1 w.heap.size (.slice none 0 0) (.slice none 0 0)) := (Bx2.new w _ _ _).below g1
  have F1 : Hid (∀ j, w1.frozen? ⟨w.heap.size, j, none⟩ = false) := fun j => (g1.frozen (p := ⟨w.heap.size, j, none⟩) (by simp)).trans (by simp [go_sem])
  have HB1 : Hid (w1.heap[w.heap.size]? = some (.cells #[.slice none 0 0, .slice none 0 0] 64)) := (g1.block _ (by simp)).trans (by show (w.heap.push _)[w.heap.size]? = _; simp)
  clear h1 g1 M0 G0
  go_wp2_with fail
  refine (CD.out _ _ P1.out M1.out).mono ?_
  rintro e w2 ⟨q, r, rfl, hq, hr, g2⟩
  obtain ⟨ua, uc, ud, rfl⟩ := hq.shape
  have Q2 : Hid (Num w2 (.slice ua uc ud) (P / M)) := hq
  have G2 : Hid (Below w.heap.size w w2) := G1.out.trans (g2.mono G1.out.size)
  obtain ⟨bl, b0, b1⟩ := B1.out.below g2
  have fr : ∀ j, w2.frozen? ⟨w.heap.size, j, none⟩ = false := fun j => (g2.frozen (p := ⟨w.heap.size, j, none⟩) B1.out.lt).trans (F1.out j)
  have HB2 : Hid (w2.heap[w.heap.size]? = some (.cells #[.slice none 0 0, .slice none 0 0] 64)) := (g2.block _ B1.out.lt).trans HB1.out
  clear hq hr g2 B1 F1 P1 M1 G1 HB1
  go_wp2_with fail
  have hN : Num ((w2.setCell ⟨w.heap.size, 0, none⟩ (.slice ma mc md)).setCell ⟨w.heap.size, 1, none⟩ (.slice ua uc ud)) (.slice ua uc ud) (P / M) := by
    obtain ⟨l, ⟨a, c, e, e2, e3, e4⟩, k1, k2, k3⟩ := Q2.out
    refine ⟨l, ⟨a, c, e, e2, e3, fun j hj => ?_⟩, k1, k2, k3⟩
    obtain ⟨b', o', f1, f2, f3⟩ := e4 j hj
    refine ⟨b', o', f1, by simpa using f2, ?_⟩
    have hne : b' ≠ w.heap.size := by
      rintro rfl
      have f4 := f3
      simp only [World.cell?, HB2.out] at f4
      generalize o' + j = i at f4
      rcases i with _ | _ | i <;> simp at f4
    rw [World.cell?_setCell_other _ _ _ _ (fun q => hne (by have := congrArg Addr.block q; simpa using this.symm)), World.cell?_setCell_other _ _ _ _ (fun q => hne (by have := congrArg Addr.block q; simpa using this.symm))]
    exact f3
  refine bodyPost_ret (v := .agg #[.slice ma mc md, .slice ua uc ud]) (by simp [results, Try.results47, go_sem, b0, b1]) rfl ⟨ua, uc, ud, rfl, hN, ?_⟩
  have gs := G2.out.size
  repeat (first | exact G2.out | refine Below.setCell ?_ (by first | omega | (simp <;> omega)) _)

set_option maxHeartbeats 1000000 in
theorem expD_num (A E M : Nat) (va ve vm : Value) (w : World) (ha : Num w va A) (he : Num w ve E) (hm : Num w vm M) (hM1 : 1 < M) (hM11 : M < 16777216 ^ 11) (hA : A < M) (hE : E < 16777216 ^ 11) :
    Calls Try.prog 28 #[va, ve, vm] w fun e w' => ∃ v, e = .returned v ∧ Num w' v (A ^ E % M) ∧ Below w.heap.size w w' := by
  obtain ⟨xa, xc, xd, rfl⟩ := ha.shape
  obtain ⟨ya, yc, yd, rfl⟩ := he.shape
  obtain ⟨ma, mc, md, rfl⟩ := hm.shape
  have CQ : Hid (∀ w, Num w (.slice ma mc md) M → Calls Try.prog 47 #[.slice ma mc md] w fun e w' => ∃ ua uc ud, e = .returned (.agg #[.slice ma mc md, .slice ua uc ud]) ∧ Num w' (.slice ua uc ud) (16777216 ^ (2 * mc) / M) ∧ Below w.heap.size w w') := fun w h => quick_num M ma mc md w h (by omega) hM11
  have CE : Hid (∀ ua uc ud w, Num w (.slice xa xc xd) A → Num w (.slice ya yc yd) E → Num w (.slice ma mc md) M → Num w (.slice ua uc ud) (16777216 ^ (2 * mc) / M) → Calls Try.prog 48 #[.agg #[.slice ma mc md, .slice ua uc ud], .slice xa xc xd, .slice ya yc yd] w fun e w' => ∃ v, e = .returned v ∧ Num w' v (A ^ E % M) ∧ Below w.heap.size w w') :=
    fun ua uc ud w h1 h2 h3 h4 => fexp_num A E M _ _ ma ua mc md uc ud w h1 h2 h3 h4 hM1 hM11 hA hE
  obtain ⟨U, hU⟩ : ∃ U, 16777216 ^ (2 * mc) / M = U := ⟨_, rfl⟩
  rw [hU] at CQ CE
  obtain ⟨R, hR⟩ : ∃ R, A ^ E % M = R := ⟨_, rfl⟩
  rw [hR] at CE ⊢
  have A0 : Hid (Num w (.slice xa xc xd) A) := ha
  have Y0 : Hid (Num w (.slice ya yc yd) E) := he
  have M0 : Hid (Num w (.slice ma mc md) M) := hm
  clear ha he hm hU hR hM11 hA hE
  go_enter Try.func28, Try.ntmps28
  go_wp2_with fail
  refine (CQ.out _ M0.out).mono ?_
  rintro e w1 ⟨ua, uc, ud, rfl, h1, g1⟩
  have U1 : Hid (Num w1 (.slice ua uc ud) U) := h1
  have A1 : Hid (Num w1 (.slice xa xc xd) A) := A0.out.below g1
  have Y1 : Hid (Num w1 (.slice ya yc yd) E) := Y0.out.below g1
  have M1 : Hid (Num w1 (.slice ma mc md) M) := M0.out.below g1
  have G1 : Hid (Below w.heap.size w w1) := g1
  clear h1 g1 A0 Y0 M0
  go_wp2_with fail
  refine (CE.out _ _ _ _ A1.out Y1.out M1.out U1.out).mono ?_
  rintro e w2 ⟨v2, rfl, h2, g2⟩
  have R2 : Hid (Num w2 v2 R) := h2
  clear h2
  go_wp2_with fail
  go_ret
  exact ⟨_, rfl, R2.out, G1.out.trans (g2.mono G1.out.size)⟩

set_option maxHeartbeats 1000000 in
theorem invD_num (A M : Nat) (va vm : Value) (w : World) (ha : Num w va A) (hm : Num w vm M) (hM1 : 1 < M) (hM11 : M < 16777216 ^ 11) (hA : A < M) :
    Calls Try.prog 30 #[va, vm] w fun e w' => ∃ v, e = .returned v ∧ Num w' v (A ^ (M - 2) % M) ∧ Below w.heap.size w w' := by
  obtain ⟨xa, xc, xd, rfl⟩ := ha.shape
  obtain ⟨ma, mc, md, rfl⟩ := hm.shape
  have CS : Hid (∀ v w, Num w (.slice ma mc md) M → Num w v 2 → Calls Try.prog 45 #[.slice ma mc md, v] w fun e w' => ∃ r, e = .returned r ∧ Num w' r (M - 2) ∧ Below w.heap.size w w') := fun v w h h' => sub_num M 2 _ v w h h' 11 hM11 (by omega) (by omega)
  have CE : Hid (∀ v w, Num w (.slice xa xc xd) A → Num w v (M - 2) → Num w (.slice ma mc md) M → Calls Try.prog 28 #[.slice xa xc xd, v, .slice ma mc md] w fun e w' => ∃ r, e = .returned r ∧ Num w' r (A ^ (M - 2) % M) ∧ Below w.heap.size w w') :=
    fun v w h1 h2 h3 => expD_num A (M - 2) M _ v _ w h1 h2 h3 hM1 hM11 hA (by omega)
  obtain ⟨R, hR⟩ : ∃ R, A ^ (M - 2) % M = R := ⟨_, rfl⟩
  rw [hR] at CE ⊢
  have W0 : Below w.heap.size w (w.alloc (.cells #[.int .i64 2] 3)) := (Below.refl _ _).alloc (Nat.le_refl _) _
  have O0 : Hid (Num (w.alloc (.cells #[.int .i64 2] 3)) (.slice (some ⟨w.heap.size, 0, none⟩) 1 1) 2) :=
    ⟨[2], Sl.lit1 w 2 2 rfl, fun j => by rcases j with _ | j <;> simp, Or.inr (by simp), by simp [valD]⟩
  have A0 : Hid (Num _ (.slice xa xc xd) A) := ha.below W0
  have M0 : Hid (Num _ (.slice ma mc md) M) := hm.below W0
  have G0 : Hid (Below w.heap.size w (w.alloc (.cells #[.int .i64 2] 3))) := W0
  clear ha hm hR hM11 hA W0
  go_enter Try.func30, Try.ntmps30
  go_wp2_with fail
  refine (CS.out _ _ M0.out O0.out).mono ?_
  rintro e w1 ⟨v1, rfl, h1, g1⟩
  obtain ⟨ya, yc, yd, rfl⟩ := h1.shape
  have Y1 : Hid (Num w1 (.slice ya yc yd) (M - 2)) := h1
  have A1 : Hid (Num w1 (.slice xa xc xd) A) := A0.out.below g1
  have M1 : Hid (Num w1 (.slice ma mc md) M) := M0.out.below g1
  have G1 : Hid (Below w.heap.size w w1) := G0.out.trans (g1.mono G0.out.size)
  clear h1 g1 A0 M0 O0 G0
  go_wp2_with fail
  refine (CE.out _ _ A1.out Y1.out M1.out).mono ?_
  rintro e w2 ⟨v2, rfl, h2, g2⟩
  have R2 : Hid (Num w2 v2 R) := h2
  clear h2
  go_wp2_with fail
  go_ret
  exact ⟨_, rfl, R2.out, G1.out.trans (g2.mono G1.out.size)⟩

end Go.Proofs.Ytkaekgjpjnnjpaa
