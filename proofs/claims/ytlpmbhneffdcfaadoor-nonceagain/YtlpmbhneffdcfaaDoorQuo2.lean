/-
  The contract of the document's own Div: quotient and rest. Conditions: as each theorem says.
-/
import Derived.Test.YtlpmbhneffdcfaaDoorQuo
namespace Go.Proofs.YtlpmbhneffdcfaaDoor
open Go.RowKit
set_option linter.unusedVariables false

theorem digits_num (A B : Nat) (va vb : Value) (w : World) (ha : Num w va A) (hb : Num w vb B) (hB : 0 < B) (m : Nat) (hA : A < 16777216 ^ m) (hBm : B < 16777216 ^ m) (hm : m ≤ 1000) :
    Calls Tryd.prog 64 #[va, vb] w fun e w' => ∃ q r, e = .returned (.tuple #[q, r]) ∧ Num w' q (A / B) ∧ Num w' r (A % B) ∧ Below w.heap.size w w' := by
  obtain ⟨la, a1, a2, a3, rfl⟩ := ha
  obtain ⟨lb, b1, b2, b3, rfl⟩ := hb
  have h1 := nz_len la m a2 a3 hA
  have h2 := nz_len lb m b2 b3 hBm
  have h3 : lb.length ≠ 0 := fun h => by
    have : lb = [] := List.eq_nil_of_length_eq_zero h
    subst this
    simp [valD] at hB
  exact digits_any la lb va vb w a1 b1 a2 b2 b3 (lb.length - 1) (by omega) (by omega) (by omega)

theorem scale_lt (m A f : Nat) (hA : A < 16777216 ^ m) (hf : f ≤ 16777216) : A * f < 16777216 ^ (m + 1) := by
  rw [Nat.pow_succ]
  exact Nat.lt_of_le_of_lt (Nat.mul_le_mul_left A hf) (Nat.mul_lt_mul_of_pos_right hA (by omega))

set_option maxHeartbeats 1000000 in
theorem div_num (A B : Nat) (va vb : Value) (w : World) (ha : Num w va A) (hb : Num w vb B) (hB : 0 < B) (m : Nat) (hA : A < 16777216 ^ m) (hBm : B < 16777216 ^ m) (hm : m ≤ 900) :
    Calls Tryd.prog 45 #[va, vb] w fun e w' => ∃ q r, e = .returned (.tuple #[q, r]) ∧ Num w' q (A / B) ∧ Num w' r (A % B) ∧ Below w.heap.size w w' := by
  have HA : Hid (Num w va A) := ha
  have HBn : Hid (Num w vb B) := hb
  obtain ⟨aa, ac, ad, rfl⟩ := ha.shape
  obtain ⟨lb, b1, b2, b3, b4⟩ := hb
  have h2 := nz_len lb m b2 b3 (by rw [b4]; exact hBm)
  have h3 : lb.length ≠ 0 := fun h => by
    have : lb = [] := List.eq_nil_of_length_eq_zero h
    subst this
    simp [valD] at b4
    omega
  obtain ⟨n, hn⟩ : ∃ n, lb.length = n + 1 := ⟨lb.length - 1, by omega⟩
  have hbt := top_pos lb n hn b3
  obtain ⟨bp, capb, rfl, hcapb, -, hcb⟩ := b1
  obtain ⟨bb, ob, rfl, hbb, hcellb⟩ := hcb n (by omega)
  obtain ⟨bt, hbte⟩ : ∃ bt, lb.getD n 0 = bt := ⟨_, rfl⟩
  rw [hbte] at hcellb hbt
  have hbt1 : (bt : Int) ≤ 16777215 := by have := b2 n; rw [hbte] at this; omega
  rw [hn] at HBn hcapb ⊢
  have hn' : (n : Int) ≤ 1000 := by omega
  obtain ⟨f, hf⟩ : ∃ f : Nat, (16777216 : Int) / ((bt : Int) + 1) = (f : Int) := ⟨16777216 / (bt + 1), by simp⟩
  have hf0 : 1 ≤ f := by
    have h : 1 ≤ 16777216 / (bt + 1) := (Nat.le_div_iff_mul_le (by omega)).2 (by omega)
    have e : ((16777216 / (bt + 1) : Nat) : Int) = (16777216 : Int) / ((bt : Int) + 1) := by simp
    rw [hf] at e
    omega
  have hf1 : f ≤ 8388608 := by
    have h : 16777216 / (bt + 1) ≤ 16777216 / 2 := Nat.div_le_div_left (by omega) (by omega)
    have e : ((16777216 / (bt + 1) : Nat) : Int) = (16777216 : Int) / ((bt : Int) + 1) := by simp
    rw [hf] at e
    omega
  have hfi : (f : Int) ≤ 8388608 := by omega
  have hbt4 : (((bt : Int) + 1) == 0) = false := beq_eq_false_iff_ne.2 (by omega)
  have hbt5 : ¬ (bt : Int) + 1 = 0 := by omega
  clear b2 b3 b4 h2 h3 hcb hbte
  have EQ : Hid (A * f / (B * f) = A / B) := Nat.mul_div_mul_right A B (by omega)
  have ER : Hid (A * f % (B * f) = A % B * f) := by unfold Hid; rw [Nat.mul_mod_mul_right]
  have HBm : Hid (B < 16777216 ^ m) := hBm
  have HAm : Hid (A < 16777216 ^ m) := hA
  have HRm : Hid (A % B < 16777216 ^ m) := Nat.lt_trans (Nat.mod_lt A hB) hBm
  clear hA hBm
  go_enter Tryd.func45, Tryd.ntmps45
  go_wp2_with fail
  refine (small_num A _ f _ HA.out m HAm.out (by omega) (by omega)).mono ?_
  rintro e w1 ⟨v1, rfl, hN1, g1⟩
  obtain ⟨a1, c1, d1, rfl⟩ := hN1.shape
  have N1 : Hid (Num w1 (.slice a1 c1 d1) (A * f)) := hN1
  have B1 : Hid (Num w1 (.slice (some ⟨bb, ob, none⟩) (n + 1) capb) B) := HBn.out.below g1
  have G1 : Hid (Below w.heap.size w w1) := g1
  clear hN1 g1 HBn HA hcellb
  go_wp2_with fail
  refine (small_num B _ f _ B1.out m HBm.out (by omega) (by omega)).mono ?_
  rintro e w2 ⟨v2, rfl, hN2, g2⟩
  obtain ⟨a2, c2, d2, rfl⟩ := hN2.shape
  have N2 : Hid (Num w2 (.slice a2 c2 d2) (B * f)) := hN2
  have N1' : Hid (Num w2 (.slice a1 c1 d1) (A * f)) := N1.out.below g2
  have G2 : Hid (Below w.heap.size w w2) := G1.out.trans (g2.mono G1.out.size)
  clear hN2 g2 N1 B1 G1
  go_wp2_with fail
  refine (digits_num (A * f) (B * f) _ _ _ N1'.out N2.out (Nat.mul_pos hB (by omega)) (m + 1) (scale_lt m A f HAm.out (by omega)) (scale_lt m B f HBm.out (by omega)) (by omega)).mono ?_
  rintro e w3 ⟨v3, v4, rfl, hN3, hN4, g3⟩
  rw [EQ.out] at hN3
  rw [ER.out] at hN4
  obtain ⟨a3, c3, d3, rfl⟩ := hN3.shape
  obtain ⟨a4, c4, d4, rfl⟩ := hN4.shape
  have N3 : Hid (Num w3 (.slice a3 c3 d3) (A / B)) := hN3
  have N4 : Hid (Num w3 (.slice a4 c4 d4) (A % B * f)) := hN4
  have G3 : Hid (Below w.heap.size w w3) := G2.out.trans (g3.mono G2.out.size)
  clear hN3 hN4 g3 G2 N1' N2
  by_cases hfo : 1 < f
  · have hfo' : (1 : Int) < (f : Int) := by omega
    have N5 : Hid (∀ o, Num (w3.alloc o) (.slice a4 c4 d4) (A % B * f)) := fun o => N4.out.below ((Below.refl _ _).alloc (Nat.le_refl _) _)
    have NF : Hid (Num (w3.alloc (.cells #[.int .i64 (f : Int)] 3)) (.slice (some ⟨w3.heap.size, 0, none⟩) 1 1) f) := ⟨[f], Sl.lit1 w3 f _ rfl, Dg.cons Dg.nil (by omega), Or.inr (by simp; omega), by simp [valD]⟩
    have ED : Hid (A % B * f / f = A % B) := Nat.mul_div_cancel _ (by omega)
    have FM : Hid (f < 16777216 ^ (m + 1)) := by
      unfold Hid
      rw [Nat.pow_succ]
      have : 1 * 16777216 ≤ 16777216 ^ m * 16777216 := Nat.mul_le_mul_right _ (Nat.pow_pos (by omega))
      omega
    go_wp2_with fail
    refine (digits_num (A % B * f) f _ _ _ (N5.out _) NF.out (by omega) (m + 1) (scale_lt m _ f HRm.out (by omega)) FM.out (by omega)).mono ?_
    rintro e w4 ⟨v5, v6, rfl, hN5, hN6, g4⟩
    rw [ED.out] at hN5
    obtain ⟨a5, c5, d5, rfl⟩ := hN5.shape
    obtain ⟨a6, c6, d6, rfl⟩ := hN6.shape
    have g5 : Below w3.heap.size w3 w4 := ((Below.refl _ _).alloc (Nat.le_refl _) _).trans (g4.mono (by simp))
    have M5 : Hid (Num w4 (.slice a5 c5 d5) (A % B)) := hN5
    have M3 : Hid (Num w4 (.slice a3 c3 d3) (A / B)) := N3.out.below g5
    have G4 : Hid (Below w.heap.size w w4) := G3.out.trans (g5.mono G3.out.size)
    clear hN5 hN6 g4 g5 N5 NF N3 N4 G3
    go_wp2_with fail
    go_ret2
    exact ⟨_, _, rfl, M3.out, M5.out, G4.out⟩
  · have hfo' : ¬ (1 : Int) < (f : Int) := by omega
    obtain rfl : f = 1 := by omega
    have N5 : Hid (Num w3 (.slice a4 c4 d4) (A % B)) := by have := N4.out; rwa [Nat.mul_one] at this
    clear N4
    go_wp2_with fail
    go_ret2
    exact ⟨_, _, rfl, N3.out, N5.out, G3.out⟩

end Go.Proofs.YtlpmbhneffdcfaaDoor
