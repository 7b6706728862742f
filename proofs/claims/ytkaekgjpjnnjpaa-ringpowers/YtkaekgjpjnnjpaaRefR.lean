/-
  The contracts of the document's own rest, numerals and residues of layer 3, at the level of numbers. Conditions: as each theorem says.
-/
import Derived.Test.YtkaekgjpjnnjpaaQuo2
import Derived.Test.YtkaekgjpjnnjpaaRingV
namespace Go.Proofs.Ytkaekgjpjnnjpaa
open Go.RowKit
set_option linter.unusedVariables false

theorem four_num (N : Nat) (va : Value) (w : World) (ha : Num w va N) (m : Nat) (hN : N < 16777216 ^ m) (hm : m ≤ 10000) :
    Calls Try.prog 13 #[va] w fun e w' => e = .returned (four (N % M4)) ∧ Below w.heap.size w w' := by
  obtain ⟨l, h1, h2, h3, rfl⟩ := ha
  exact four_any l va w h1 h2 (by have := nz_len l m h2 h3 hN; omega)
theorem bit_num (N : Nat) (va : Value) (i : Nat) (w : World) (ha : Num w va N) (m : Nat) (hN : N < 16777216 ^ m) (hm : m ≤ 10000) (hi : i ≤ 1000000) :
    Calls Try.prog 60 #[va, .int .i64 (i : Int)] w fun e w' => e = .returned (.int .i64 ((N / 2 ^ i % 2 : Nat) : Int)) ∧ Below w.heap.size w w' := by
  obtain ⟨l, h1, h2, h3, rfl⟩ := ha
  have hl := nz_len l m h2 h3 hN
  exact bitR_any l va i w h1 h2 (by omega) hi
theorem down_num (M : Nat) (va : Value) (n : Nat) (w : World) (ha : Num w va M) (m : Nat) (hM : M < 16777216 ^ m) (hm : m ≤ 10000) (hn : n ≤ 100000) :
    Calls Try.prog 61 #[va, .int .i64 (n : Int)] w fun e w' => ∃ v, e = .returned v ∧ Num w' v (M / 2 ^ n) ∧ Below w.heap.size w w' := by
  obtain ⟨l, h1, h2, h3, rfl⟩ := ha
  have hl := nz_len l m h2 h3 hM
  exact downR_any l va n w h1 h2 (by omega) hn
theorem bits_num (M : Nat) (va : Value) (w : World) (ha : Num w va M) (m : Nat) (hM : M < 16777216 ^ m) (hm : m ≤ 10000) :
    Calls Try.prog 67 #[va] w fun e w' => e = .returned (.int .i64 (nbits M : Int)) ∧ Below w.heap.size w w' := by
  obtain ⟨l, h1, h2, h3, rfl⟩ := ha
  have hl := nz_len l m h2 h3 hM
  exact bitsR_any l va w h1 h2 h3 (by omega)

theorem mod_num (A B : Nat) (va vb : Value) (w : World) (ha : Num w va A) (hb : Num w vb B) (hB : 0 < B) (m : Nat) (hA : A < 16777216 ^ m) (hBm : B < 16777216 ^ m) (hm : m ≤ 900) :
    Calls Try.prog 14 #[va, vb] w fun e w' => ∃ r, e = .returned r ∧ Num w' r (A % B) ∧ Below w.heap.size w w' := by
  have C := fun w ha hb => div_num A B va vb w ha hb hB m hA hBm hm
  obtain ⟨xa, xc, xd, rfl⟩ := ha.shape
  obtain ⟨ya, yc, yd, rfl⟩ := hb.shape
  have HA : Hid (Num w (.slice xa xc xd) A) := ha
  have HB' : Hid (Num w (.slice ya yc yd) B) := hb
  clear ha hb hA hBm
  go_enter Try.func14, Try.ntmps14
  go_wp2_with fail
  refine (C _ HA.out HB'.out).mono ?_
  rintro e w1 ⟨q, r, rfl, hq, hr, g1⟩
  clear hq
  have HR : Hid (Num w1 r (A % B)) := hr
  clear hr
  go_wp2_with fail
  go_ret
  exact ⟨_, rfl, HR.out, g1⟩

set_option maxHeartbeats 400000 in
theorem numeralD_num (A M : Nat) (va vb : Value) (w : World) (ha : Num w va A) (hb : Num w vb M) (hM : 0 < M) (hA : A < 16777216 ^ 22) (hMm : M < 16777216 ^ 22) :
    Calls Try.prog 19 #[va, vb] w fun e w' => ∃ r, e = .returned r ∧ Num w' r (A * M4 % M) ∧ Below w.heap.size w w' := by
  have hA2 : A * 2 ^ 256 < 16777216 ^ 33 := by
    rw [show (33 : Nat) = 22 + 11 from rfl, Nat.pow_add]
    exact Nat.mul_lt_mul'' hA (by decide)
  have hM2 : M < 16777216 ^ 33 := Nat.lt_of_lt_of_le hMm (Nat.pow_le_pow_right (by omega) (by omega))
  have C1 := fun w ha => shift_num A va 256 w ha 22 hA (by omega) (by omega)
  have C2 := fun v w ha hb => mod_num (A * 2 ^ 256) M v vb w ha hb hM 33 hA2 hM2 (by omega)
  rw [M4_pow]
  obtain ⟨E, hE⟩ : ∃ E, A * 2 ^ 256 = E := ⟨_, rfl⟩
  rw [hE] at C1 C2 ⊢
  obtain ⟨xa, xc, xd, rfl⟩ := ha.shape
  obtain ⟨ya, yc, yd, rfl⟩ := hb.shape
  have HA : Hid (Num w (.slice xa xc xd) A) := ha
  have HB' : Hid (Num w (.slice ya yc yd) M) := hb
  clear ha hb hA hMm hE hA2 hM2
  go_enter Try.func19, Try.ntmps19
  go_wp2_with fail
  refine (C1 _ HA.out).mono ?_
  rintro e w1 ⟨v, rfl, h1, g1⟩
  obtain ⟨za, zc, zd, rfl⟩ := h1.shape
  have H1 : Hid (Num w1 (.slice za zc zd) E) := h1
  have HB1 : Hid (Num w1 (.slice ya yc yd) M) := HB'.out.below g1
  clear h1
  go_wp2_with fail
  refine (C2 _ _ H1.out HB1.out).mono ?_
  rintro e w2 ⟨v2, rfl, h2, g2⟩
  have H2 : Hid (Num w2 v2 (E % M)) := h2
  clear h2
  go_wp2_with fail
  go_ret
  exact ⟨_, rfl, H2.out, g1.trans (g2.mono g1.size)⟩

theorem halved_val (m v h : Nat) (ho : m % 2 = 1) (hv : v < m) (hh : 2 * h = v ∨ 2 * h = v + m) : h = v * ((m + 1) / 2) % m := by
  have hlt : h < m := by omega
  have e1 : h * (m + 1) % m = h := by rw [Nat.mul_add, Nat.mul_one, Nat.mul_comm, Nat.mul_add_mod, Nat.mod_eq_of_lt hlt]
  have e2 : h * (m + 1) = (2 * h) * ((m + 1) / 2) := by
    rw [Nat.mul_comm 2 h, Nat.mul_assoc, show 2 * ((m + 1) / 2) = m + 1 by omega]
  rw [e2] at e1
  rcases hh with hh | hh
  · rw [hh] at e1; exact e1.symm
  · rw [hh, Nat.add_mul, Nat.add_mul_mod_self_left] at e1; exact e1.symm

set_option maxHeartbeats 400000 in
theorem halved_num (A M : Nat) (va vb : Value) (w : World) (ha : Num w va A) (hb : Num w vb M) (ho : M % 2 = 1) (hA : A < M) (hMm : M < 16777216 ^ 11) :
    Calls Try.prog 42 #[va, vb] w fun e w' => ∃ r, e = .returned r ∧ Num w' r (A * ((M + 1) / 2) % M) ∧ Below w.heap.size w w' := by
  have hA2 : A < 16777216 ^ 11 := Nat.lt_trans hA hMm
  have hS : A + M < 16777216 ^ 12 := by rw [Nat.pow_succ]; omega
  have hA3 : A < 16777216 ^ 12 := by omega
  have CB := fun w ha => bit_num A va 0 w ha 11 hA2 (by omega) (by omega)
  have CA := fun w ha hb => add_num A M va vb w ha hb 11 hA2 hMm (by omega)
  have CD := fun v w ha => down_num (A + M) v 1 w ha 12 hS (by omega) (by omega)
  have CE := fun w ha => down_num A va 1 w ha 12 hA3 (by omega) (by omega)
  simp only [Nat.pow_zero, Nat.div_one, Nat.pow_one] at CB CD CE
  obtain ⟨R, hR⟩ : ∃ R, A * ((M + 1) / 2) % M = R := ⟨_, rfl⟩
  have h1 : A % 2 = 1 → (A + M) / 2 = R := fun h => by rw [← hR]; exact halved_val M A _ ho hA (Or.inr (by omega))
  have h0 : A % 2 = 0 → A / 2 = R := fun h => by rw [← hR]; exact halved_val M A _ ho hA (Or.inl (by omega))
  rw [hR]
  obtain ⟨xa, xc, xd, rfl⟩ := ha.shape
  obtain ⟨ya, yc, yd, rfl⟩ := hb.shape
  have HA : Hid (Num w (.slice xa xc xd) A) := ha
  have HB' : Hid (Num w (.slice ya yc yd) M) := hb
  clear ha hb hMm hR hA2 hS hA3 hA ho
  rcases Nat.mod_two_eq_zero_or_one A with hp | hp
  · have e := h0 hp
    rw [hp] at CB
    rw [e] at CE
    clear h0 h1 CD CA hp e
    go_enter Try.func42, Try.ntmps42
    go_wp2_with fail
    refine (CB _ HA.out).mono ?_
    rintro e w0 ⟨rfl, g0⟩
    have HA0 : Hid (Num w0 (.slice xa xc xd) A) := HA.out.below g0
    have HB0 : Hid (Num w0 (.slice ya yc yd) M) := HB'.out.below g0
    go_wp2_with fail
    refine (CE _ HA0.out).mono ?_
    rintro e w1 ⟨v, rfl, k1, g1'⟩
    have g1 := g0.trans (g1'.mono g0.size)
    have H1 : Hid (Num w1 v R) := k1
    clear k1
    go_wp2_with fail
    go_ret
    exact ⟨_, rfl, H1.out, g1⟩
  · have e := h1 hp
    rw [hp] at CB
    rw [e] at CD
    clear h0 h1 CE hp e
    go_enter Try.func42, Try.ntmps42
    go_wp2_with fail
    refine (CB _ HA.out).mono ?_
    rintro e w0 ⟨rfl, g0⟩
    have HA0 : Hid (Num w0 (.slice xa xc xd) A) := HA.out.below g0
    have HB0 : Hid (Num w0 (.slice ya yc yd) M) := HB'.out.below g0
    go_wp2_with fail
    refine (CA _ HA0.out HB0.out).mono ?_
    rintro e w1 ⟨v, rfl, k1, g1'⟩
    have g1 := g0.trans (g1'.mono g0.size)
    obtain ⟨za, zc, zd, rfl⟩ := k1.shape
    have H1 : Hid (Num w1 (.slice za zc zd) (A + M)) := k1
    clear k1
    go_wp2_with fail
    refine (CD _ _ H1.out).mono ?_
    rintro e w2 ⟨v, rfl, k1, g2⟩
    have H2 : Hid (Num w2 v R) := k1
    clear k1
    go_wp2_with fail
    go_ret
    exact ⟨_, rfl, H2.out, g1.trans (g2.mono g1.size)⟩

theorem half_next (a m i : Nat) : (a * ((m + 1) / 2) ^ i % m) * ((m + 1) / 2) % m = a * ((m + 1) / 2) ^ (i + 1) % m := by
  rw [mul_mod_left', Nat.mul_assoc, ← Nat.pow_succ]

set_option maxHeartbeats 400000 in
theorem residueD_num (A M : Nat) (va vb : Value) (w : World) (ha : Num w va A) (hb : Num w vb M) (ho : M % 2 = 1) (hM : 1 < M) (hA : A < 16777216 ^ 22) (hMm : M < 16777216 ^ 11) :
    Calls Try.prog 17 #[va, vb] w fun e w' => ∃ r, e = .returned r ∧ Num w' r (red M A) ∧ Below w.heap.size w w' := by
  have hM2 : M < 16777216 ^ 22 := Nat.lt_of_lt_of_le hMm (Nat.pow_le_pow_right (by omega) (by omega))
  have C1 := fun w ha hb => mod_num A M va vb w ha hb (by omega) 22 hA hM2 (by omega)
  have C2 : Hid (∀ (i : Nat) v w, Num w v (A * ((M + 1) / 2) ^ i % M) → Num w vb M → Calls Try.prog 42 #[v, vb] w fun e w' => ∃ r, e = .returned r ∧ Num w' r (A * ((M + 1) / 2) ^ (i + 1) % M) ∧ Below w.heap.size w w') := by
    intro i v w h1 h2
    have := halved_num _ M v vb w h1 h2 ho (Nat.mod_lt _ (by omega)) hMm
    rwa [half_next] at this
  have E0 : Hid (A % M = A * ((M + 1) / 2) ^ 0 % M) := by unfold Hid; rw [Nat.pow_zero, Nat.mul_one]
  unfold red ri
  obtain ⟨xa, xc, xd, rfl⟩ := ha.shape
  obtain ⟨ya, yc, yd, rfl⟩ := hb.shape
  have HA : Hid (Num w (.slice xa xc xd) A) := ha
  have HB' : Hid (Num w (.slice ya yc yd) M) := hb
  clear ha hb hA hMm hM2
  go_enter Try.func17, Try.ntmps17
  go_wp2_with fail
  refine (C1 _ HA.out HB'.out).mono ?_
  rintro e w1 ⟨v, rfl, h1, g1⟩
  rw [E0.out] at h1
  have H1 : Hid (Num w1 v (A * ((M + 1) / 2) ^ 0 % M)) := h1
  clear h1
  go_wp2_with fail
  go_loopw [5, 6] (fun v y wr => ∃ i : Nat, y = .int .i64 (i : Int) ∧ i ≤ 256 ∧ Hid (Num wr v (A * ((M + 1) / 2) ^ i % M)) ∧ Below w.heap.size w wr) (fun _ y _ => 256 - (intOf y).toNat)
  case atStart => exact ⟨0, rfl, by omega, H1, g1⟩
  case round =>
    obtain ⟨i, rfl, hi, H, hB⟩ := hrel
    have Hb : Hid (Below w.heap.size w wr) := hB
    by_cases hlt : i < 256
    · have hlt' : (i : Int) < 256 := by omega
      obtain ⟨za, zc, zd, rfl⟩ := H.out.shape
      have HB2 : Hid (Num wr (.slice ya yc yd) M) := HB'.out.below hB
      clear hB
      go_wp2_with fail
      refine (C2.out i _ _ H.out HB2.out).mono ?_
      rintro e w2 ⟨v2, rfl, h2, g2⟩
      have H2 : Hid (Num w2 v2 (A * ((M + 1) / 2) ^ (i + 1) % M)) := h2
      clear h2
      go_wp2_with fail
      go_roundw
      case rel => exact ⟨i + 1, by go_num, by omega, H2, Hb.out.trans (g2.mono Hb.out.size)⟩
      case measure => simp [intOf]; omega
    · obtain rfl : i = 256 := by omega
      go_wp2_with fail
      go_ret
      exact ⟨_, rfl, H.out, Hb.out⟩

end Go.Proofs.Ytkaekgjpjnnjpaa
