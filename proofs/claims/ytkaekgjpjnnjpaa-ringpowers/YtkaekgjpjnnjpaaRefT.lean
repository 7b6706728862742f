/-
  The contract of the document's Red: Barrett's way to the rest. Conditions: as each theorem says.
-/
import Derived.Test.YtkaekgjpjnnjpaaRefS
namespace Go.Proofs.Ytkaekgjpjnnjpaa
open Go.RowKit
set_option linter.unusedVariables false

theorem sl_unique {w : World} {v : Value} {l l' : List Nat} (h : Sl w v l) (h' : Sl w v l') : l = l' := by
  obtain ⟨a, c, e, -, -, k⟩ := h
  obtain ⟨a', c', e', -, -, k'⟩ := h'
  rw [e] at e'
  simp only [Value.slice.injEq] at e'
  obtain ⟨rfl, hl, rfl⟩ := e'
  apply List.ext_getElem?
  intro j
  by_cases hj : j < l.length
  · obtain ⟨b, o, e1, -, e2⟩ := k j hj
    obtain ⟨b', o', e1', -, e2'⟩ := k' j (by omega)
    rw [e1] at e1'
    simp only [Option.some.injEq, Addr.mk.injEq, and_true] at e1'
    obtain ⟨rfl, rfl⟩ := e1'
    rw [e2] at e2'
    simp only [Option.some.injEq, Value.int.injEq, true_and] at e2'
    have hj' : j < l'.length := by omega
    simp only [List.getD_eq_getElem?_getD, List.getElem?_eq_getElem hj, List.getElem?_eq_getElem hj', Option.getD_some] at e2' ⊢
    congr 1
    omega
  · rw [List.getElem?_eq_none (by omega), List.getElem?_eq_none (by omega)]
theorem num_unique {w : World} {v : Value} {N N' : Nat} (h : Num w v N) (h' : Num w v N') : N = N' := by
  obtain ⟨l, h1, -, -, rfl⟩ := h
  obtain ⟨l', h1', -, -, rfl⟩ := h'
  rw [sl_unique h1 h1']
theorem num_eps {w : World} {v : Value} {N : Nat} (h : Num w v N) : Classical.epsilon (fun n => Num w v n) = N := num_unique (Classical.epsilon_spec ⟨N, h⟩) h

/-- Block g holds these two values. -/
structure Bx2 (W : World) (g : Nat) (v0 v1 : Value) : Prop where
  lt : g < W.heap.size
  c0 : W.cell? ⟨g, 0, none⟩ = some v0
  c1 : W.cell? ⟨g, 1, none⟩ = some v1
theorem Bx2.below {W W' : World} {g : Nat} {v0 v1 : Value} (h : Bx2 W g v0 v1) (hb : Below W.heap.size W W') : Bx2 W' g v0 v1 :=
  ⟨Nat.lt_of_lt_of_le h.lt hb.size, (hb.cell (p := ⟨g, 0, none⟩) h.lt).trans h.c0, (hb.cell (p := ⟨g, 1, none⟩) h.lt).trans h.c1⟩
theorem Bx2.alloc {W : World} {g : Nat} {v0 v1 : Value} (h : Bx2 W g v0 v1) (o : Obj) : Bx2 (W.alloc o) g v0 v1 := h.below (Below.alloc (Below.refl _ _) (Nat.le_refl _) o)
theorem Bx2.drew {W : World} {g : Nat} {v0 v1 : Value} (h : Bx2 W g v0 v1) : Bx2 W.drew g v0 v1 := h.below (Below.refl _ _).drew
theorem Bx2.new (W : World) (v0 v1 : Value) (t : TypeId) : Bx2 (W.alloc (.cells #[v0, v1] t)) W.heap.size v0 v1 := ⟨by simp, by simp, by simp⟩

theorem barrett (A M c : Nat) (hc : 0 < c) : A / 16777216 ^ (c - 1) * (16777216 ^ (2 * c) / M) / 16777216 ^ (c + 1) * M ≤ A := by
  have hB : 0 < 16777216 ^ (c + 1) := Nat.pos_of_ne_zero (by simp)
  have e : 16777216 ^ (2 * c) = 16777216 ^ (c - 1) * 16777216 ^ (c + 1) := by rw [← Nat.pow_add]; congr 1; omega
  generalize 16777216 ^ (2 * c) = P at *
  generalize 16777216 ^ (c + 1) = Q at *
  generalize 16777216 ^ (c - 1) = R at *
  have h1 : A / R * (P / M) / Q * Q ≤ A / R * (P / M) := Nat.div_mul_le_self _ _
  have h2 : P / M * M ≤ P := Nat.div_mul_le_self _ _
  have h3 : A / R * R ≤ A := Nat.div_mul_le_self _ _
  refine Nat.le_of_mul_le_mul_right ?_ hB
  calc A / R * (P / M) / Q * M * Q = A / R * (P / M) / Q * Q * M := Nat.mul_right_comm _ _ _
    _ ≤ A / R * (P / M) * M := Nat.mul_le_mul_right _ h1
    _ = A / R * (P / M * M) := Nat.mul_assoc _ _ _
    _ ≤ A / R * P := Nat.mul_le_mul_left _ h2
    _ = A / R * R * Q := by rw [e, Nat.mul_assoc]
    _ ≤ A * Q := Nat.mul_le_mul_right _ h3

theorem sub_mul_mod (A q M : Nat) (h : q * M ≤ A) : (A - q * M) % M = A % M := by
  have : A = A - q * M + q * M := by omega
  rw [this, Nat.add_mul_mod_self_right]
  congr 1
  omega

set_option maxHeartbeats 2000000 in
theorem red_num (A M : Nat) (va : Value) (ma ua : Option Addr) (mc md uc ud : Nat) (w : World) (ha : Num w va A) (hm : Num w (.slice ma mc md) M) (hu : Num w (.slice ua uc ud) (16777216 ^ (2 * mc) / M)) (hM : 0 < M) (hM11 : M < 16777216 ^ 11) (hA : A < 16777216 ^ 22) :
    Calls Try.prog 66 #[.agg #[.slice ma mc md, .slice ua uc ud], va] w fun e w' => ∃ v, e = .returned v ∧ Num w' v (A % M) ∧ Below w.heap.size w w' := by
  obtain ⟨xa, xc, xd, rfl⟩ := ha.shape
  have HA : Hid (Num w (.slice xa xc xd) A) := ha
  have HM : Hid (Num w (.slice ma mc md) M) := hm
  have HU : Hid (Num w (.slice ua uc ud) (16777216 ^ (2 * mc) / M)) := hu
  have hmc0 : 0 < mc := ((num_len hm).2 hM).1
  have hmc : mc ≤ 11 := by
    rcases Nat.lt_or_ge 11 mc with h | h
    · have h1 := ((num_len hm).2 hM).2
      have h2 : 16777216 ^ 11 ≤ 16777216 ^ (mc - 1) := Nat.pow_le_pow_right (by omega) (by omega)
      omega
    · exact h
  have hxc : xc ≤ 22 := by
    rcases Nat.lt_or_ge 22 xc with h | h
    · rcases Nat.eq_zero_or_pos A with h0 | h0
      · obtain ⟨l, ⟨a', cap, e, -⟩, h2, h3, h4⟩ := ha
        simp only [Value.slice.injEq] at e
        have := nz_len l 22 h2 h3 (by rw [h4]; exact hA)
        omega
      · have h1 := ((num_len ha).2 h0).2
        have h2 : 16777216 ^ 22 ≤ 16777216 ^ (xc - 1) := Nat.pow_le_pow_right (by omega) (by omega)
        omega
    · exact h
  have hM22 : M < 16777216 ^ 22 := Nat.lt_of_lt_of_le hM11 (Nat.pow_le_pow_right (by omega) (by omega))
  have hxc' : (xc : Int) ≤ 22 := by omega
  have hmc' : (mc : Int) ≤ 11 := by omega
  have hmc0' : (0 : Int) < mc := by omega
  clear ha hm hu
  by_cases hbig : 2 * mc < xc
  · have hb' : 2 * (mc : Int) < xc := by omega
    have C := fun w ha hb => mod_num A M (.slice xa xc xd) (.slice ma mc md) w ha hb hM 22 hA hM22 (by omega)
    go_enter Try.func66, Try.ntmps66
    go_wp2_with fail
    refine (C _ (HA.out.below ((Below.refl _ _).alloc (Nat.le_refl _) _)) (HM.out.below ((Below.refl _ _).alloc (Nat.le_refl _) _))).mono ?_
    rintro e w1 ⟨v, rfl, h1, g1⟩
    have H1 : Hid (Num w1 v (A % M)) := h1
    clear h1
    go_wp2_with fail
    go_ret
    exact ⟨_, rfl, H1.out, ((Below.refl _ _).alloc (Nat.le_refl _) _).trans (g1.mono (by simp))⟩
  · have hb' : ¬ 2 * (mc : Int) < xc := by omega
    have hv1 : A / 16777216 ^ (mc - 1) < 16777216 ^ 22 := Nat.lt_of_le_of_lt (Nat.div_le_self _ _) hA
    have hv2 : 16777216 ^ (2 * mc) / M < 16777216 ^ 23 := Nat.lt_of_le_of_lt (Nat.div_le_self _ _) (Nat.pow_lt_pow_right (by omega) (by omega))
    have hbar := barrett A M mc hmc0
    obtain ⟨U, hU⟩ : ∃ U, 16777216 ^ (2 * mc) / M = U := ⟨_, rfl⟩
    rw [hU] at HU hv2 hbar
    obtain ⟨X, hX⟩ : ∃ X, A / 16777216 ^ (mc - 1) = X := ⟨_, rfl⟩
    rw [hX] at hv1 hbar
    obtain ⟨q, hq⟩ : ∃ q, X * U / 16777216 ^ (mc + 1) = q := ⟨_, rfl⟩
    rw [hq] at hbar
    have hX23 : X < 16777216 ^ 23 := Nat.lt_trans hv1 (Nat.pow_lt_pow_right (by omega) (by omega))
    have hXU : X * U < 16777216 ^ 46 := by
      rw [show (46 : Nat) = 23 + 23 from rfl, Nat.pow_add]
      exact Nat.mul_lt_mul'' hX23 hv2
    have hq46 : q < 16777216 ^ 46 := by rw [← hq]; exact Nat.lt_of_le_of_lt (Nat.div_le_self _ _) hXU
    have hM46 : M < 16777216 ^ 46 := Nat.lt_of_lt_of_le hM11 (Nat.pow_le_pow_right (by omega) (by omega))
    obtain ⟨k1, hk1⟩ : ∃ k1 : Nat, (mc : Int) - 1 = (k1 : Int) := ⟨mc - 1, by omega⟩
    obtain ⟨k2, hk2⟩ : ∃ k2 : Nat, (mc : Int) + 1 = (k2 : Int) := ⟨mc + 1, by omega⟩
    have hw1 : IntKind.i64.wrap (k1 : Int) = (k1 : Int) := by rw [IntKind.wrap_i64]; omega
    have hw2 : IntKind.i64.wrap (k2 : Int) = (k2 : Int) := by rw [IntKind.wrap_i64]; omega
    have C1 : Hid (∀ w, Num w (.slice xa xc xd) A → Calls Try.prog 76 #[.slice xa xc xd, .int .i64 (k1 : Int)] w fun e w' => ∃ v, e = .returned v ∧ Num w' v X ∧ w' = w) := by
      intro w h; have := upper_num A k1 _ w h (by omega); rwa [show k1 = mc - 1 by omega, hX, show mc - 1 = k1 by omega] at this
    have C2 : Hid (∀ v w, Num w v X → Num w (.slice ua uc ud) U → Calls Try.prog 26 #[v, .slice ua uc ud] w fun e w' => ∃ r, e = .returned r ∧ Num w' r (X * U) ∧ Below w.heap.size w w') := fun v w h h' => ref_mul_num X U v _ w h h' 23 hX23 hv2 (by omega)
    have C3 : Hid (∀ v w, Num w v (X * U) → Calls Try.prog 76 #[v, .int .i64 (k2 : Int)] w fun e w' => ∃ v, e = .returned v ∧ Num w' v q ∧ w' = w) := by
      intro v w h; have := upper_num (X * U) k2 _ w h (by omega); rwa [show k2 = mc + 1 by omega, hq, show mc + 1 = k2 by omega] at this
    have C4 : Hid (∀ v w, Num w v q → Num w (.slice ma mc md) M → Calls Try.prog 26 #[v, .slice ma mc md] w fun e w' => ∃ r, e = .returned r ∧ Num w' r (q * M) ∧ Below w.heap.size w w') := fun v w h h' => ref_mul_num q M v _ w h h' 46 hq46 hM46 (by omega)
    have C5 : Hid (∀ v w, Num w (.slice xa xc xd) A → Num w v (q * M) → Calls Try.prog 45 #[.slice xa xc xd, v] w fun e w' => ∃ r, e = .returned r ∧ Num w' r (A - q * M) ∧ Below w.heap.size w w') := fun v w h h' => sub_num A (q * M) _ v w h h' 22 hA (by omega) hbar
    have R0 : Hid ((A - q * M) % M = A % M ∧ A - q * M < 16777216 ^ 22) := ⟨sub_mul_mod A q M hbar, by omega⟩
    obtain ⟨r0, hr0⟩ : ∃ r0, A - q * M = r0 := ⟨_, rfl⟩
    rw [hr0] at R0 C5
    obtain ⟨qM, hqM⟩ : ∃ qM, q * M = qM := ⟨_, rfl⟩
    rw [hqM] at C4 C5
    obtain ⟨XU, hXU'⟩ : ∃ XU, X * U = XU := ⟨_, rfl⟩
    rw [hXU'] at C2 C3
    have C6 : Hid (∀ R v w, R < 16777216 ^ 22 → Num w v R → Num w (.slice ma mc md) M → Calls Try.prog 74 #[v, .slice ma mc md] w fun e w' => e = .returned (.int .i64 (ord (R : Int) (M : Int))) ∧ Below w.heap.size w w') := fun R v w hR h h' => cmp_num R M v _ w h h' 22 hR hM22 (by omega)
    have C7 : Hid (∀ R v w, R < 16777216 ^ 22 → M ≤ R → Num w v R → Num w (.slice ma mc md) M → Calls Try.prog 45 #[v, .slice ma mc md] w fun e w' => ∃ r, e = .returned r ∧ Num w' r (R - M) ∧ Below w.heap.size w w') := fun R v w hR hRM h h' => sub_num R M v _ w h h' 22 hR (by omega) hRM
    have B0 : Hid (Bx2 (w.alloc (.cells #[.slice ma mc md, .slice ua uc ud] 64)) w.heap.size (.slice ma mc md) (.slice ua uc ud)) := Bx2.new w _ _ _
    have D0 : Below w.heap.size w (w.alloc (.cells #[.slice ma mc md, .slice ua uc ud] 64)) := (Below.refl _ _).alloc (Nat.le_refl _) _
    have A0 := (show Hid _ from HA.out.below D0)
    have M0 := (show Hid _ from HM.out.below D0)
    have U0 := (show Hid _ from HU.out.below D0)
    clear hr0 hqM hXU' hbar hv1 hv2 hX hU hq hX23 hXU hq46 hM46 hM11 hA hM22 HA HM HU
    go_enter Try.func66, Try.ntmps66
    go_wp2_with fail
    refine wp_cut (fun V => Below w.heap.size w V ∧ Bx2 V w.heap.size (.slice ma mc md) (.slice ua uc ud) ∧ Num V (.slice xa xc xd) A ∧ Num V (.slice ma mc md) M ∧ Num V (.slice ua uc ud) U) ⟨D0, B0.out, A0.out, M0.out, U0.out⟩ ?_
    clear D0 B0 A0 M0 U0
    rintro w1 ⟨hG, hB, hA, hM', hU⟩
    have G1 : Hid (Below w.heap.size w w1) := hG
    have B1 : Hid (Bx2 w1 w.heap.size (.slice ma mc md) (.slice ua uc ud)) := hB
    have A1 : Hid (Num w1 (.slice xa xc xd) A) := hA
    have M1 : Hid (Num w1 (.slice ma mc md) M) := hM'
    have U1 : Hid (Num w1 (.slice ua uc ud) U) := hU
    clear hG hB hA hM' hU
    have K : w1.drew.cell? ⟨w.heap.size, 1, none⟩ = some (.slice ua uc ud) := B1.out.drew.c1
    have D1 : Hid (Below w1.heap.size w1 w1.drew) := (Below.refl _ _).drew
    go_region_held3 (fun w' => w'.cell? ⟨w.heap.size, 1, none⟩ = some (.slice ua uc ud)) (assumption)
      (first
        | (go_at_call 76; have gg := G3; clear gg; (with_reducible refine (C3.out _ _ P3.out).mono ?_); (rintro e w4 ⟨v4, rfl, h4, hw4⟩; rw [hw4] at h4 ⊢; obtain ⟨ra, rc, rd, rfl⟩ := h4.shape; have Q3 : Hid (Num w3 (.slice ra rc rd) q) := h4; clear h4 hw4 w4 P3))
        | (go_at_call 26; have gg := G2; clear gg; (with_reducible refine (C2.out _ _ X2.out U2.out).mono ?_); (rintro e w3 ⟨v3, rfl, h3, g3⟩; obtain ⟨pa, pc, pd, rfl⟩ := h3.shape; have P3 : Hid (Num w3 (.slice pa pc pd) XU) := h3; have G3 : Hid (Below w.heap.size w w3) := G2.out.trans (g3.mono G2.out.size); have B3 : Hid (Bx2 w3 w.heap.size (.slice ma mc md) (.slice ua uc ud)) := B2.out.below g3; have A3 : Hid (Num w3 (.slice xa xc xd) A) := A2.out.below g3; have M3 : Hid (Num w3 (.slice ma mc md) M) := M2.out.below g3; clear K; have K : w3.cell? ⟨w.heap.size, 1, none⟩ = some (.slice ua uc ud) := B3.out.c1; clear h3 g3 G2 B2 A2 M2 U2 X2))
        | (go_at_call 76; have gg := G1; clear gg; (with_reducible refine (C1.out _ (A1.out.below D1.out)).mono ?_); (rintro e w2 ⟨v2, rfl, h2, hx2⟩; have g2 : Below w1.heap.size w1 w2 := hx2.symm ▸ D1.out; obtain ⟨ta, tc, td, rfl⟩ := h2.shape; have X2 : Hid (Num w2 (.slice ta tc td) X) := h2; have G2 : Hid (Below w.heap.size w w2) := G1.out.trans (g2.mono G1.out.size); have B2 : Hid (Bx2 w2 w.heap.size (.slice ma mc md) (.slice ua uc ud)) := B1.out.below g2; have A2 : Hid (Num w2 (.slice xa xc xd) A) := A1.out.below g2; have M2 : Hid (Num w2 (.slice ma mc md) M) := M1.out.below g2; have U2 : Hid (Num w2 (.slice ua uc ud) U) := U1.out.below g2; clear K; have K : w2.cell? ⟨w.heap.size, 1, none⟩ = some (.slice ua uc ud) := B2.out.c1; clear h2 hx2 g2 G1 B1 A1 M1 U1 D1)))
    clear K
    obtain ⟨bl, b0, b1⟩ := B3.out
    go_wp2_with fail
    refine (C4.out _ _ Q3.out M3.out).mono ?_
    rintro e w5 ⟨v5, rfl, h5, g5⟩
    obtain ⟨sa, sc, sd, rfl⟩ := h5.shape
    have S5 : Hid (Num w5 (.slice sa sc sd) qM) := h5
    have G5 : Hid (Below w.heap.size w w5) := G3.out.trans (g5.mono G3.out.size)
    have B5 : Hid (Bx2 w5 w.heap.size (.slice ma mc md) (.slice ua uc ud)) := B3.out.below g5
    have A5 : Hid (Num w5 (.slice xa xc xd) A) := A3.out.below g5
    have M5 : Hid (Num w5 (.slice ma mc md) M) := M3.out.below g5
    clear h5 g5 G3 B3 A3 M3 Q3 bl b0 b1
    go_wp2_with fail
    refine (C5.out _ _ A5.out S5.out).mono ?_
    rintro e w6 ⟨v6, rfl, h6, g6⟩
    have N6 : Hid (Num w6 v6 r0) := h6
    have G6 : Hid (Below w.heap.size w w6) := G5.out.trans (g6.mono G5.out.size)
    have B6 : Hid (Bx2 w6 w.heap.size (.slice ma mc md) (.slice ua uc ud)) := B5.out.below g6
    have M6 : Hid (Num w6 (.slice ma mc md) M) := M5.out.below g6
    clear h6 g6 G5 B5 A5 M5 S5
    go_wp2_with fail
    go_loopw [7] (fun v wr => ∃ R : Nat, Hid (Num wr v R) ∧ Hid (R % M = A % M ∧ R < 16777216 ^ 22) ∧ Hid (Num wr (.slice ma mc md) M) ∧ Hid (Bx2 wr w.heap.size (.slice ma mc md) (.slice ua uc ud)) ∧ Hid (Below w.heap.size w wr)) (fun v wr => Classical.epsilon (fun n => Num wr v n))
    case atStart => exact ⟨r0, N6, R0, M6, B6, G6⟩
    case round =>
      obtain ⟨R, hN, hR, hMn, hBx, hGb⟩ := hrel
      clear N6 R0 M6 B6 G6
      obtain ⟨ya, yc, yd, rfl⟩ := hN.out.shape
      obtain ⟨bl, b0, b1⟩ := hBx.out
      by_cases hge : M ≤ R
      · have ho : ¬ ord (R : Int) (M : Int) < 0 := by
          rcases Nat.eq_or_lt_of_le hge with h | h
          · rw [h, ord_eq rfl]; omega
          · rw [ord_gt (by omega)]; omega
        have hE : Hid (Classical.epsilon (fun n => Num wr (.slice ya yc yd) n) = R) := num_eps hN.out
        have hR2 : Hid ((R - M) % M = A % M ∧ R - M < 16777216 ^ 22) := ⟨by rw [← hR.out.1]; exact (Nat.mod_eq_sub_mod hge).symm, by have := hR.out.2; omega⟩
        go_wp2_with fail
        refine (C6.out R _ _ hR.out.2 hN.out hMn.out).mono ?_
        rintro e w7 ⟨rfl, g7⟩
        have N7 : Hid (Num w7 (.slice ya yc yd) R) := hN.out.below g7
        have M7 : Hid (Num w7 (.slice ma mc md) M) := hMn.out.below g7
        have B7 : Hid (Bx2 w7 w.heap.size (.slice ma mc md) (.slice ua uc ud)) := hBx.out.below g7
        have G7 : Hid (Below w.heap.size w w7) := hGb.out.trans (g7.mono hGb.out.size)
        clear g7 bl b0 b1
        obtain ⟨bl, b0, b1⟩ := B7.out
        go_wp2_with fail
        refine (C7.out R _ _ hR.out.2 hge N7.out M7.out).mono ?_
        rintro e w8 ⟨v8, rfl, h8, g8⟩
        have N8 : Hid (Num w8 v8 (R - M)) := h8
        have M8 : Hid (Num w8 (.slice ma mc md) M) := M7.out.below g8
        have B8 : Hid (Bx2 w8 w.heap.size (.slice ma mc md) (.slice ua uc ud)) := B7.out.below g8
        have G8 : Hid (Below w.heap.size w w8) := G7.out.trans (g8.mono G7.out.size)
        clear h8 g8 bl b0 b1
        go_wp2_with fail
        go_roundw
        case rel => exact ⟨R - M, N8, hR2, M8, B8, G8⟩
        case measure =>
          rw [num_eps N8.out, hE.out]
          omega
      · have ho : ord (R : Int) (M : Int) < 0 := by rw [ord_lt (by omega)]; omega
        have hR2 : Hid (A % M = R) := by unfold Hid; rw [← hR.out.1]; exact Nat.mod_eq_of_lt (by omega)
        go_wp2_with fail
        refine (C6.out R _ _ hR.out.2 hN.out hMn.out).mono ?_
        rintro e w7 ⟨rfl, g7⟩
        have N7 : Hid (Num w7 (.slice ya yc yd) R) := hN.out.below g7
        have G7 : Hid (Below w.heap.size w w7) := hGb.out.trans (g7.mono hGb.out.size)
        clear g7 bl b0 b1
        go_wp2_with fail
        go_ret
        exact ⟨_, rfl, by rw [hR2.out]; exact N7.out, G7.out⟩

end Go.Proofs.Ytkaekgjpjnnjpaa
