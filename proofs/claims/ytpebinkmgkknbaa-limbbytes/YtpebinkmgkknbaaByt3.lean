/-
  The contracts of the document's own Big and Little at 32 bytes: their number. Conditions: as each theorem says.
-/
import Derived.Test.YtpebinkmgkknbaaByt2
namespace Go.Proofs.Ytpebinkmgkknbaa
open Go.RowKit
set_option linter.unusedVariables false

/-- The number of the first t bytes f 0, f 1, .., the highest first. -/
def hv (f : Nat → Int) : Nat → Nat
  | 0 => 0
  | t + 1 => hv f t * 256 + (f t).toNat
theorem hv_lt (f : Nat → Int) (hf : ∀ j, 0 ≤ f j ∧ f j ≤ 255) : ∀ t, hv f t < 256 ^ t
  | 0 => by simp [hv]
  | t + 1 => by
    have h := hv_lt f hf t
    have := hf t
    simp only [hv, Nat.pow_succ]
    omega
theorem hv_vb (f : Nat → Int) : ∀ t, hv f t = vb (fun j => f (t - 1 - j)) t
  | 0 => rfl
  | t + 1 => by
    rw [Nat.add_comm t 1, vb_add _ 1 t, Nat.add_comm 1 t]
    simp only [hv, vb, hv_vb f t, Nat.pow_one, Nat.pow_zero, Nat.mul_one, Nat.zero_add]
    rw [vb_congr (fun j => f (t - 1 - j)) (fun j => f (t + 1 - 1 - (1 + j))) t (fun j hj => by congr 1; omega)]
    simp only [Nat.add_sub_cancel, Nat.sub_zero]
    omega

set_option maxHeartbeats 3000000 in
theorem big_any (f : Nat → Int) (hf : ∀ j, 0 ≤ f j ∧ f j ≤ 255) (va : Value) (w : World) (ha : By w va f) :
    Calls Try.prog 38 #[va] w fun e w' => ∃ v, e = .returned v ∧ Num w' v (hv f 32) ∧ Below w.heap.size w w' := by
  obtain ⟨b, off, cap, rfl, l1, k1⟩ := ha
  have K1 : Hid _ := k1
  have HF : Hid (∀ j, 0 ≤ f j ∧ f j ≤ 255) := hf
  clear k1 hf
  go_enter Try.func38, Try.ntmps38
  go_wp2
  go_loopw [3, 4] (fun v y wr => ∃ i : Nat, i ≤ 32 ∧ y = .int .i64 i ∧ Hid (Num wr v (hv f i) ∧ Below w.heap.size w wr)) (fun _ y _ => 32 - (intOf y).toNat)
  case atStart => exact ⟨0, by omega, rfl, ⟨[], Sl.nil _, Dg.nil, Or.inl rfl, rfl⟩, Below.refl _ _⟩
  case round =>
    obtain ⟨i, hi, rfl, H⟩ := hrel
    obtain ⟨na, nc, nd, hsh⟩ := H.out.1.shape
    subst hsh
    have Hb : Hid (Below w.heap.size w wr) := H.out.2
    have HN : Hid (Num wr (.slice na nc nd) (hv f i)) := H.out.1
    by_cases hlt : i < 32
    · have hlt' : (i : Int) < 32 := by omega
      obtain ⟨c, hc⟩ : ∃ c : Nat, Hid (f i = (c : Int)) := Int.eq_ofNat_of_zero_le (HF.out i).1
      have hc1 : (c : Int) ≤ 255 := by rw [← hc.out]; exact (HF.out i).2
      have lb : b < wr.heap.size := Nat.lt_of_lt_of_le l1 Hb.out.size
      have d1 : wr.cell? ⟨b, off + i, none⟩ = some (.int .u8 (c : Int)) := by rw [← hc.out]; exact (Hb.out.cell (p := ⟨b, off + i, none⟩) l1).trans (K1.out i hlt)
      have hv1 : hv f i < 256 ^ 32 := Nat.lt_of_lt_of_le (hv_lt f HF.out i) (Nat.pow_le_pow_right (by omega) hi)
      have hB1 : hv f i < 16777216 ^ 11 := Nat.lt_of_lt_of_le hv1 (by decide)
      have hB2 : hv f i * 256 < 16777216 ^ 12 := Nat.lt_of_lt_of_le (Nat.mul_lt_mul_of_pos_right hv1 (by omega)) (by decide)
      have hB3 : c < 16777216 ^ 12 := Nat.lt_of_le_of_lt (show c ≤ 255 by omega) (by decide)
      have HB1 : Hid (hv f i < 16777216 ^ 11) := hB1
      have HB2 : Hid (hv f i * 256 < 16777216 ^ 12) := hB2
      have HB3 : Hid (c < 16777216 ^ 12) := hB3
      have hS : Hid (hv f (i + 1) = hv f i * 256 + c) := by unfold Hid; simp only [hv, hc.out, Int.toNat_natCast]
      have hi1 : i + 1 ≤ 32 := by omega
      have hc2 : c ≤ 9223372036854775807 := by omega
      obtain ⟨V, hV⟩ : ∃ V, Hid (hv f i = V) := ⟨_, rfl⟩
      rw [hV.out] at HN HB1 HB2 hS
      clear hv1 hB1 hB2 hB3 H K1 HF
      go_wp2_with fail
      have cS : Hid (Calls Try.prog 45 #[.slice na nc nd, .int .i64 256] wr.drew fun e w' => ∃ v, e = .returned v ∧ Num w' v (V * 256) ∧ Below wr.drew.heap.size wr.drew w') :=
        small_num V _ 256 _ (HN.out.below (Below.refl _ _).drew) 11 HB1.out (by decide) (by decide)
      have cI : Hid (∀ W, Calls Try.prog 50 #[.int .i64 (c : Int)] W fun e w' => ∃ v, e = .returned v ∧ Num w' v c ∧ Below W.heap.size W w') := fun W => int_any c hc2 W
      have cA : Hid (∀ W va vb, Num W va (V * 256) → Num W vb c → Calls Try.prog 12 #[va, vb] W fun e w' => ∃ v, e = .returned v ∧ Num w' v (V * 256 + c) ∧ Below W.heap.size W w') := fun W va vb h1 h2 => add_num (V * 256) c _ _ _ h1 h2 12 HB2.out HB3.out (by decide)
      have D1 : Hid (∀ w5, Below wr.drew.heap.size wr.drew w5 → w5.cell? ⟨b, off + i, none⟩ = some (.int .u8 (c : Int))) := fun w5 g5 => (g5.cell (p := ⟨b, off + i, none⟩) lb).trans d1
      have wc8 : IntKind.i64.wrap (c : Int) = (c : Int) := wrapI _ (by omega) (by omega)
      clear HB1 HB2 HB3 hc2
      go_region_with (first
        | (go_at_call 45; refine cS.out.mono ?_; rintro e w5 ⟨v5, rfl, n5, g5⟩; obtain ⟨sa, sc, sd, rfl⟩ := n5.shape; have d5 := D1.out w5 g5; have N5 : Hid (Num w5 (.slice sa sc sd) (V * 256)) := n5; have G5 : Hid (Below wr.drew.heap.size wr.drew w5) := g5; clear n5 g5)
        | (go_at_call 50; (with_reducible refine (cI.out _).mono ?_); rintro e w6 ⟨v6, rfl, n6, g6⟩; obtain ⟨ta, tc, td, rfl⟩ := n6.shape; have N6 : Hid (Num w6 (.slice ta tc td) c) := n6; have G6 : Hid (Below w5.heap.size w5 w6) := g6; clear n6 g6)
        | (go_at_call 12; refine (cA.out _ _ _ (N5.out.below G6.out) N6.out).mono ?_; rintro e w7 ⟨v7, rfl, n7, g7⟩; obtain ⟨ra, rc, rd, rfl⟩ := n7.shape; have N7 : Hid (Num w7 (.slice ra rc rd) (V * 256 + c)) := n7; have G7 : Hid (Below w6.heap.size w6 w7) := g7; clear n7 g7))
      all_goals
        go_wp2_with fail
        go_roundw
        case rel => exact ⟨i + 1, hi1, by go_num, by rw [hS.out]; exact N7.out, (Hb.out.drew.trans (G5.out.mono Hb.out.size)).trans ((G6.out.mono (Nat.le_trans Hb.out.size G5.out.size)).trans (G7.out.mono (Nat.le_trans Hb.out.size (Nat.le_trans G5.out.size G6.out.size))))⟩
        case measure => simp [intOf] <;> omega
    · obtain rfl : i = 32 := by omega
      go_wp2
      go_ret
      exact ⟨_, rfl, HN.out, Hb.out⟩

set_option maxHeartbeats 1000000 in
theorem little_any (f : Nat → Int) (hf : ∀ j, 0 ≤ f j ∧ f j ≤ 255) (va : Value) (w : World) (ha : By w va f) :
    Calls Try.prog 37 #[va] w fun e w' => ∃ v, e = .returned v ∧ Num w' v (hv (fun j => f (31 - j)) 32) ∧ Below w.heap.size w w' := by
  obtain ⟨ab, ao, ac, e0, -, -⟩ := id ha
  subst e0
  have HA : Hid (By w (.slice (some ⟨ab, ao, none⟩) 32 ac) f) := ha
  have HF : Hid (∀ j, 0 ≤ f j ∧ f j ≤ 255) := hf
  clear ha hf
  go_enter Try.func37, Try.ntmps37
  go_wp2_with fail
  refine (turned_any f _ w HA.out).mono ?_
  rintro e w1 ⟨v1, rfl, h1, g1⟩
  have H1 : Hid (By w1 v1 (fun j => f (31 - j))) := h1
  have G1 : Hid (Below w.heap.size w w1) := g1
  obtain ⟨bb, bo, bc, rfl, -, -⟩ := h1
  clear g1
  go_wp2_with fail
  refine (big_any _ (fun j => HF.out (31 - j)) _ _ H1.out).mono ?_
  rintro e w2 ⟨v, rfl, h2, g2⟩
  obtain ⟨na, nc, nd, rfl⟩ := h2.shape
  have H2 : Hid (Num w2 (.slice na nc nd) (hv (fun j => f (31 - j)) 32)) := h2
  have G2 : Hid (Below w1.heap.size w1 w2) := g2
  clear h2 g2
  go_wp2_with fail
  go_ret
  exact ⟨_, rfl, H2.out, G1.out.trans (G2.out.mono G1.out.size)⟩

end Go.Proofs.Ytpebinkmgkknbaa
