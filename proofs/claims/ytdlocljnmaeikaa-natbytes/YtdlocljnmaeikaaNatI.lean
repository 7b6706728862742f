/-
  The contracts of the document's own Big at any number of bytes and Bytes. Conditions: as each theorem says.
-/
import Derived.Test.YtdlocljnmaeikaaNatH
import Derived.Test.YtdlocljnmaeikaaNumLv
namespace Go.Proofs.Ytdlocljnmaeikaa
open Go.RowKit
set_option linter.unusedVariables false

theorem pow256 (t k : Nat) (h : t ≤ 3 * k) : 256 ^ t ≤ 16777216 ^ k := by
  rw [show (16777216 : Nat) = 256 ^ 3 from by decide, ← Nat.pow_mul]
  exact Nat.pow_le_pow_right (by omega) h

set_option maxHeartbeats 3000000 in
theorem bigN_any (l : List Nat) (hf : Bb l) (va : Value) (w : World) (ha : SK .u8 w va l) (hl : l.length ≤ 3000) :
    Calls Try.prog 32 #[va] w fun e w' => ∃ v, e = .returned v ∧ Num w' v (hvN l l.length) ∧ Below w.heap.size w w' := by
  obtain ⟨a, cap, rfl, -, -, k1⟩ := ha
  have K1 : Hid _ := k1
  have HF : Hid (Bb l) := hf
  clear k1 hf
  have hl' : (l.length : Int) ≤ 3000 := by omega
  go_enter Try.func32, Try.ntmps32
  go_wp2
  go_loopw [3, 4] (fun v y wr => ∃ i : Nat, i ≤ l.length ∧ y = .int .i64 i ∧ Hid (Num wr v (hvN l i) ∧ Below w.heap.size w wr)) (fun _ y _ => l.length - (intOf y).toNat)
  case atStart => exact ⟨0, by omega, rfl, ⟨[], Sl.nil _, Dg.nil, Or.inl rfl, rfl⟩, Below.refl _ _⟩
  case round =>
    obtain ⟨i, hi, rfl, H⟩ := hrel
    obtain ⟨na, nc, nd, hsh⟩ := H.out.1.shape
    subst hsh
    have Hb : Hid (Below w.heap.size w wr) := H.out.2
    have HN : Hid (Num wr (.slice na nc nd) (hvN l i)) := H.out.1
    by_cases hlt : i < l.length
    · have hlt' : (i : Int) < l.length := by omega
      obtain ⟨b, off, rfl, l1, k1⟩ := K1.out i hlt
      obtain ⟨c, hc⟩ : ∃ c : Nat, Hid (l.getD i 0 = c) := ⟨_, rfl⟩
      have hc1 : (c : Int) ≤ 255 := by have := HF.out i; rw [hc.out] at this; omega
      have lb : b < wr.heap.size := Nat.lt_of_lt_of_le l1 Hb.out.size
      have d1 : wr.cell? ⟨b, off + i, none⟩ = some (.int .u8 (c : Int)) := by rw [← hc.out]; exact (Hb.out.cell (p := ⟨b, off + i, none⟩) l1).trans k1
      obtain ⟨K, hK⟩ : ∃ K : Nat, K = 1000 := ⟨_, rfl⟩
      have hv1 : hvN l i < 256 ^ i := hvN_lt l HF.out i
      have HB1 : Hid (hvN l i < 16777216 ^ K) := Nat.lt_of_lt_of_le hv1 (pow256 i K (by omega))
      have HB2 : Hid (hvN l i * 256 < 16777216 ^ (K + 1)) := by
        unfold Hid
        have := HB1.out
        rw [Nat.pow_succ]; omega
      have HB3 : Hid (c < 16777216 ^ (K + 1)) := Nat.lt_of_le_of_lt (show c ≤ 255 by omega) (Nat.lt_of_lt_of_le (show 255 < 16777216 ^ 1 by decide) (Nat.pow_le_pow_right (by omega) (by omega)))
      have hS : Hid (hvN l (i + 1) = hvN l i * 256 + c) := by unfold Hid; rw [← hc.out]; rfl
      have hi1 : i + 1 ≤ l.length := by omega
      have hc2 : c ≤ 9223372036854775807 := by omega
      obtain ⟨V, hV⟩ : ∃ V, Hid (hvN l i = V) := ⟨_, rfl⟩
      rw [hV.out] at HN HB1 HB2 hS
      clear hv1 H K1 HF k1
      go_wp2_with fail
      have cS : Hid (Calls Try.prog 48 #[.slice na nc nd, .int .i64 256] wr.drew fun e w' => ∃ v, e = .returned v ∧ Num w' v (V * 256) ∧ Below wr.drew.heap.size wr.drew w') :=
        small_num V _ 256 _ (HN.out.below (Below.refl _ _).drew) K HB1.out (by omega) (by decide)
      have cI : Hid (∀ W, Calls Try.prog 53 #[.int .i64 (c : Int)] W fun e w' => ∃ v, e = .returned v ∧ Num w' v c ∧ Below W.heap.size W w') := fun W => int_any c hc2 W
      have cA : Hid (∀ W va vb, Num W va (V * 256) → Num W vb c → Calls Try.prog 16 #[va, vb] W fun e w' => ∃ v, e = .returned v ∧ Num w' v (V * 256 + c) ∧ Below W.heap.size W w') := fun W va vb h1 h2 => add_num (V * 256) c _ _ _ h1 h2 (K + 1) HB2.out HB3.out (by omega)
      have D1 : Hid (∀ w5, Below wr.drew.heap.size wr.drew w5 → w5.cell? ⟨b, off + i, none⟩ = some (.int .u8 (c : Int))) := fun w5 g5 => (g5.cell (p := ⟨b, off + i, none⟩) lb).trans d1
      have wc8 : IntKind.i64.wrap (c : Int) = (c : Int) := wrapI _ (by omega) (by omega)
      clear HB1 HB2 HB3 hc2 hK
      go_region_with (first
        | (go_at_call 48; refine cS.out.mono ?_; rintro e w5 ⟨v5, rfl, n5, g5⟩; obtain ⟨sa, sc, sd, rfl⟩ := n5.shape; have d5 := D1.out w5 g5; have N5 : Hid (Num w5 (.slice sa sc sd) (V * 256)) := n5; have G5 : Hid (Below wr.drew.heap.size wr.drew w5) := g5; clear n5 g5)
        | (go_at_call 53; (with_reducible refine (cI.out _).mono ?_); rintro e w6 ⟨v6, rfl, n6, g6⟩; obtain ⟨ta, tc, td, rfl⟩ := n6.shape; have N6 : Hid (Num w6 (.slice ta tc td) c) := n6; have G6 : Hid (Below w5.heap.size w5 w6) := g6; clear n6 g6)
        | (go_at_call 16; refine (cA.out _ _ _ (N5.out.below G6.out) N6.out).mono ?_; rintro e w7 ⟨v7, rfl, n7, g7⟩; obtain ⟨ra, rc, rd, rfl⟩ := n7.shape; have N7 : Hid (Num w7 (.slice ra rc rd) (V * 256 + c)) := n7; have G7 : Hid (Below w6.heap.size w6 w7) := g7; clear n7 g7))
      all_goals
        go_wp2_with fail
        go_roundw
        case rel => exact ⟨i + 1, hi1, by go_num, by rw [hS.out]; exact N7.out, (Hb.out.drew.trans (G5.out.mono Hb.out.size)).trans ((G6.out.mono (Nat.le_trans Hb.out.size G5.out.size)).trans (G7.out.mono (Nat.le_trans Hb.out.size (Nat.le_trans G5.out.size G6.out.size))))⟩
        case measure => simp [intOf] <;> omega
    · obtain rfl : i = l.length := by omega
      go_wp2
      go_ret
      exact ⟨_, rfl, HN.out, Hb.out⟩

set_option maxHeartbeats 1000000 in
theorem bytesR_num (N : Nat) (va : Value) (w : World) (ha : Num w va N) (m : Nat) (hN : N < 16777216 ^ m) (hm : m ≤ 10000) :
    Calls Try.prog 35 #[va] w fun e w' => ∃ v, e = .returned v ∧ SK .u8 w' v (beB N ((nbits N + 7) / 8)) ∧ Below w.heap.size w w' := by
  have HA : Hid (Num w va N) := ha
  obtain ⟨a, c, d, rfl⟩ := ha.shape
  have cB : Hid (Calls Try.prog 20 #[.slice a c d] w fun e w' => e = .returned (.int .i64 (nbits N : Int)) ∧ Below w.heap.size w w') := bits_num N _ w ha m hN hm
  have hb : nbits N ≤ 24 * m := nbits_le N _ (by rwa [Nat.pow_mul, show (2 : Nat) ^ 24 = 16777216 from by decide])
  have HN : Hid (N < 16777216 ^ m) := hN
  clear ha hN
  generalize nbits N = T at *
  obtain ⟨n, hn⟩ : ∃ n : Nat, Hid ((T + 7) / 8 = n) := ⟨_, rfl⟩
  rw [hn.out]
  have hT1 : (T : Int) ≤ 240000 := by omega
  have hn1 : ((T : Int) + 7) / 8 = (n : Int) := by have := hn.out; omega
  have hn2 : (n : Int) ≤ 30001 := by omega
  go_enter Try.func35, Try.ntmps35
  go_wp2_with fail
  refine cB.out.mono ?_
  rintro e w1 ⟨rfl, g1⟩
  have G1 : Hid (Below w.heap.size w w1) := g1
  clear g1
  go_wp2_with fail
  refine (toBigN_num N _ n _ (HA.out.below G1.out) m HN.out hm (by omega)).mono ?_
  rintro e w2 ⟨v, rfl, h2, g2⟩
  have H2 : Hid (SK .u8 w2 v (beB N n)) := h2
  have G2 : Hid (Below w.heap.size w w2) := G1.out.trans (g2.mono G1.out.size)
  obtain ⟨b, c, rfl⟩ := h2.shape
  clear h2 g2
  go_wp2_with fail
  go_ret
  exact ⟨_, rfl, H2.out, G2.out⟩

end Go.Proofs.Ytdlocljnmaeikaa
