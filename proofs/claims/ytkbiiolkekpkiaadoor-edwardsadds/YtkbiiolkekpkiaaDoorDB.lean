/-
  The contracts of the document's own element, powers, roots and ratios of layer 4. Conditions: as each theorem says.
-/
import Derived.Test.YtkbiiolkekpkiaaDoorDA
import Derived.Test.YtkbiiolkekpkiaaDoorFB
namespace Go.Proofs.YtkbiiolkekpkiaaDoor
open Go.RowKit
set_option linter.unusedVariables false

theorem sk_lit1 (w : World) (d : Nat) : SK .u64 (w.alloc (.cells #[.int .u64 (d : Int)] 24)) (.slice (some ⟨w.heap.size, 0, none⟩) 1 1) [d] := by
  refine ⟨some ⟨w.heap.size, 0, none⟩, 1, rfl, by simp, fun h => by simp at h, fun j hj => ⟨w.heap.size, 0, rfl, by simp, ?_⟩⟩
  have : j = 0 := by simp at hj; omega
  subst this; simp
theorem Bl5.at_cell {W V : World} {g : Nat} {v0 v1 v2 v3 v4 : Int} (h : Bl5 W g v0 v1 v2 v3 v4) {i : Nat} {x : Value} (hx : V.cell? ⟨g, i, none⟩ = some x) (h' : Bl5 V g v0 v1 v2 v3 v4) (hi : i < 5 := by omega) : W.cell? ⟨g, i, none⟩ = some x := by
  rw [h.at i hi, ← hx, h'.at i hi]
theorem words_one (d : Nat) (hd : d < 18446744073709551616) (v : Value) (w : World) (h : SK .u64 w v [d]) :
    Calls Tryd.prog 59 #[v] w fun e w' => ∃ r, e = .returned r ∧ Num w' r d ∧ Below w.heap.size w w' := by
  have := words_any [d] v w h (fun j => by rcases j with _ | j <;> simp; exact hd) (by simp)
  simpa [valW] using this
def top5 (n0 n1 n2 n3 n4 : Nat) : Nat → Nat
  | 0 => 0
  | 1 => n4
  | 2 => n4 * 2 ^ 51 + n3
  | 3 => (n4 * 2 ^ 51 + n3) * 2 ^ 51 + n2
  | 4 => ((n4 * 2 ^ 51 + n3) * 2 ^ 51 + n2) * 2 ^ 51 + n1
  | _ => (((n4 * 2 ^ 51 + n3) * 2 ^ 51 + n2) * 2 ^ 51 + n1) * 2 ^ 51 + n0
def low5 (n0 n1 n2 n3 n4 : Nat) : Nat → Nat
  | 0 => n4 | 1 => n3 | 2 => n2 | 3 => n1 | _ => n0
theorem top5_next (n0 n1 n2 n3 n4 k : Nat) (h : k < 5) : top5 n0 n1 n2 n3 n4 (k + 1) = top5 n0 n1 n2 n3 n4 k * 2 ^ 51 + low5 n0 n1 n2 n3 n4 k := by
  match k, h with
  | 0, _ => simp [top5, low5]
  | 1, _ => rfl
  | 2, _ => rfl
  | 3, _ => rfl
  | 4, _ => rfl
theorem top5_lt (n0 n1 n2 n3 n4 k : Nat) (h0 : n0 < 2 ^ 52) (h1 : n1 < 2 ^ 52) (h2 : n2 < 2 ^ 52) (h3 : n3 < 2 ^ 52) (h4 : n4 < 2 ^ 52) : top5 n0 n1 n2 n3 n4 k < 2 ^ 258 := by
  unfold top5
  split <;> omega
set_option maxRecDepth 100000 in
set_option maxHeartbeats 4000000 in
theorem ofD_num (x : L5) (hx : x.Tm) (w : World) :
    Calls Tryd.prog 16 #[.agg #[.int .u64 x.l0, .int .u64 x.l1, .int .u64 x.l2, .int .u64 x.l3, .int .u64 x.l4]] w fun e w' => ∃ v, e = .returned v ∧ Num w' v ((x.num % (P25 : Int)).toNat) ∧ Below w.heap.size w w' := by
  obtain ⟨x0, x1, x2, x3, x4⟩ := x
  unfold L5.Tm Tame at hx
  dsimp only at hx ⊢
  obtain ⟨n0, rfl⟩ := Int.eq_ofNat_of_zero_le hx.1.1
  obtain ⟨n1, rfl⟩ := Int.eq_ofNat_of_zero_le hx.2.1.1
  obtain ⟨n2, rfl⟩ := Int.eq_ofNat_of_zero_le hx.2.2.1.1
  obtain ⟨n3, rfl⟩ := Int.eq_ofNat_of_zero_le hx.2.2.2.1.1
  obtain ⟨n4, rfl⟩ := Int.eq_ofNat_of_zero_le hx.2.2.2.2.1
  have TL : Hid (∀ k, top5 n0 n1 n2 n3 n4 k < 16777216 ^ 11) := fun k => Nat.lt_trans (top5_lt n0 n1 n2 n3 n4 k (by omega) (by omega) (by omega) (by omega) (by omega)) (by decide +kernel)
  have LL : Hid (∀ k, low5 n0 n1 n2 n3 n4 k < 4503599627370496) := by
    intro k; unfold low5; split <;> omega
  have TV : Hid (top5 n0 n1 n2 n3 n4 5 % P25 = (L5.num ⟨(n0 : Int), (n1 : Int), (n2 : Int), (n3 : Int), (n4 : Int)⟩ % (P25 : Int)).toNat) := by
    unfold Hid L5.num val5
    dsimp only
    rw [show top5 n0 n1 n2 n3 n4 5 = (((n4 * 2 ^ 51 + n3) * 2 ^ 51 + n2) * 2 ^ 51 + n1) * 2 ^ 51 + n0 from rfl]
    have e : ((n0 : Int) + 2251799813685248 * n1 + 5070602400912917605986812821504 * n2 + 11417981541647679048466287755595961091061972992 * n3 + 25711008708143844408671393477458601640355247900524685364822016 * n4) = (((((n4 * 2 ^ 51 + n3) * 2 ^ 51 + n2) * 2 ^ 51 + n1) * 2 ^ 51 + n0 : Nat) : Int) := by omega
    rw [e, ← Int.natCast_emod, Int.toNat_natCast]
  clear hx
  go_enter Tryd.func16, Tryd.ntmps16
  go_wp2_with fail
  go_loopw [3, 4] (fun v y wr => ∃ k : Nat, k ≤ 5 ∧ y = .int .i64 (4 - (k : Int)) ∧ Hid (Num wr v (top5 n0 n1 n2 n3 n4 k)) ∧ Hid (Bl5 wr w.heap.size (n0 : Int) (n1 : Int) (n2 : Int) (n3 : Int) (n4 : Int)) ∧ Hid (Below w.heap.size w wr)) (fun _ y _ => (intOf y + 1).toNat)
  case atStart => exact ⟨0, by omega, rfl, num_none _, Bl5.new _ _ _ _ _ _ _ _ rfl, (Below.refl _ _).alloc (Nat.le_refl _) _⟩
  case round =>
    obtain ⟨k, hk, rfl, hN, hA, hG⟩ := hrel
    obtain ⟨za, zc, zd, rfl⟩ := hN.out.shape
    obtain ⟨w0, hw0⟩ : ∃ w0, wr = w0 := ⟨_, rfl⟩
    subst hw0
    by_cases hlt : k < 5
    · obtain ⟨i, hi⟩ : ∃ i : Nat, (4 : Int) - (k : Int) = (i : Int) := ⟨4 - k, by omega⟩
      have hi5 : (i : Int) < 5 := by omega
      have hi0 : (0 : Int) ≤ (i : Int) := by omega
      have Hi : Hid ((4 : Int) - (k : Int) = (i : Int)) := hi
      have hc := hA.out.at i (by omega)
      have hpk : pick5 (n0 : Int) (n1 : Int) (n2 : Int) (n3 : Int) (n4 : Int) 0 i = ((low5 n0 n1 n2 n3 n4 k : Nat) : Int) := by
        obtain rfl : i = 4 - k := by omega
        match k, hlt with
        | 0, _ => rfl
        | 1, _ => rfl
        | 2, _ => rfl
        | 3, _ => rfl
        | 4, _ => rfl
      rw [hpk] at hc
      have nx := top5_next n0 n1 n2 n3 n4 k hlt
      obtain ⟨d, hd⟩ : ∃ d, low5 n0 n1 n2 n3 n4 k = d := ⟨_, rfl⟩
      have hd1 : d < 4503599627370496 := by rw [← hd]; exact LL.out k
      rw [hd] at hc nx
      obtain ⟨V, hV⟩ : ∃ V, top5 n0 n1 n2 n3 n4 k = V := ⟨_, rfl⟩
      have hV1 : V < 16777216 ^ 11 := by rw [← hV]; exact TL.out k
      rw [hV] at nx hN
      have NX : Hid (top5 n0 n1 n2 n3 n4 (k + 1) = V * 2 ^ 51 + d) := nx
      have cS : Hid (∀ w, Num w (.slice za zc zd) V → Calls Tryd.prog 58 #[.slice za zc zd, .int .i64 51] w fun e w' => ∃ v, e = .returned v ∧ Num w' v (V * 2 ^ 51) ∧ Below w.heap.size w w') := fun w h => shift_num V _ 51 w h 11 hV1 (by omega) (by omega)
      have cW : Hid (∀ v w, SK .u64 w v [d] → Calls Tryd.prog 59 #[v] w fun e w' => ∃ r, e = .returned r ∧ Num w' r d ∧ Below w.heap.size w w') := fun v w h => words_one d (by omega) v w h
      have cA : Hid (∀ u v w, Num w u (V * 2 ^ 51) → Num w v d → Calls Tryd.prog 57 #[u, v] w fun e w' => ∃ r, e = .returned r ∧ Num w' r (V * 2 ^ 51 + d) ∧ Below w.heap.size w w') := by
        intro u v w h h'
        have b1 := TL.out (k + 1)
        rw [nx] at b1
        exact add_num (V * 2 ^ 51) d u v w h h' 11 (Nat.lt_of_le_of_lt (Nat.le_add_right _ _) b1) (Nat.lt_of_le_of_lt (Nat.le_add_left _ _) b1) (by omega)
      rw [hi]
      have I : Hid (k < 5) := hlt
      have HV : Hid (Num wr (.slice za zc zd) V) := hN
      have K : wr.drew.cell? ⟨w.heap.size, i, none⟩ = some (.int .u64 (d : Int)) := by simpa using hc
      have hs := hG.out.size
      have SKW : Hid (SK .u64 (wr.alloc (.cells #[.int .u64 (d : Int)] 24)).drew (.slice (some ⟨wr.heap.size, 0, none⟩) 1 1) [d]) := (sk_lit1 wr d).below (Below.refl _ _).drew
      clear nx hi hpk hd hV hV1 hlt hN TL LL TV
      go_wp2_with fail
      go_region_held3 (fun w' => w'.cell? ⟨w.heap.size, i, none⟩ = some (.int .u64 (d : Int))) (first | assumption | go_keep)
        (first
          | (go_at_call 57; (with_reducible refine (cA.out _ _ _ N6.out M6.out).mono ?_); (rintro e w7 ⟨v7, rfl, n7, g7⟩; have N7 : Hid (Num w7 v7 (V * 2 ^ 51 + d)) := n7; have A7 := hold (A6.out.below g7); have G7 := hold (G6.out.trans (g7.mono G6.out.size)); have K7 : w7.cell? ⟨w.heap.size, i, none⟩ = some (.int .u64 (d : Int)) := A7.out.at_cell hc hA.out; clear n7 g7))
          | (go_at_call 59; (with_reducible refine (cW.out _ _ (sk_lit1 w5 d)).mono ?_); (rintro e w6 ⟨v6, rfl, n6, g6⟩; obtain ⟨ta, tc, td, rfl⟩ := n6.shape; have M6 : Hid (Num w6 (.slice ta tc td) d) := n6; have N6 : Hid (Num w6 (.slice sa sc sd) (V * 2 ^ 51)) := (N5.out.below (by (repeat (first | exact Below.refl _ _ | refine Below.drew ?_ | refine Below.alloc ?_ (by simp) _)); done)).below g6; have A6 : Hid (Bl5 w6 w.heap.size (n0 : Int) (n1 : Int) (n2 : Int) (n3 : Int) (n4 : Int)) := (A5.out.below (by (repeat (first | exact Below.refl _ _ | refine Below.drew ?_ | refine Below.alloc ?_ (by simp) _)); done)).below g6; have G6 : Hid (Below w.heap.size w w6) := (G5.out.alloc G5.out.size _).trans (g6.mono (by simp; have := G5.out.size; omega)); have K6 : w6.cell? ⟨w.heap.size, i, none⟩ = some (.int .u64 (d : Int)) := A6.out.at_cell hc hA.out; clear n6 g6))
          | (go_at_call 59; (with_reducible refine (cW.out _ _ (SKW.out.below G55.out)).mono ?_); (rintro e w6 ⟨v6, rfl, n6, g6⟩; obtain ⟨ta, tc, td, rfl⟩ := n6.shape; have M6 : Hid (Num w6 (.slice ta tc td) d) := n6; have N6 := hold (N5.out.below g6); have A6 := hold (A5.out.below g6); have G6 := hold (G5.out.trans (g6.mono G5.out.size)); have K6 : w6.cell? ⟨w.heap.size, i, none⟩ = some (.int .u64 (d : Int)) := A6.out.at_cell hc hA.out; clear n6 g6))
          | (go_at_call 58; (refine (cS.out _ (HV.out.below (by (repeat (first | exact Below.refl _ _ | refine Below.drew ?_ | refine Below.alloc ?_ (by simp) _)); done))).mono ?_); (rintro e w5 ⟨v5, rfl, n5, g5⟩; obtain ⟨sa, sc, sd, rfl⟩ := n5.shape; have N5 : Hid (Num w5 (.slice sa sc sd) (V * 2 ^ 51)) := n5; have A5 : Hid (Bl5 w5 w.heap.size (n0 : Int) (n1 : Int) (n2 : Int) (n3 : Int) (n4 : Int)) := (hA.out.below (by (repeat (first | exact Below.refl _ _ | refine Below.drew ?_ | refine Below.alloc ?_ (by simp) _)); done)).below g5; have G55 := (show Hid _ from g5); have G5 : Hid (Below w.heap.size w w5) := (hG.out.trans (Below.mono (by (repeat (first | exact Below.refl _ _ | refine Below.drew ?_ | refine Below.alloc ?_ (by simp) _)); done) hs)).trans (g5.mono (by simp; omega)); have K5 : w5.cell? ⟨w.heap.size, i, none⟩ = some (.int .u64 (d : Int)) := A5.out.at_cell hc hA.out; clear n5 g5))
          | fail)
      all_goals
        go_wp2_with fail
        go_roundw
        case rel => exact ⟨k + 1, by have := I.out; omega, by have := Hi.out; go_num, by unfold Hid; rw [NX.out]; exact N7.out, A7, G7⟩
        case measure => simp [intOf]
    · obtain rfl : k = 5 := by omega
      have hm : (4 : Int) - ((5 : Nat) : Int) = -1 := by omega
      rw [hm]
      have T5 : Hid (top5 n0 n1 n2 n3 n4 5 < 16777216 ^ 22) := Nat.lt_trans (TL.out 5) (by decide +kernel)
      have N1 : Hid (Num wr (.slice za zc zd) (top5 n0 n1 n2 n3 n4 5)) := hN
      have TW : Hid (∀ w v, Num w v (top5 n0 n1 n2 n3 n4 5 % P25) → Num w v ((L5.num ⟨(n0 : Int), (n1 : Int), (n2 : Int), (n3 : Int), (n4 : Int)⟩ % (P25 : Int)).toNat)) := by intro w v h; rwa [TV.out] at h
      clear hN TL LL TV hA
      go_wp2_with fail
      refine (reduceD_num _ _ _ N1.out T5.out).mono ?_
      rintro e w2 ⟨v, rfl, hn, g⟩
      have N2 : Hid (Num w2 v (top5 n0 n1 n2 n3 n4 5 % P25)) := hn
      have G2 := hold (hG.out.trans (g.mono hG.out.size))
      clear hn g
      go_wp2_with fail
      go_ret
      exact ⟨_, rfl, TW.out _ _ N2.out, G2.out⟩

end Go.Proofs.YtkbiiolkekpkiaaDoor
