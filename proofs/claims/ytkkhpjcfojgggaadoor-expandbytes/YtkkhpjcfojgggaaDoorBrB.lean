/-
  The contract of the broad's spread: the 80 words of a block of 80 bytes. Conditions: as the theorem says.
-/
import Derived.Test.YtkkhpjcfojgggaaDoorBrV
import Derived.Test.YtkkhpjcfojgggaaDoorRefM
import Derived.Test.YtkkhpjcfojgggaaDoorOct
import Derived.Deep.MidRow
namespace Go.Proofs.YtkkhpjcfojgggaaDoor.Br
open Go.RowKit
set_option linter.unusedVariables false
set_option linter.unusedSimpArgs false

/-- The first t words, and noughts. -/
def wz (l : List Nat) (t : Nat) : List Nat := ws l t ++ List.replicate (80 - t) 0
theorem wz_length (l : List Nat) (t : Nat) (h : t ≤ 80) : (wz l t).length = 80 := by simp [wz, ws_length]; omega
theorem wz_get (l : List Nat) (t j : Nat) (h : j < t) : (wz l t).getD j 0 = (ws l t).getD j 0 := by
  simp [wz, List.getD_eq_getElem?_getD, List.getElem?_append_left, ws_length, h]
theorem wz_nought (l : List Nat) (t : Nat) (h : t < 80) : (wz l t).getD t 0 = 0 := by
  rw [wz, List.getD_eq_getElem?_getD, List.getElem?_append_right (by rw [ws_length]; omega), List.getElem?_replicate]
  split <;> rfl
theorem wz_set (l : List Nat) (t v : Nat) (h : t < 80) (hv : (ws l (t + 1)).getD t 0 = v) : (wz l t).set t v = wz l (t + 1) := by
  refine list_of_getD _ _ (by rw [List.length_set, wz_length l t (by omega), wz_length l (t + 1) (by omega)]) (fun j hj => ?_)
  rw [List.length_set, wz_length l t (by omega)] at hj
  rw [getD_set _ _ _ _ (by rw [wz_length l t (by omega)]; exact h)]
  by_cases e : j = t
  · subst e
    rw [if_pos rfl, wz_get l (j + 1) j (by omega), hv]
  · rw [if_neg e]
    by_cases hj' : j < t
    · rw [wz_get l t j hj', wz_get l (t + 1) j (by omega), ws_get l t j hj', ws_get l (t + 1) j (by omega)]
    · have e1 : ∀ u, u ≤ j → (wz l u).getD j 0 = 0 := fun u hu => by
        rw [wz, List.getD_eq_getElem?_getD, List.getElem?_append_right (by rw [ws_length]; omega), List.getElem?_replicate]
        split <;> rfl
      rw [e1 t (by omega), e1 (t + 1) (by omega)]
theorem wz_all (l : List Nat) : wz l 80 = ws l 80 := by simp [wz]

/-- The values of words. -/
def uv (l : List Nat) : List Value := l.map fun (d : Nat) => Value.int .u64 (d : Int)
theorem uv_length (l : List Nat) : (uv l).length = l.length := by simp [uv]
theorem uv_get (l : List Nat) (j : Nat) (h : j < l.length) : (uv l)[j]? = some (.int .u64 (l.getD j 0 : Int)) := by
  simp [uv, List.getD_eq_getElem?_getD, h]
theorem _root_.Go.Proofs.YtkkhpjcfojgggaaDoor.Row.at6 {base g : Nat} {l : List Nat} {W : World} (h : Row .u64 base g l W) {j : Nat} {x : Value} (hx : (uv l)[j]? = some x) : W.cell? ⟨g, j, none⟩ = some x := by
  have hj : j < l.length := by have := (List.getElem?_eq_some_iff.1 hx).1; rwa [uv_length] at this
  rw [h.cell j hj, ← hx, uv_get l j hj]
theorem uv_one {l : List Nat} {v : Value} (h : v ∈ uv l) : v.oneCell' = true := by
  simp only [uv, List.mem_map] at h
  obtain ⟨d, _, rfl⟩ := h
  rfl
theorem or_byte (x c : Nat) (hx : x < 72057594037927936) (hc : c < 256) : bits .or .u64 ((x : Int) * 256) (c : Int) = ((x * 256 + c : Nat) : Int) := by
  have := u64_or_nat (x * 256) c (by omega) (by omega)
  have e := Nat.two_pow_add_eq_or_of_lt (i := 8) (b := c) (by omega) x
  rw [show 2 ^ 8 * x = x * 256 by omega] at e
  rw [← e] at this
  simpa using this
set_option maxHeartbeats 1000000 in
theorem word_any (l : List Nat) (h8 : 8 ≤ l.length) (hb : Bb l) (v : Value) (w : World) (hs : SK .u8 w v l) : Calls Tryd.prog 45 #[v] w fun e w' => e = .returned (.int .u64 (w8 l 0 : Int)) ∧ w' = w := by
  obtain ⟨a, cap, e⟩ := hs.shape
  subst e
  obtain ⟨b, o, rfl, hbl, hcap, hcell⟩ := hs.at (by omega)
  have HC : Hid (∀ j, j < l.length → w.cell? ⟨b, o + j, none⟩ = some (.int .u8 (l.getD j 0 : Int))) := hcell
  have HB : Hid (Bb l) := hb
  obtain ⟨n, hn⟩ : ∃ n, Hid (l.length = n) := ⟨_, rfl⟩
  rw [hn.out] at h8 HC hcap ⊢
  have h8' : (8 : Int) ≤ cap := by omega
  clear hs hcell hb
  go_enter Tryd.func45, Tryd.ntmps45
  go_wp2
  go_loopw [2, 8] (fun x y W => ∃ j : Nat, j ≤ 8 ∧ x = .int .u64 (px l 0 j : Int) ∧ y = .int .i64 j ∧ W = w) (fun _ y _ => 8 - (intOf y).toNat)
  case atStart => exact ⟨0, by omega, rfl, rfl, rfl⟩
  case round =>
    obtain ⟨j, hj, rfl, rfl, hwr⟩ := hrel
    rw [hwr]
    clear hwr wr
    by_cases hlt : j < 8
    · have hlt' : (j : Int) < 8 := by omega
      have c0 := HC.out j (by omega)
      have q1 := px_lt l HB.out 0 j
      have q2 := HB.out j
      have q3 : Hid (px l 0 (j + 1) = px l 0 j * 256 + l.getD j 0) := by unfold Hid; rw [px, show 8 * 0 + j = j by omega]
      have q4 : px l 0 j < 72057594037927936 := by
        have : 256 ^ j ≤ 256 ^ 7 := Nat.pow_le_pow_right (by omega) (by omega)
        omega
      clear q1
      obtain ⟨x, hx⟩ : ∃ x, px l 0 j = x := ⟨_, rfl⟩
      obtain ⟨y, hy⟩ : ∃ y, l.getD j 0 = y := ⟨_, rfl⟩
      rw [hx] at q3 q4 ⊢
      rw [hy] at c0 q2 q3
      have q4' : (x : Int) < 72057594037927936 := by omega
      have q2' : (y : Int) < 256 := by omega
      have oo := or_byte x y q4 q2
      have hj2 : (j : Int) ≤ 8 := by omega
      clear hx hy
      go_wp2_with fail
      go_roundw
      case rel => exact ⟨j + 1, by omega, by rw [q3.out]; go_num, by go_num, trivial⟩
      case measure => simp [intOf] <;> omega
    · obtain rfl : j = 8 := by omega
      rw [px_eight]
      go_wp2_with fail
      go_ret
      exact ⟨rfl, rfl⟩
set_option maxRecDepth 100000 in
set_option maxHeartbeats 4000000 in
theorem spread_any (l : List Nat) (hl : l.length = 128) (hb : Bb l) (v : Value) (w : World) (ha : SK .u8 w v l) : Calls Tryd.prog 41 #[v] w fun e w' => e = .returned (.agg (uv (ws l 80)).toArray) ∧ Below w.heap.size w w' := by
  obtain ⟨cs, hcs⟩ : ∃ cs, Hid (uv (ws l 80) = cs) := ⟨_, rfl⟩
  rw [hcs.out]
  obtain ⟨a, cap, rfl, hcap, -, k1⟩ := ha
  obtain ⟨bb, off, rfl, hbb, -⟩ := k1 0 (by omega)
  have K : Hid (∀ j, j < 128 → w.cell? ⟨bb, off + j, none⟩ = some (.int .u8 (l.getD j 0 : Int))) := by
    intro j hj
    obtain ⟨b', o', e, _, h⟩ := k1 j (by omega)
    cases e
    exact h
  have HB : Hid (Bb l) := hb
  have HSL : Hid (SK .u8 w (.slice (some ⟨bb, off, none⟩) l.length cap) l) := ⟨some ⟨bb, off, none⟩, cap, rfl, hcap, fun e => by simp at e, k1⟩
  clear k1 hb
  rw [hl] at HSL hcap ⊢
  have hcap' : (128 : Int) ≤ cap := by omega
  have hzv : ∀ w, (zeroValue 70).run Tryd.prog w = .ok (.agg (Array.replicate 80 (.int .u64 0))) w := (zero_of_info (by kernel_rfl : (Tryd.prog.info? 70).map (fun i => (i.zero, i.size)) = some (some (.agg (Array.replicate 80 (.int .u64 0))), 80))).1
  go_enter Tryd.func41, Tryd.ntmps41
  go_wp2
  go_loopw [7] (fun y W => ∃ t : Nat, t ≤ 16 ∧ y = .int .i64 t ∧ Row .u64 w.heap.size w.heap.size (wz l t) W ∧ Below w.heap.size w W) (fun y _ => 16 - (intOf y).toNat)
  case atStart => exact ⟨0, by omega, rfl, Row.zeros w _ 80 _ rfl, (Below.refl _ _).alloc (Nat.le_refl _) _⟩
  case round =>
    obtain ⟨t, ht, rfl, hr, hB⟩ := hrel
    have Hr : Hid (Row .u64 w.heap.size w.heap.size (wz l t) wr) := hr
    have Hb : Hid (Below w.heap.size w wr) := hB
    by_cases hlt : t < 16
    · have hlt' : (t : Int) < 16 := by omega
      have f0 := hr.free t
      have c0 := hr.cell t (by rw [wz_length l t (by omega)]; omega)
      rw [wz_nought l t (by omega)] at c0
      have R : Hid ((wz l t).set t (w8 l t) = wz l (t + 1)) := wz_set l t _ (by omega) (by rw [ws_last, if_pos hlt])
      have hlw := w8_lt l HB.out t
      have kW : Hid (Calls Tryd.prog 45 #[cutV (some ⟨bb, off, none⟩) (8 * t) 128 cap] wr fun e w' => e = .returned (.int .u64 (w8 l t : Int)) ∧ w' = wr) := by
        rw [← w8_drop l t]
        have h := HSL.out.below hB
        rw [← hl] at h
        have h2 := h.cut (n := 8 * t) (by omega)
        rw [hl] at h2
        exact word_any (l.drop (8 * t)) (by simp; omega) (HB.out.drop _) _ wr h2
      obtain ⟨x, hx⟩ : ∃ x, w8 l t = x := ⟨_, rfl⟩
      rw [hx] at R kW hlw
      have hlw' : (x : Int) < 18446744073709551616 := by omega
      have h8t : 8 * t ≤ 128 := by omega
      clear hr hB hx
      go_wp2_with (refine wpList_cut rfl _ _ rfl (some ⟨bb, off, none⟩) 128 cap (8 * t) rfl rfl h8t ?_)
      refine kW.out.mono ?_
      rintro e w1 ⟨rfl, hw1⟩
      rw [hw1]
      clear hw1 w1 kW
      go_wp2_with fail
      go_roundw
      case rel => exact ⟨t + 1, by omega, by go_num, by rw [← R.out]; exact Hr.out.set t x (by rw [wz_length l t (by omega)]; omega), Hb.out.setCell (Nat.le_refl _) _⟩
      case measure => simp [intOf] <;> omega
    · obtain rfl : t = 16 := by omega
      clear hr hB
      rw [show ((16 : Nat) : Int) = 16 from rfl]
      go_wp2
      go_loopw [4] (fun y W => ∃ t : Nat, 16 ≤ t ∧ t ≤ 80 ∧ y = .int .i64 t ∧ Row .u64 w.heap.size w.heap.size (wz l t) W ∧ Below w.heap.size w W) (fun y _ => 80 - (intOf y).toNat)
      case atStart => exact ⟨16, by omega, by omega, rfl, Hr.out, Hb.out⟩
      case round =>
        rename World => wr2
        clear Hr Hb
        obtain ⟨t, ht16, ht, rfl, hr, hB⟩ := hrel
        have Hr : Hid (Row .u64 w.heap.size w.heap.size (wz l t) wr2) := hr
        have Hb : Hid (Below w.heap.size w wr2) := hB
        by_cases hlt : t < 80
        · have hlt' : (t : Int) < 80 := by omega
          have f0 := hr.free t
          have c0 := hr.cell t (by rw [wz_length l t (by omega)]; omega)
          rw [wz_nought l t (by omega)] at c0
          obtain ⟨i16, j16⟩ : ∃ i : Nat, (t : Int) - 16 = (i : Int) := ⟨t - 16, by omega⟩
          obtain ⟨i15, j15⟩ : ∃ i : Nat, (t : Int) - 15 = (i : Int) := ⟨t - 15, by omega⟩
          obtain ⟨i7, j7⟩ : ∃ i : Nat, (t : Int) - 7 = (i : Int) := ⟨t - 7, by omega⟩
          obtain ⟨i2, j2⟩ : ∃ i : Nat, (t : Int) - 2 = (i : Int) := ⟨t - 2, by omega⟩
          have b16 : (i16 : Int) < 80 := by omega
          have b15 : (i15 : Int) < 80 := by omega
          have b7 : (i7 : Int) < 80 := by omega
          have b2 : (i2 : Int) < 80 := by omega
          have c16 := hr.cell i16 (by rw [wz_length l t (by omega)]; omega)
          have c15 := hr.cell i15 (by rw [wz_length l t (by omega)]; omega)
          have c7 := hr.cell i7 (by rw [wz_length l t (by omega)]; omega)
          have c2 := hr.cell i2 (by rw [wz_length l t (by omega)]; omega)
          have g16 : (wz l t).getD i16 0 = (ws l t).getD (t - 16) 0 := by rw [wz_get l t i16 (by omega), show i16 = t - 16 by omega]
          have g15 : (wz l t).getD i15 0 = (ws l t).getD (t - 15) 0 := by rw [wz_get l t i15 (by omega), show i15 = t - 15 by omega]
          have g7 : (wz l t).getD i7 0 = (ws l t).getD (t - 7) 0 := by rw [wz_get l t i7 (by omega), show i7 = t - 7 by omega]
          have g2 : (wz l t).getD i2 0 = (ws l t).getD (t - 2) 0 := by rw [wz_get l t i2 (by omega), show i2 = t - 2 by omega]
          have L := ws_last l t
          rw [if_neg (by omega)] at L
          have l16 := ws_lt l HB.out t (t - 16); have l15 := ws_lt l HB.out t (t - 15); have l7 := ws_lt l HB.out t (t - 7); have l2 := ws_lt l HB.out t (t - 2)
          rw [g16] at c16; rw [g15] at c15; rw [g7] at c7; rw [g2] at c2
          clear g16 g15 g7 g2
          obtain ⟨x16, hx16⟩ : ∃ x, (ws l t).getD (t - 16) 0 = x := ⟨_, rfl⟩
          obtain ⟨x15, hx15⟩ : ∃ x, (ws l t).getD (t - 15) 0 = x := ⟨_, rfl⟩
          obtain ⟨x7, hx7⟩ : ∃ x, (ws l t).getD (t - 7) 0 = x := ⟨_, rfl⟩
          obtain ⟨x2, hx2⟩ : ∃ x, (ws l t).getD (t - 2) 0 = x := ⟨_, rfl⟩
          rw [hx16] at c16 l16 L; rw [hx15] at c15 l15 L; rw [hx7] at c7 l7 L; rw [hx2] at c2 l2 L
          clear hx16 hx15 hx7 hx2
          have T1 : Hid (∀ W, Calls Tryd.prog 42 #[.int .u64 (x15 : Int), .int .i64 1] W fun e w' => e = .returned (.int .u64 (rotr x15 1 : Int)) ∧ w' = W) := turned_any x15 1 l15 (by omega) (by omega)
          have T2 : Hid (∀ W, Calls Tryd.prog 42 #[.int .u64 (x15 : Int), .int .i64 8] W fun e w' => e = .returned (.int .u64 (rotr x15 8 : Int)) ∧ w' = W) := turned_any x15 8 l15 (by omega) (by omega)
          have T3 : Hid (∀ W, Calls Tryd.prog 42 #[.int .u64 (x2 : Int), .int .i64 19] W fun e w' => e = .returned (.int .u64 (rotr x2 19 : Int)) ∧ w' = W) := turned_any x2 19 l2 (by omega) (by omega)
          have T4 : Hid (∀ W, Calls Tryd.prog 42 #[.int .u64 (x2 : Int), .int .i64 61] W fun e w' => e = .returned (.int .u64 (rotr x2 61 : Int)) ∧ w' = W) := turned_any x2 61 l2 (by omega) (by omega)
          have X1 := u64_xor_nat (rotr x15 1) (rotr x15 8) (rotr_lt _ l15) (rotr_lt _ l15)
          have X2 := u64_xor_nat (rotr x15 1 ^^^ rotr x15 8) (x15 / 128) (xor64 (rotr_lt _ l15) (rotr_lt _ l15)) (div64 l15 _)
          have X3 := u64_xor_nat (rotr x2 19) (rotr x2 61) (rotr_lt _ l2) (rotr_lt _ l2)
          have X4 := u64_xor_nat (rotr x2 19 ^^^ rotr x2 61) (x2 / 64) (xor64 (rotr_lt _ l2) (rotr_lt _ l2)) (div64 l2 _)
          have e8 : ((x15 / 128 : Nat) : Int) = (x15 : Int) / 128 := by simp
          have e10 : ((x2 / 64 : Nat) : Int) = (x2 : Int) / 64 := by simp
          rw [e8] at X2
          rw [e10] at X4
          have s1 := sg0_lt l15
          have s2 := sg1_lt l2
          rw [show rotr x15 1 ^^^ rotr x15 8 ^^^ x15 / 128 = sg0 x15 from rfl] at X2
          rw [show rotr x2 19 ^^^ rotr x2 61 ^^^ x2 / 64 = sg1 x2 from rfl] at X4
          obtain ⟨r1, hr1⟩ : ∃ x, rotr x15 1 = x := ⟨_, rfl⟩
          obtain ⟨r2, hr2⟩ : ∃ x, rotr x15 8 = x := ⟨_, rfl⟩
          obtain ⟨r3, hr3⟩ : ∃ x, rotr x2 19 = x := ⟨_, rfl⟩
          obtain ⟨r4, hr4⟩ : ∃ x, rotr x2 61 = x := ⟨_, rfl⟩
          rw [hr1] at T1 X1 X2; rw [hr2] at T2 X1 X2; rw [hr3] at T3 X3 X4; rw [hr4] at T4 X3 X4
          obtain ⟨y1, hy1⟩ : ∃ x, r1 ^^^ r2 = x := ⟨_, rfl⟩
          obtain ⟨y2, hy2⟩ : ∃ x, r3 ^^^ r4 = x := ⟨_, rfl⟩
          obtain ⟨z1, hz1⟩ : ∃ x, sg0 x15 = x := ⟨_, rfl⟩
          obtain ⟨z2, hz2⟩ : ∃ x, sg1 x2 = x := ⟨_, rfl⟩
          rw [hy1] at X1 X2; rw [hy2] at X3 X4; rw [hz1] at X2 L s1; rw [hz2] at X4 L s2
          clear hr1 hr2 hr3 hr4 hy1 hy2 hz1 hz2 e8 e10
          have s1' : (z1 : Int) < 18446744073709551616 := by omega
          have s2' : (z2 : Int) < 18446744073709551616 := by omega
          have l16' : (x16 : Int) < 18446744073709551616 := by omega
          have l7' : (x7 : Int) < 18446744073709551616 := by omega
          obtain ⟨y3, hy3⟩ : ∃ y, Hid ((x16 + z1) % 18446744073709551616 = y) := ⟨_, rfl⟩
          have W1 : IntKind.u64.wrap ((x16 : Int) + (z1 : Int)) = (y3 : Int) := by rw [wrap64_nat, hy3.out]
          obtain ⟨y4, hy4⟩ : ∃ y, Hid ((y3 + x7) % 18446744073709551616 = y) := ⟨_, rfl⟩
          have W2 : IntKind.u64.wrap ((y3 : Int) + (x7 : Int)) = (y4 : Int) := by rw [wrap64_nat, hy4.out]
          obtain ⟨y5, hy5⟩ : ∃ y, Hid ((y4 + z2) % 18446744073709551616 = y) := ⟨_, rfl⟩
          have W3 : IntKind.u64.wrap ((y4 : Int) + (z2 : Int)) = (y5 : Int) := by rw [wrap64_nat, hy5.out]
          have hsum : Hid ((x16 + z1 + x7 + z2) % 18446744073709551616 = y5) := by unfold Hid; have := hy3.out; have := hy4.out; have := hy5.out; omega
          have R : Hid ((wz l t).set t ((x16 + z1 + x7 + z2) % 18446744073709551616) = wz l (t + 1)) := wz_set l t _ (by omega) L
          clear hr hB L
          go_wp2
          go_region
          go_wp2_with fail
          refine (T1.out _).mono ?_
          rintro e w1 ⟨rfl, hw1⟩
          rw [hw1]
          clear hw1 w1
          go_wp2_with fail
          refine (T2.out _).mono ?_
          rintro e w1 ⟨rfl, hw1⟩
          rw [hw1]
          clear hw1 w1
          go_wp2_with fail
          refine (T3.out _).mono ?_
          rintro e w1 ⟨rfl, hw1⟩
          rw [hw1]
          clear hw1 w1
          go_wp2_with fail
          refine (T4.out _).mono ?_
          rintro e w1 ⟨rfl, hw1⟩
          rw [hw1]
          clear hw1 w1
          go_wp2_with fail
          go_region
          go_wp2
          go_roundw
          case rel =>
            rw [hsum.out] at R
            exact ⟨t + 1, by omega, by omega, by go_num, by rw [← R.out]; exact (Hr.out.drew.set t _ (by rw [wz_length l t (by omega)]; omega)).drew, (Hb.out.drew.setCell (Nat.le_refl _) _).drew⟩
          case measure => simp [intOf] <;> omega
        · obtain rfl : t = 80 := by omega
          have hc : Hid (wr2.rangeAt w.heap.size 0 (uv (ws l 80))) := by
            intro j x hx
            rw [wz_all] at hr
            rw [Nat.zero_add]
            exact hr.at6 hx
          have hlen : (uv (ws l 80)).length = 80 := by rw [uv_length, ws_length]
          rw [hcs.out] at hc hlen
          have hi : Hid ((Tryd.prog.info? 70).map (·.size) = some cs.length) := by unfold Hid; rw [hlen]; kernel_rfl
          have hi' : Hid ((Tryd.prog.info? 70).map (·.size) = some cs.toArray.size) := hi
          have h1 : Hid (cs.toArray.all (·.oneCell') = true) := all_oneCell_toArray (fun v hv => by rw [← hcs.out] at hv; exact uv_one hv)
          have ht : Hid (wr2.there w.heap.size 0 cs.toArray.size) := by
            intro j hj
            rw [Nat.zero_add]
            refine ⟨?_, Hr.out.free j⟩
            have : j < 80 := by simpa [hlen] using hj
            rw [Hr.out.cell j (by rw [wz_length l 80 (by omega)]; exact this)]
            rfl
          clear hr hB hlen
          go_wp2_with (first
            | refine wpList_load_mid rfl 70 _ rfl w.heap.size 0 rfl cs _ hc.out Tryd.underlying70 rfl hi.out ?_
            | refine wpList_store_mid rfl 70 _ _ rfl w.heap.size 0 cs.toArray rfl rfl ht.out hi'.out h1.out ?_)
          refine body_cut' (fun W => W.rangeAt w.heap.size 0 cs ∧ Below w.heap.size w W) ⟨?_, ?_⟩ ?_
          · exact World.rangeAt_setCells_same _ _ _ _ ht.out
          · exact below_setCells Hb.out (Nat.le_refl _) _ _
          · rintro W ⟨hc', hb'⟩
            exact bodyPost_ret (v := .agg cs.toArray) (results_mid (Tryd.results41) _ W w.heap.size 0 cs _ rfl hc' Tryd.underlying70 rfl hi.out) rfl ⟨rfl, hb'⟩
end Go.Proofs.YtkkhpjcfojgggaaDoor.Br
