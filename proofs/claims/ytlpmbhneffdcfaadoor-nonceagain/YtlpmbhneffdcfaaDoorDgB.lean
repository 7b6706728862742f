/-
  The contract of the digest's spread: the 64 words of a block of 64 bytes. Conditions: as the theorem says.
-/
import Derived.Test.YtlpmbhneffdcfaaDoorDgV
import Derived.Test.YtlpmbhneffdcfaaDoorRefM
import Derived.Test.YtlpmbhneffdcfaaDoorOct
import Derived.Deep.MidRow
namespace Go.Proofs.YtlpmbhneffdcfaaDoor
open Go.RowKit
set_option linter.unusedVariables false
set_option linter.unusedSimpArgs false

/-- The first t words, and noughts. -/
def wz (l : List Nat) (t : Nat) : List Nat := ws l t ++ List.replicate (64 - t) 0
theorem wz_length (l : List Nat) (t : Nat) (h : t ≤ 64) : (wz l t).length = 64 := by simp [wz, ws_length]; omega
theorem wz_get (l : List Nat) (t j : Nat) (h : j < t) : (wz l t).getD j 0 = (ws l t).getD j 0 := by
  simp [wz, List.getD_eq_getElem?_getD, List.getElem?_append_left, ws_length, h]
theorem wz_nought (l : List Nat) (t : Nat) (h : t < 64) : (wz l t).getD t 0 = 0 := by
  rw [wz, List.getD_eq_getElem?_getD, List.getElem?_append_right (by rw [ws_length]; omega), List.getElem?_replicate]
  split <;> rfl
theorem wz_set (l : List Nat) (t v : Nat) (h : t < 64) (hv : (ws l (t + 1)).getD t 0 = v) : (wz l t).set t v = wz l (t + 1) := by
  refine list_of_getD _ _ (by rw [List.length_set, wz_length l t (by omega), wz_length l (t + 1) (by omega)]) (fun j hj => ?_)
  rw [List.length_set, wz_length l t (by omega)] at hj
  rw [getD_set _ _ _ _ (by rw [wz_length l t (by omega)]; exact h)]
  by_cases e : j = t
  · subst e
    rw [if_pos rfl, wz_get l (j + 1) j (by omega), hv]
  · rw [if_neg e]
    by_cases hj' : j < t
    · rw [wz_get l t j hj', wz_get l (t + 1) j (by omega), ws_get l t j hj', ws_get l (t + 1) j (by omega)]
    · have e1 : ∀ u, u ≤ j → (wz l u).getD j 0 = 0 := fun u hu => by
        rw [wz, List.getD_eq_getElem?_getD, List.getElem?_append_right (by rw [ws_length]; omega), List.getElem?_replicate]
        split <;> rfl
      rw [e1 t (by omega), e1 (t + 1) (by omega)]
theorem wz_all (l : List Nat) : wz l 64 = ws l 64 := by simp [wz]

/-- The values of words. -/
def uv (l : List Nat) : List Value := l.map fun (d : Nat) => Value.int .u32 (d : Int)
theorem uv_length (l : List Nat) : (uv l).length = l.length := by simp [uv]
theorem uv_get (l : List Nat) (j : Nat) (h : j < l.length) : (uv l)[j]? = some (.int .u32 (l.getD j 0 : Int)) := by
  simp [uv, List.getD_eq_getElem?_getD, h]
theorem Row.at {base g : Nat} {l : List Nat} {W : World} (h : Row .u32 base g l W) {j : Nat} {x : Value} (hx : (uv l)[j]? = some x) : W.cell? ⟨g, j, none⟩ = some x := by
  have hj : j < l.length := by have := (List.getElem?_eq_some_iff.1 hx).1; rwa [uv_length] at this
  rw [h.cell j hj, ← hx, uv_get l j hj]
theorem uv_one {l : List Nat} {v : Value} (h : v ∈ uv l) : v.oneCell' = true := by
  simp only [uv, List.mem_map] at h
  obtain ⟨d, _, rfl⟩ := h
  rfl
theorem or4 (x0 x1 x2 x3 : Nat) (h0 : x0 < 256) (h1 : x1 < 256) (h2 : x2 < 256) (h3 : x3 < 256) : ∃ p1 p2 : Nat, bits .or .u32 ((x0 : Int) * 16777216) ((x1 : Int) * 65536) = (p1 : Int) ∧ bits .or .u32 (p1 : Int) ((x2 : Int) * 256) = (p2 : Int) ∧
    bits .or .u32 (p2 : Int) (x3 : Int) = ((x0 * 16777216 + x1 * 65536 + x2 * 256 + x3 : Nat) : Int) := by
  refine ⟨x0 * 16777216 + x1 * 65536, x0 * 16777216 + x1 * 65536 + x2 * 256, ?_, ?_, ?_⟩
  · have := u32_or_nat (x0 * 16777216) (x1 * 65536) (by omega) (by omega)
    have e := Nat.two_pow_add_eq_or_of_lt (i := 24) (b := x1 * 65536) (by omega) x0
    rw [show 2 ^ 24 * x0 = x0 * 16777216 by omega] at e
    rw [← e] at this
    simpa using this
  · have := u32_or_nat (x0 * 16777216 + x1 * 65536) (x2 * 256) (by omega) (by omega)
    have e := Nat.two_pow_add_eq_or_of_lt (i := 16) (b := x2 * 256) (by omega) (x0 * 256 + x1)
    rw [show 2 ^ 16 * (x0 * 256 + x1) = x0 * 16777216 + x1 * 65536 by omega] at e
    rw [← e] at this
    simpa using this
  · have := u32_or_nat (x0 * 16777216 + x1 * 65536 + x2 * 256) x3 (by omega) (by omega)
    have e := Nat.two_pow_add_eq_or_of_lt (i := 8) (b := x3) (by omega) (x0 * 65536 + x1 * 256 + x2)
    rw [show 2 ^ 8 * (x0 * 65536 + x1 * 256 + x2) = x0 * 16777216 + x1 * 65536 + x2 * 256 by omega] at e
    rw [← e] at this
    simpa using this

set_option maxRecDepth 100000 in
set_option maxHeartbeats 4000000 in
theorem spread_any (l : List Nat) (hl : l.length = 64) (hb : Bb l) (v : Value) (w : World) (ha : SK .u8 w v l) : Calls Tryd.prog 69 #[v] w fun e w' => e = .returned (.agg (uv (ws l 64)).toArray) ∧ Below w.heap.size w w' := by
  obtain ⟨cs, hcs⟩ : ∃ cs, Hid (uv (ws l 64) = cs) := ⟨_, rfl⟩
  rw [hcs.out]
  obtain ⟨a, cap, rfl, hcap, -, k1⟩ := ha
  obtain ⟨bb, off, rfl, hbb, -⟩ := k1 0 (by omega)
  have K : Hid (∀ j, j < 64 → w.cell? ⟨bb, off + j, none⟩ = some (.int .u8 (l.getD j 0 : Int))) := by
    intro j hj
    obtain ⟨b', o', e, _, h⟩ := k1 j (by omega)
    cases e
    exact h
  have HB : Hid (Bb l) := hb
  clear k1 hb hcap
  rw [hl]
  go_enter Tryd.func69, Tryd.ntmps69
  go_wp2
  go_loopw [7] (fun y W => ∃ t : Nat, t ≤ 16 ∧ y = .int .i64 t ∧ Row .u32 w.heap.size w.heap.size (wz l t) W ∧ Below w.heap.size w W) (fun y _ => 16 - (intOf y).toNat)
  case atStart => exact ⟨0, by omega, rfl, Row.zeros w _ 64 _ rfl, (Below.refl _ _).alloc (Nat.le_refl _) _⟩
  case round =>
    obtain ⟨t, ht, rfl, hr, hB⟩ := hrel
    have Hr : Hid (Row .u32 w.heap.size w.heap.size (wz l t) wr) := hr
    have Hb : Hid (Below w.heap.size w wr) := hB
    by_cases hlt : t < 16
    · have hlt' : (t : Int) < 16 := by omega
      have f0 := hr.free t
      have c0 := hr.cell t (by rw [wz_length l t (by omega)]; omega)
      rw [wz_nought l t (by omega)] at c0
      have d0 := (hB.cell (p := ⟨bb, off + 4 * t, none⟩) hbb).trans (K.out (4 * t) (by omega))
      have d1 := (hB.cell (p := ⟨bb, off + (4 * t + 1), none⟩) hbb).trans (K.out (4 * t + 1) (by omega))
      have d2 := (hB.cell (p := ⟨bb, off + (4 * t + 2), none⟩) hbb).trans (K.out (4 * t + 2) (by omega))
      have d3 := (hB.cell (p := ⟨bb, off + (4 * t + 3), none⟩) hbb).trans (K.out (4 * t + 3) (by omega))
      have q0 := HB.out (4 * t); have q1 := HB.out (4 * t + 1); have q2 := HB.out (4 * t + 2); have q3 := HB.out (4 * t + 3)
      obtain ⟨x0, hx0⟩ : ∃ x, Hid (l.getD (4 * t) 0 = x) := ⟨_, rfl⟩
      obtain ⟨x1, hx1⟩ : ∃ x, Hid (l.getD (4 * t + 1) 0 = x) := ⟨_, rfl⟩
      obtain ⟨x2, hx2⟩ : ∃ x, Hid (l.getD (4 * t + 2) 0 = x) := ⟨_, rfl⟩
      obtain ⟨x3, hx3⟩ : ∃ x, Hid (l.getD (4 * t + 3) 0 = x) := ⟨_, rfl⟩
      rw [hx0.out] at d0 q0
      rw [hx1.out] at d1 q1
      rw [hx2.out] at d2 q2
      rw [hx3.out] at d3 q3
      have q0' : (x0 : Int) ≤ 255 := by omega
      have q1' : (x1 : Int) ≤ 255 := by omega
      have q2' : (x2 : Int) ≤ 255 := by omega
      have q3' : (x3 : Int) ≤ 255 := by omega
      obtain ⟨p1, p2, o1, o2, o3⟩ := or4 x0 x1 x2 x3 q0 q1 q2 q3
      obtain ⟨p3, hp3⟩ : ∃ p, Hid (x0 * 16777216 + x1 * 65536 + x2 * 256 + x3 = p) := ⟨_, rfl⟩
      rw [hp3.out] at o3
      have R : Hid ((wz l t).set t p3 = wz l (t + 1)) := wz_set l t p3 (by omega) (by rw [ws_last, if_pos hlt, w4, hx0.out, hx1.out, hx2.out, hx3.out, hp3.out])
      clear hr hB q0 q1 q2 q3
      go_wp2
      go_region
      go_wp2
      go_roundw
      case rel => exact ⟨t + 1, by omega, by go_num, by rw [← R.out]; exact (Hr.out.set t p3 (by rw [wz_length l t (by omega)]; omega)).drew, (Hb.out.setCell (Nat.le_refl _) _).drew⟩
      case measure => simp [intOf] <;> omega
    · obtain rfl : t = 16 := by omega
      clear hr hB
      rw [show ((16 : Nat) : Int) = 16 from rfl]
      go_wp2
      go_loopw [4] (fun y W => ∃ t : Nat, 16 ≤ t ∧ t ≤ 64 ∧ y = .int .i64 t ∧ Row .u32 w.heap.size w.heap.size (wz l t) W ∧ Below w.heap.size w W) (fun y _ => 64 - (intOf y).toNat)
      case atStart => exact ⟨16, by omega, by omega, rfl, Hr.out, Hb.out⟩
      case round =>
        rename World => wr2
        clear Hr Hb
        obtain ⟨t, ht16, ht, rfl, hr, hB⟩ := hrel
        have Hr : Hid (Row .u32 w.heap.size w.heap.size (wz l t) wr2) := hr
        have Hb : Hid (Below w.heap.size w wr2) := hB
        by_cases hlt : t < 64
        · have hlt' : (t : Int) < 64 := by omega
          have f0 := hr.free t
          have c0 := hr.cell t (by rw [wz_length l t (by omega)]; omega)
          rw [wz_nought l t (by omega)] at c0
          obtain ⟨i16, j16⟩ : ∃ i : Nat, (t : Int) - 16 = (i : Int) := ⟨t - 16, by omega⟩
          obtain ⟨i15, j15⟩ : ∃ i : Nat, (t : Int) - 15 = (i : Int) := ⟨t - 15, by omega⟩
          obtain ⟨i7, j7⟩ : ∃ i : Nat, (t : Int) - 7 = (i : Int) := ⟨t - 7, by omega⟩
          obtain ⟨i2, j2⟩ : ∃ i : Nat, (t : Int) - 2 = (i : Int) := ⟨t - 2, by omega⟩
          have b16 : (i16 : Int) < 64 := by omega
          have b15 : (i15 : Int) < 64 := by omega
          have b7 : (i7 : Int) < 64 := by omega
          have b2 : (i2 : Int) < 64 := by omega
          have c16 := hr.cell i16 (by rw [wz_length l t (by omega)]; omega)
          have c15 := hr.cell i15 (by rw [wz_length l t (by omega)]; omega)
          have c7 := hr.cell i7 (by rw [wz_length l t (by omega)]; omega)
          have c2 := hr.cell i2 (by rw [wz_length l t (by omega)]; omega)
          have g16 : (wz l t).getD i16 0 = (ws l t).getD (t - 16) 0 := by rw [wz_get l t i16 (by omega), show i16 = t - 16 by omega]
          have g15 : (wz l t).getD i15 0 = (ws l t).getD (t - 15) 0 := by rw [wz_get l t i15 (by omega), show i15 = t - 15 by omega]
          have g7 : (wz l t).getD i7 0 = (ws l t).getD (t - 7) 0 := by rw [wz_get l t i7 (by omega), show i7 = t - 7 by omega]
          have g2 : (wz l t).getD i2 0 = (ws l t).getD (t - 2) 0 := by rw [wz_get l t i2 (by omega), show i2 = t - 2 by omega]
          have L := ws_last l t
          rw [if_neg (by omega)] at L
          have l16 := ws_lt l HB.out t (t - 16); have l15 := ws_lt l HB.out t (t - 15); have l7 := ws_lt l HB.out t (t - 7); have l2 := ws_lt l HB.out t (t - 2)
          rw [g16] at c16; rw [g15] at c15; rw [g7] at c7; rw [g2] at c2
          clear g16 g15 g7 g2
          obtain ⟨x16, hx16⟩ : ∃ x, (ws l t).getD (t - 16) 0 = x := ⟨_, rfl⟩
          obtain ⟨x15, hx15⟩ : ∃ x, (ws l t).getD (t - 15) 0 = x := ⟨_, rfl⟩
          obtain ⟨x7, hx7⟩ : ∃ x, (ws l t).getD (t - 7) 0 = x := ⟨_, rfl⟩
          obtain ⟨x2, hx2⟩ : ∃ x, (ws l t).getD (t - 2) 0 = x := ⟨_, rfl⟩
          rw [hx16] at c16 l16 L; rw [hx15] at c15 l15 L; rw [hx7] at c7 l7 L; rw [hx2] at c2 l2 L
          clear hx16 hx15 hx7 hx2
          have T1 : Hid (∀ W, Calls Tryd.prog 70 #[.int .u32 (x15 : Int), .int .i64 7] W fun e w' => e = .returned (.int .u32 (rotr x15 7 : Int)) ∧ w' = W) := turns_any x15 7 l15 (by omega) (by omega)
          have T2 : Hid (∀ W, Calls Tryd.prog 70 #[.int .u32 (x15 : Int), .int .i64 18] W fun e w' => e = .returned (.int .u32 (rotr x15 18 : Int)) ∧ w' = W) := turns_any x15 18 l15 (by omega) (by omega)
          have T3 : Hid (∀ W, Calls Tryd.prog 70 #[.int .u32 (x2 : Int), .int .i64 17] W fun e w' => e = .returned (.int .u32 (rotr x2 17 : Int)) ∧ w' = W) := turns_any x2 17 l2 (by omega) (by omega)
          have T4 : Hid (∀ W, Calls Tryd.prog 70 #[.int .u32 (x2 : Int), .int .i64 19] W fun e w' => e = .returned (.int .u32 (rotr x2 19 : Int)) ∧ w' = W) := turns_any x2 19 l2 (by omega) (by omega)
          have X1 := u32_xor_nat (rotr x15 7) (rotr x15 18) (rotr_lt _ l15) (rotr_lt _ l15)
          have X2 := u32_xor_nat (rotr x15 7 ^^^ rotr x15 18) (x15 / 8) (xor32 (rotr_lt _ l15) (rotr_lt _ l15)) (div32 l15 _)
          have X3 := u32_xor_nat (rotr x2 17) (rotr x2 19) (rotr_lt _ l2) (rotr_lt _ l2)
          have X4 := u32_xor_nat (rotr x2 17 ^^^ rotr x2 19) (x2 / 1024) (xor32 (rotr_lt _ l2) (rotr_lt _ l2)) (div32 l2 _)
          have e8 : ((x15 / 8 : Nat) : Int) = (x15 : Int) / 8 := by simp
          have e10 : ((x2 / 1024 : Nat) : Int) = (x2 : Int) / 1024 := by simp
          rw [e8] at X2
          rw [e10] at X4
          have s1 := sg0_lt l15
          have s2 := sg1_lt l2
          rw [show rotr x15 7 ^^^ rotr x15 18 ^^^ x15 / 8 = sg0 x15 from rfl] at X2
          rw [show rotr x2 17 ^^^ rotr x2 19 ^^^ x2 / 1024 = sg1 x2 from rfl] at X4
          obtain ⟨r1, hr1⟩ : ∃ x, rotr x15 7 = x := ⟨_, rfl⟩
          obtain ⟨r2, hr2⟩ : ∃ x, rotr x15 18 = x := ⟨_, rfl⟩
          obtain ⟨r3, hr3⟩ : ∃ x, rotr x2 17 = x := ⟨_, rfl⟩
          obtain ⟨r4, hr4⟩ : ∃ x, rotr x2 19 = x := ⟨_, rfl⟩
          rw [hr1] at T1 X1 X2; rw [hr2] at T2 X1 X2; rw [hr3] at T3 X3 X4; rw [hr4] at T4 X3 X4
          obtain ⟨y1, hy1⟩ : ∃ x, r1 ^^^ r2 = x := ⟨_, rfl⟩
          obtain ⟨y2, hy2⟩ : ∃ x, r3 ^^^ r4 = x := ⟨_, rfl⟩
          obtain ⟨z1, hz1⟩ : ∃ x, sg0 x15 = x := ⟨_, rfl⟩
          obtain ⟨z2, hz2⟩ : ∃ x, sg1 x2 = x := ⟨_, rfl⟩
          rw [hy1] at X1 X2; rw [hy2] at X3 X4; rw [hz1] at X2 L s1; rw [hz2] at X4 L s2
          clear hr1 hr2 hr3 hr4 hy1 hy2 hz1 hz2 e8 e10
          have s1' : (z1 : Int) < 4294967296 := by omega
          have s2' : (z2 : Int) < 4294967296 := by omega
          have l16' : (x16 : Int) < 4294967296 := by omega
          have l7' : (x7 : Int) < 4294967296 := by omega
          have R : Hid ((wz l t).set t ((x16 + z1 + x7 + z2) % 4294967296) = wz l (t + 1)) := wz_set l t _ (by omega) L
          clear hr hB L
          go_wp2
          go_region
          go_wp2_with fail
          refine (T1.out _).mono ?_
          rintro e w1 ⟨rfl, hw1⟩
          rw [hw1]
          clear hw1 w1
          go_wp2_with fail
          refine (T2.out _).mono ?_
          rintro e w1 ⟨rfl, hw1⟩
          rw [hw1]
          clear hw1 w1
          go_wp2_with fail
          refine (T3.out _).mono ?_
          rintro e w1 ⟨rfl, hw1⟩
          rw [hw1]
          clear hw1 w1
          go_wp2_with fail
          refine (T4.out _).mono ?_
          rintro e w1 ⟨rfl, hw1⟩
          rw [hw1]
          clear hw1 w1
          go_wp2_with fail
          go_region
          go_wp2
          go_roundw
          case rel =>
            have ev : (((x16 + z1 + x7 + z2) % 4294967296 : Nat) : Int) = ((x16 : Int) + z1 + x7 + z2) % 4294967296 := by simp
            exact ⟨t + 1, by omega, by omega, by go_num, by rw [← R.out, ← ev]; exact (Hr.out.drew.set t _ (by rw [wz_length l t (by omega)]; omega)).drew, (Hb.out.drew.setCell (Nat.le_refl _) _).drew⟩
          case measure => simp [intOf] <;> omega
        · obtain rfl : t = 64 := by omega
          have hc : Hid (wr2.rangeAt w.heap.size 0 (uv (ws l 64))) := by
            intro j x hx
            rw [wz_all] at hr
            rw [Nat.zero_add]
            exact hr.at hx
          have hlen : (uv (ws l 64)).length = 64 := by rw [uv_length, ws_length]
          rw [hcs.out] at hc hlen
          have hi : Hid ((Tryd.prog.info? 110).map (·.size) = some cs.length) := by unfold Hid; rw [hlen]; kernel_rfl
          have hi' : Hid ((Tryd.prog.info? 110).map (·.size) = some cs.toArray.size) := hi
          have h1 : Hid (cs.toArray.all (·.oneCell') = true) := all_oneCell_toArray (fun v hv => by rw [← hcs.out] at hv; exact uv_one hv)
          have ht : Hid (wr2.there w.heap.size 0 cs.toArray.size) := by
            intro j hj
            rw [Nat.zero_add]
            refine ⟨?_, Hr.out.free j⟩
            have : j < 64 := by simpa [hlen] using hj
            rw [Hr.out.cell j (by rw [wz_length l 64 (by omega)]; exact this)]
            rfl
          clear hr hB hlen
          go_wp2_with (first
            | refine wpList_load_mid rfl 110 _ rfl w.heap.size 0 rfl cs _ hc.out Tryd.underlying110 rfl hi.out ?_
            | refine wpList_store_mid rfl 110 _ _ rfl w.heap.size 0 cs.toArray rfl rfl ht.out hi'.out h1.out ?_)
          refine body_cut' (fun W => W.rangeAt w.heap.size 0 cs ∧ Below w.heap.size w W) ⟨?_, ?_⟩ ?_
          · exact World.rangeAt_setCells_same _ _ _ _ ht.out
          · exact below_setCells Hb.out (Nat.le_refl _) _ _
          · rintro W ⟨hc', hb'⟩
            exact bodyPost_ret (v := .agg cs.toArray) (results_mid (Tryd.results69) _ W w.heap.size 0 cs _ rfl hc' Tryd.underlying110 rfl hi.out) rfl ⟨rfl, hb'⟩
end Go.Proofs.YtlpmbhneffdcfaaDoor
