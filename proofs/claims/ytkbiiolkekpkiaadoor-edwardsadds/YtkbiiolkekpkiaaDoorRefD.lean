/-
  The contracts of the document's own Words and Of over digits of 24 bits: words of 64 bits as a number. Conditions: as each theorem says.
-/
import Derived.Test.YtkbiiolkekpkiaaDoorRefA
import Derived.Test.YtkbiiolkekpkiaaDoorSk
namespace Go.Proofs.YtkbiiolkekpkiaaDoor
open Go.RowKit
set_option linter.unusedVariables false

def valW : List Nat → Nat
  | [] => 0
  | x :: l => x + 18446744073709551616 * valW l
/-- Each of them is a word. -/
def Ww (l : List Nat) : Prop := ∀ j, l.getD j 0 < 18446744073709551616
theorem valW_lt : ∀ (l : List Nat), Ww l → valW l < 18446744073709551616 ^ l.length
  | [], _ => by simp [valW]
  | d :: l, h => by
    have h0 := h 0
    have ih := valW_lt l (fun j => h (j + 1))
    simp only [List.getD_cons_zero] at h0
    simp only [valW, List.length_cons, Nat.pow_succ]
    omega
theorem valW_drop (l : List Nat) (k : Nat) (h : k < l.length) : valW (l.drop k) = l.getD k 0 + 18446744073709551616 * valW (l.drop (k + 1)) := by
  rw [List.drop_eq_getElem_cons h]
  simp [valW, List.getD_eq_getElem?_getD, h]
theorem Ww.drop {l : List Nat} (h : Ww l) (k : Nat) : Ww (l.drop k) := fun j => by
  have := h (k + j)
  rw [List.getD_eq_getElem?_getD] at this ⊢
  rwa [List.getElem?_drop]

theorem nz_len (l : List Nat) (m : Nat) (hd : Dg l) (hz : Nz l) (h : valD l < 16777216 ^ m) : l.length ≤ m := by
  rcases Nat.lt_or_ge m l.length with hlt | hge
  · exfalso
    rcases hz with e | e
    · rw [e] at hlt; simp at hlt
    · have ht := valD_take l (l.length - 1)
      rw [show l.length - 1 + 1 = l.length by omega, List.take_length] at ht
      have hp : 16777216 ^ m ≤ 16777216 ^ (l.length - 1) := Nat.pow_le_pow_right (by omega) (by omega)
      have hm : 16777216 ^ (l.length - 1) * 1 ≤ 16777216 ^ (l.length - 1) * l.getD (l.length - 1) 0 := Nat.mul_le_mul_left _ (by omega)
      generalize 16777216 ^ (l.length - 1) = P at *
      omega
  · exact hge
theorem words_len' (k m : Nat) (hk : 64 * k ≤ 24 * m) (N : Nat) (h : N < 18446744073709551616 ^ k) : N < 16777216 ^ m := by
  refine Nat.lt_of_lt_of_le h ?_
  rw [show (18446744073709551616 : Nat) = 2 ^ 64 from by decide, show (16777216 : Nat) = 2 ^ 24 from by decide, ← Nat.pow_mul, ← Nat.pow_mul]
  exact Nat.pow_le_pow_right (by omega) hk
theorem words_len (k : Nat) (hk : k ≤ 90) (N : Nat) (h : N < 18446744073709551616 ^ k) : N < 16777216 ^ 240 := words_len' k 240 (by omega) N h

/-- The slice v leads to the words l. -/
def SlU (w : World) (v : Value) (l : List Nat) : Prop :=
  ∃ b o cap, v = .slice (some ⟨b, o, none⟩) l.length cap ∧ b < w.heap.size ∧ ∀ j, j < l.length → w.cell? ⟨b, o + j, none⟩ = some (.int .u64 (l.getD j 0 : Int))

theorem SlU.sk {w : World} {v : Value} {l : List Nat} (h : SlU w v l) (hc : ∀ a n c, v = .slice a n c → n ≤ c) : SK .u64 w v l := by
  obtain ⟨b, o, cap, h1, h2, h3⟩ := h
  exact ⟨some ⟨b, o, none⟩, cap, h1, hc _ _ _ h1, fun h => by simp at h, fun j hj => ⟨b, o, rfl, h2, h3 j hj⟩⟩

theorem Sl.lit3 (w : World) (d0 d1 d2 : Nat) (z0 z1 z2 : Int) (h0 : z0 = (d0 : Int)) (h1 : z1 = (d1 : Int)) (h2 : z2 = (d2 : Int)) : Sl (w.alloc (.cells #[.int .i64 z0, .int .i64 z1, .int .i64 z2] 3)) (.slice (some ⟨w.heap.size, 0, none⟩) 3 3) [d0, d1, d2] := by
  subst h0 h1 h2
  refine ⟨some ⟨w.heap.size, 0, none⟩, 3, rfl, by simp, fun h => by simp at h, fun j hj => ⟨w.heap.size, 0, rfl, by simp, ?_⟩⟩
  have : j = 0 ∨ j = 1 ∨ j = 2 := by simp at hj; omega
  rcases this with rfl | rfl | rfl <;> simp

theorem Num.shape {w : World} {v : Value} {N : Nat} (h : Num w v N) : ∃ a c d, v = .slice a c d := by
  obtain ⟨l, ⟨a, c, e, _⟩, _⟩ := h
  exact ⟨a, _, c, e⟩

set_option maxHeartbeats 1000000 in
theorem words_any (l : List Nat) (va : Value) (w : World) (ha : SK .u64 w va l) (hw : Ww l) (hl : l.length ≤ 80) :
    Calls Tryd.prog 59 #[va] w fun e w' => ∃ v, e = .returned v ∧ Num w' v (valW l) ∧ Below w.heap.size w w' := by
  obtain ⟨a0, cap, rfl, hcap, -, hc⟩ := ha
  have Hc : Hid _ := hc
  have Hw : Hid (Ww l) := hw
  have hl' : (l.length : Int) ≤ 80 := by omega
  clear hc hw
  go_enter Tryd.func59, Tryd.ntmps59
  go_wp2
  go_loopw [3, 4] (fun v i wr => ∃ k : Nat, k ≤ l.length ∧ i = .int .i64 ((k : Int) - 1) ∧ Num wr v (valW (l.drop k)) ∧ Below w.heap.size w wr) (fun _ i _ => ((intOf i) + 1).toNat)
  case atStart => exact ⟨l.length, Nat.le_refl _, rfl, ⟨[], Sl.nil _, Dg.nil, Or.inl rfl, by simp [valD, valW]⟩, Below.refl _ _⟩
  case round =>
    obtain ⟨k, hk, rfl, hN, hbel⟩ := hrel
    have hlt := words_len (l.drop k).length (by simp; omega) _ (valW_lt _ (Hw.out.drop k))
    obtain ⟨a, c, d, rfl⟩ := hN.shape
    obtain ⟨m, hs, hd, hz, hv⟩ := hN
    have hml := nz_len m 240 hd hz (by rw [hv]; exact hlt)
    have Hs : Hid (Sl wr (.slice a c d) m) := hs
    have Hd : Hid (Dg m) := hd
    have Hv : Hid _ := hv
    have HB : Hid (Below w.heap.size w wr) := hbel
    clear hs hd hv hlt hbel
    cases k with
    | zero =>
      clear hz
      go_wp2_with (go_at_call 71; refine (trim_any m _ _ Hs.out (by omega) Hd.out).mono ?_; rintro e w' ⟨v', rfl, hN, rfl⟩)
      go_ret
      exact ⟨_, rfl, by rw [Hv.out, List.drop_zero] at hN; exact hN, HB.out⟩
    | succ k =>
      clear hz
      obtain ⟨x, hx⟩ : ∃ x, Hid (l.getD k 0 = x) := ⟨_, rfl⟩
      have hx1 : (x : Int) ≤ 18446744073709551615 := by have := Hw.out k; rw [hx.out] at this; omega
      obtain ⟨b, off, rfl, hb, hcb⟩ := Hc.out k (by omega)
      have hcx : wr.cell? ⟨b, off + k, none⟩ = some (.int .u64 (x : Int)) := by
        rw [HB.out.cell (p := ⟨b, off + k, none⟩) hb, hcb, hx.out]
      clear hcb
      have hkl : (k : Int) < l.length := by omega
      have hk0 : (0 : Int) ≤ (k : Int) := by omega
      go_wp2_with fail
      refine (shift_any m _ 64 _ Hs.out Hd.out (by omega) (by omega)).mono ?_
      rintro e w1 ⟨v1, rfl, hN1, b1⟩
      obtain ⟨a1, c1, d1, rfl⟩ := hN1.shape
      obtain ⟨m1, s1, dg1, z1, v1⟩ := hN1
      have hml1 := nz_len m1 240 dg1 z1 (by
        rw [v1, Hv.out, Nat.mul_comm, show (2 : Nat) ^ 64 = 18446744073709551616 by decide]
        have h := words_len (l.drop k).length (by simp; omega) _ (valW_lt _ (Hw.out.drop k))
        rw [valW_drop l k (by omega)] at h
        omega)
      have S1 : Hid (Sl w1 (.slice a1 c1 d1) m1) := s1
      have D1 : Hid (Dg m1) := dg1
      have V1 : Hid _ := v1
      have B1 : Hid (Below wr.heap.size wr w1) := b1
      clear s1 dg1 z1 v1 b1
      go_wp2_with fail
      refine (addR_any m1 [x % 16777216, x / 16777216 % 16777216, x / 281474976710656] _ _ _ (S1.out.below ((Below.refl _ _).alloc (Nat.le_refl _) _)) (Sl.lit3 w1 _ _ _ _ _ _ (by omega) (by omega) (by omega)) D1.out ?_ (by omega) (by simp)).mono ?_
      · intro j
        rcases j with _ | _ | _ | j <;> simp <;> omega
      rintro e w2 ⟨v2, rfl, hN2, b2⟩
      have e2 : valD m1 + valD [x % 16777216, x / 16777216 % 16777216, x / 281474976710656] = valW (l.drop k) := by
        rw [V1.out, Hv.out, valW_drop l k (by omega), hx.out, show (2 : Nat) ^ 64 = 18446744073709551616 by decide]
        simp only [valD]
        omega
      rw [e2] at hN2
      obtain ⟨a2, c2, d2, rfl⟩ := hN2.shape
      have N2 : Hid (Num w2 (.slice a2 c2 d2) (valW (l.drop k))) := hN2
      have sz1 := B1.out.size
      have szb := HB.out.size
      have B2 : Hid (Below w.heap.size w w2) := by
        refine HB.out.trans ((B1.out.mono szb).trans ?_)
        exact ((Below.refl w.heap.size w1).alloc (by omega) _).trans (b2.mono (by simp; omega))
      clear e2 hN2 b2
      go_wp2
      go_roundw
      case rel => exact ⟨k, by omega, by go_num, N2.out, B2.out⟩
      case measure => simp [intOf]

end Go.Proofs.YtkbiiolkekpkiaaDoor

/-
  The plain arithmetic of the document's own ToWords: a number's words out of its bits. Conditions: none beyond those written.
-/
namespace Go.Proofs.YtkbiiolkekpkiaaDoor
open Go.RowKit
set_option linter.unusedVariables false

theorem valW_set : ∀ (l : List Nat) (p d : Nat), p < l.length → valW (l.set p d) + 18446744073709551616 ^ p * l.getD p 0 = valW l + 18446744073709551616 ^ p * d
  | [], p, d, h => by simp at h
  | x :: l, 0, d, h => by simp [valW]; omega
  | x :: l, p + 1, d, h => by
    have ih := valW_set l p d (by simpa using h)
    simp only [List.set_cons_succ, valW, List.getD_cons_succ, Nat.pow_succ]
    rw [Nat.mul_comm (18446744073709551616 ^ p) 18446744073709551616, Nat.mul_assoc, Nat.mul_assoc]
    omega
theorem valW_ge : ∀ (l : List Nat) (p : Nat), 18446744073709551616 ^ p * l.getD p 0 ≤ valW l
  | [], p => by simp [valW]
  | x :: l, 0 => by simp [valW]
  | x :: l, p + 1 => by
    have ih := valW_ge l p
    simp only [valW, List.getD_cons_succ, Nat.pow_succ]
    rw [Nat.mul_comm (18446744073709551616 ^ p) 18446744073709551616, Nat.mul_assoc]
    omega
theorem valW_zeros : ∀ (n : Nat), valW (List.replicate n 0) = 0
  | 0 => rfl
  | n + 1 => by simp only [List.replicate_succ, valW, valW_zeros n]

/-- The first t bits of N stand in the words o, of which there are n. -/
def TW (N n t : Nat) (o : List Nat) : Prop := o.length = n ∧ Ww o ∧ valW o = N % 2 ^ (min t (64 * n))
theorem TW.start (N n : Nat) : TW N n 0 (List.replicate n 0) := by
  refine ⟨by simp, fun j => ?_, ?_⟩
  · rw [List.getD_eq_getElem?_getD, List.getElem?_replicate]; split <;> simp
  · rw [valW_zeros, Nat.zero_min, Nat.pow_zero, Nat.mod_one]
theorem mod_succ (N t : Nat) : N % 2 ^ (t + 1) = N % 2 ^ t + 2 ^ t * (N / 2 ^ t % 2) := by rw [Nat.pow_succ, Nat.mod_mul]
theorem TW.none {N n t : Nat} {o : List Nat} (h : TW N n t o) (hb : N / 2 ^ t % 2 = 0 ∨ 64 * n ≤ t) : TW N n (t + 1) o := by
  refine ⟨h.1, h.2.1, ?_⟩
  rw [h.2.2]
  by_cases ht : t < 64 * n
  · rw [Nat.min_eq_left (by omega), Nat.min_eq_left (by omega), mod_succ]
    have : N / 2 ^ t % 2 = 0 := by omega
    rw [this, Nat.mul_zero, Nat.add_zero]
  · rw [Nat.min_eq_right (by omega), Nat.min_eq_right (by omega)]
theorem pow64 (t : Nat) : 18446744073709551616 ^ (t / 64) * 2 ^ (t % 64) = 2 ^ t := by
  rw [show (18446744073709551616 : Nat) = 2 ^ 64 from by decide, ← Nat.pow_mul, ← Nat.pow_add, Nat.div_add_mod]
theorem TW.room {N n t : Nat} {o : List Nat} (h : TW N n t o) (ht : t < 64 * n) : o.getD (t / 64) 0 + 2 ^ (t % 64) < 18446744073709551616 := by
  have h1 := valW_ge o (t / 64)
  rw [h.2.2, Nat.min_eq_left (by omega)] at h1
  have h2 : N % 2 ^ t < 2 ^ t := Nat.mod_lt _ (Nat.two_pow_pos t)
  have h3 : o.getD (t / 64) 0 < 2 ^ (t % 64) := by
    rw [← pow64 t] at h2
    exact Nat.lt_of_mul_lt_mul_left (Nat.lt_of_le_of_lt h1 (by rw [pow64 t] at h2; rw [pow64 t]; exact h2))
  have h4 : 2 ^ (t % 64) * 2 ≤ 2 ^ 64 := by rw [← Nat.pow_succ]; exact Nat.pow_le_pow_right (by omega) (by omega)
  omega
theorem TW.bit {N n t : Nat} {o : List Nat} (h : TW N n t o) (ht : t < 64 * n) (hb : N / 2 ^ t % 2 = 1) : TW N n (t + 1) (o.set (t / 64) (o.getD (t / 64) 0 + 2 ^ (t % 64))) := by
  have hp : t / 64 < o.length := by rw [h.1]; omega
  have hr := h.room ht
  refine ⟨by rw [List.length_set]; exact h.1, fun j => ?_, ?_⟩
  · rw [getD_set _ _ _ _ hp]; split
    · exact hr
    · exact h.2.1 j
  · have e := valW_set o (t / 64) (o.getD (t / 64) 0 + 2 ^ (t % 64)) hp
    rw [Nat.mul_add, pow64, h.2.2, Nat.min_eq_left (by omega)] at e
    rw [Nat.min_eq_left (by omega), mod_succ, hb, Nat.mul_one]
    omega
theorem TW.done {N n t : Nat} {o : List Nat} (h : TW N n t o) (hN : N < 2 ^ t) : valW o = N % 2 ^ (64 * n) := by
  rw [h.2.2]
  by_cases ht : t ≤ 64 * n
  · rw [Nat.min_eq_left ht, Nat.mod_eq_of_lt hN, Nat.mod_eq_of_lt (Nat.lt_of_lt_of_le hN (Nat.pow_le_pow_right (by omega) ht))]
  · rw [Nat.min_eq_right (by omega)]

/-- The bits of a digit are the number's. -/
theorem digit_bit (l : List Nat) (hd : Dg l) (i k : Nat) (hk : k < 24) : valD l / 2 ^ (24 * i + k) % 2 = l.getD i 0 / 2 ^ k % 2 := by
  have hsplit : valD l = valD (l.take i) + 16777216 ^ i * valD (l.drop i) := by
    by_cases hi : i ≤ l.length
    · have := valD_append (l.take i) (l.drop i)
      rw [List.take_append_drop, List.length_take, Nat.min_eq_left hi] at this
      exact this
    · rw [List.take_of_length_le (by omega), List.drop_eq_nil_of_le (by omega)]
      simp [valD]
  have hlt : valD (l.take i) < 16777216 ^ i := by
    have h := valD_lt (l.take i) (fun j => by
      rw [List.getD_eq_getElem?_getD, List.getElem?_take]
      split
      · have := hd j; rwa [List.getD_eq_getElem?_getD] at this
      · simp)
    refine Nat.lt_of_lt_of_le h (Nat.pow_le_pow_right (by omega) ?_)
    rw [List.length_take]; omega
  have hq : valD l / 2 ^ (24 * i) = valD (l.drop i) := by
    rw [hsplit, show (2 : Nat) ^ (24 * i) = 16777216 ^ i by rw [Nat.pow_mul], Nat.add_comm, Nat.mul_add_div (Nat.pos_of_ne_zero (by simp)), Nat.div_eq_of_lt hlt, Nat.add_zero]
  have hdrop : ∃ r, valD (l.drop i) = l.getD i 0 + 16777216 * r := by
    by_cases hi : i < l.length
    · rw [List.drop_eq_getElem_cons hi]
      exact ⟨valD (l.drop (i + 1)), by simp [valD, List.getD_eq_getElem?_getD, hi]⟩
    · rw [List.drop_eq_nil_of_le (by omega), getD_ge l i (by omega)]
      exact ⟨0, by simp [valD]⟩
  obtain ⟨r, hr⟩ := hdrop
  rw [Nat.pow_add, ← Nat.div_div_eq_div_mul, hq, hr]
  have e : (16777216 : Nat) * r = 2 ^ k * (2 * (2 ^ (23 - k) * r)) := by
    rw [← Nat.mul_assoc 2, ← Nat.pow_succ', ← Nat.mul_assoc, ← Nat.pow_add, show k + (23 - k).succ = 24 by omega]
  rw [e, Nat.add_mul_div_left _ _ (Nat.two_pow_pos k), Nat.add_mul_mod_self_left]

end Go.Proofs.YtkbiiolkekpkiaaDoor

/-
  The contracts of the document's own ToWords and Four over digits of 24 bits: a number's lowest words. Conditions: as each theorem says.
-/
namespace Go.Proofs.YtkbiiolkekpkiaaDoor
open Go.RowKit
set_option linter.unusedVariables false

theorem info_word : (Tryd.prog.info? 24).map (fun i => (i.zero, i.size, i.bytes)) = some (some (.int .u64 0), 1, 8) := by kernel_rfl
theorem make_words (n : Nat) (hn : n ≤ 1000000) (w : World) : (Instr.makeSlice 80 (.int .i64 (n : Int)) (.int .i64 (n : Int))).run Tryd.prog w = .ok (.slice (some ⟨w.heap.size, 0, none⟩) n n) (w.alloc (.cells (madeCells #[.int .u64 0] n) 24)) := by
  obtain ⟨i0, hi, hz0, hz1, hz2⟩ := info_parts info_word
  have h := run_make (P := Tryd.prog) w 80 24 i0 (.int .u64 0) Tryd.underlying80 hi hz0 .i64 .i64 n n (by omega) (by omega) (by rw [hz2]; omega) (by omega)
  rw [h, hz1]
  simp [Value.cells]

theorem Row.drewN {k : IntKind} {base g : Nat} {l : List Nat} {W : World} (h : Row k base g l W) (n : Nat) : Row k base g l (W.drewN n) := ⟨h.cell, h.free, h.lt, h.ge⟩
theorem Joins_draws {B : Nat} {w W : World} (h : Below B w W) (n : Nat) : Below B w (W.drewN n) := ⟨h.os, h.tape, h.output, h.size, h.block⟩
theorem bcell' {W w1 : World} (hb : Below W.heap.size W w1) : (∀ b o, b < W.heap.size → w1.cell? ⟨b, o, none⟩ = W.cell? ⟨b, o, none⟩) ∧ (∀ b o, b < W.heap.size → w1.frozen? ⟨b, o, none⟩ = W.frozen? ⟨b, o, none⟩) :=
  ⟨fun b o h => hb.cell (p := ⟨b, o, none⟩) h, fun b o h => hb.frozen (p := ⟨b, o, none⟩) h⟩
theorem wrap_quo (d p e : Nat) (he : d / p = e) (hd : d ≤ 9223372036854775807) : IntKind.i64.wrap ((d : Int) / (p : Int)) = (e : Int) := by
  have h3 : ((d / p : Nat) : Int) = (d : Int) / (p : Int) := by simp
  have h4 := Nat.div_le_self d p
  rw [← h3, he, IntKind.wrap_i64]
  omega

set_option maxHeartbeats 4000000 in
theorem four_valW (o : List Nat) (hl : o.length = 4) (hw : Ww o) : four (valW o) = .agg #[.int .u64 (o.getD 0 0 : Int), .int .u64 (o.getD 1 0 : Int), .int .u64 (o.getD 2 0 : Int), .int .u64 (o.getD 3 0 : Int)] := by
  match o, hl with
  | [a, b, c, d], _ =>
    have h0 := hw 0
    have h1 := hw 1
    have h2 := hw 2
    have h3 := hw 3
    simp only [List.getD_cons_zero, List.getD_cons_succ] at h0 h1 h2 h3 ⊢
    refine four_eq _ _ _ _ _ ⟨by omega, by omega⟩ ⟨by omega, by omega⟩ ⟨by omega, by omega⟩ ⟨by omega, by omega⟩ ?_
    simp only [valW]
    omega

end Go.Proofs.YtkbiiolkekpkiaaDoor
