/-
  The plain arithmetic of a division digit by digit from above, each digit found by halving between what the highest digits say. Conditions: none beyond those written.
-/
import Derived.Test.YtkbiiolkekpkiaaDoorOrd
namespace Go.Proofs.YtkbiiolkekpkiaaDoor
open Go.RowKit
set_option linter.unusedVariables false

theorem valD_drop (l : List Nat) (i : Nat) : valD (l.drop i) = l.getD i 0 + 16777216 * valD (l.drop (i + 1)) := by
  by_cases h : i < l.length
  · rw [List.drop_eq_getElem_cons h]
    simp [valD, List.getD_eq_getElem?_getD, h]
  · rw [List.drop_eq_nil_of_le (by omega), List.drop_eq_nil_of_le (by omega), getD_ge l i (by omega)]
    simp [valD]

/-- Behind the digits from i on: the quotient's digits, and the rest. -/
structure QAt (la : List Nat) (B i : Nat) (o : List Nat) (R : Nat) : Prop where
  len : o.length = la.length
  dg : Dg o
  low : ∀ j, j < i → o.getD j 0 = 0
  val : valD o = 16777216 ^ i * (valD (la.drop i) / B)
  rest : R = valD (la.drop i) % B
theorem QAt.start (la : List Nat) (B : Nat) : QAt la B la.length (List.replicate la.length 0) 0 := by
  refine ⟨by simp, Dg.zeros _, fun j _ => ?_, ?_, ?_⟩
  · rw [List.getD_eq_getElem?_getD, List.getElem?_replicate]; split <;> rfl
  · rw [valD_zeros, List.drop_length]; simp [valD]
  · rw [List.drop_length]; simp [valD]
theorem QAt.done {la : List Nat} {B : Nat} {o : List Nat} {R : Nat} (h : QAt la B 0 o R) : valD o = valD la / B ∧ R = valD la % B := by
  have h1 := h.val
  have h2 := h.rest
  rw [List.drop_zero] at h1 h2
  exact ⟨by rw [h1, Nat.pow_zero, Nat.one_mul], h2⟩
theorem QAt.lt {la : List Nat} {B i : Nat} {o : List Nat} {R : Nat} (h : QAt la B i o R) (hB : 0 < B) : R < B := by rw [h.rest]; exact Nat.mod_lt _ hB
theorem QAt.next {la : List Nat} {B i : Nat} {o : List Nat} {R x : Nat} (h : QAt la B i o R) (hB : 0 < B) (hx : x < 16777216) : x + 16777216 * R < 16777216 * B := by
  have := h.lt hB
  omega
theorem QAt.step {la : List Nat} {B i : Nat} {o : List Nat} {R x q X : Nat} (h : QAt la B (i + 1) o R) (hi : i < la.length) (hx : la.getD i 0 = x) (hxl : x < 16777216) (hB : 0 < B) (hX : X = x + 16777216 * R) (hq : X / B = q) :
    QAt la B i (o.set i q) (X - B * q) := by
  have hlt := h.next hB hxl
  rw [← hX] at hlt
  obtain ⟨h1, h2, h3, h4, h5⟩ := h
  have hd := valD_drop la i
  rw [hx] at hd
  generalize hH : valD (la.drop (i + 1)) = H at *
  have hHd := Nat.div_add_mod H B
  rw [← h5] at hHd
  have hE : valD (la.drop i) = B * (16777216 * (H / B)) + X := by
    rw [hd, hX, Nat.mul_left_comm B 16777216]
    generalize B * (H / B) = Z at *
    omega
  have hqb : q < 16777216 := by rw [← hq]; exact Nat.div_lt_of_lt_mul (by rw [Nat.mul_comm]; exact hlt)
  refine ⟨by rw [List.length_set]; exact h1, h2.set (by omega) hqb, fun j hj => ?_, ?_, ?_⟩
  · rw [getD_set _ _ _ _ (by omega), if_neg (by omega)]; exact h3 j (by omega)
  · have e := valD_set o i q (by omega)
    rw [h3 i (by omega), Nat.mul_zero, Nat.add_zero] at e
    rw [e, h4, hE, Nat.mul_add_div hB, hq, Nat.mul_add, Nat.pow_succ, Nat.mul_assoc]
  · rw [hE, Nat.mul_add_mod, ← hq]
    have := Nat.div_add_mod X B
    omega

/-- A digit lies between low and high. -/
def Brk (X B low high : Nat) : Prop := low * B ≤ X ∧ X < high * B ∧ high ≤ 16777216
theorem Brk.lt {X B low high : Nat} (h : Brk X B low high) : low < high := by
  rcases Nat.lt_or_ge low high with g | g
  · exact g
  · have := Nat.mul_le_mul_right B g
    have := h.1; have := h.2.1
    omega
theorem Brk.done {X B low high : Nat} (h : Brk X B low high) (hd : high ≤ low + 1) : X / B = low := by
  have hl := h.lt
  obtain rfl : high = low + 1 := by omega
  exact Nat.div_eq_of_lt_le h.1 h.2.1
theorem Brk.up {X B low high m : Nat} (h : Brk X B low high) (hm : B * m ≤ X) : Brk X B m high := ⟨by rw [Nat.mul_comm]; exact hm, h.2⟩
theorem Brk.down {X B low high m : Nat} (h : Brk X B low high) (hm : X < B * m) (hm2 : m ≤ high) : Brk X B low m := ⟨h.1, by rw [Nat.mul_comm m B]; exact hm, Nat.le_trans hm2 h.2.2⟩
theorem Brk.short {X B : Nat} (h : X < B) : Brk X B 0 1 := ⟨by omega, by omega, by omega⟩
theorem Brk.of {P top bt r' b' X B : Nat} (hX : X = r' + P * top) (hr : r' < P) (hB : B = b' + P * bt) (hb : b' < P) (hbt : 0 < bt) : top / (bt + 1) * B ≤ X ∧ X < (top / bt + 1) * B := by
  constructor
  · have h1 : B ≤ P * (bt + 1) := by rw [Nat.mul_add]; omega
    have h2 : top / (bt + 1) * B ≤ top / (bt + 1) * (P * (bt + 1)) := Nat.mul_le_mul_left _ h1
    have h3 : top / (bt + 1) * (P * (bt + 1)) = P * (top / (bt + 1) * (bt + 1)) := by rw [Nat.mul_left_comm]
    have h4 : P * (top / (bt + 1) * (bt + 1)) ≤ P * top := Nat.mul_le_mul_left _ (Nat.div_mul_le_self _ _)
    omega
  · have h1 : X < P * (top + 1) := by rw [Nat.mul_add]; omega
    have h5 : top + 1 ≤ bt * (top / bt + 1) := by
      have := Nat.div_add_mod top bt
      have := Nat.mod_lt top hbt
      rw [Nat.mul_add]
      omega
    have h2 : P * (top + 1) ≤ P * (bt * (top / bt + 1)) := Nat.mul_le_mul_left _ h5
    have h3 : P * bt * (top / bt + 1) ≤ B * (top / bt + 1) := Nat.mul_le_mul_right _ (by omega)
    rw [Nat.mul_assoc] at h3
    rw [Nat.mul_comm _ B]
    omega
theorem Dg.take {l : List Nat} (h : Dg l) (n : Nat) : Dg (l.take n) := fun j => by
  by_cases hj : j < n
  · have := h j
    simpa [List.getD_eq_getElem?_getD, hj] using this
  · rw [List.getD_eq_getElem?_getD, List.getElem?_eq_none (by rw [List.length_take]; omega)]; decide
theorem valD_cut_lt (l : List Nat) (hd : Dg l) (n : Nat) (hn : n ≤ l.length) : valD (l.take n) < 16777216 ^ n := by
  have := valD_lt (l.take n) (hd.take n)
  rwa [List.length_take, Nat.min_eq_left hn] at this
/-- The highest digits, of a rest as long as what it is divided by. -/
theorem brk_same (r lb : List Nat) (n top bt : Nat) (hdr : Dg r) (hdb : Dg lb) (hr : r.length = n + 1) (hl : lb.length = n + 1) (ht : r.getD n 0 = top) (hb : lb.getD n 0 = bt) (hbt : 0 < bt) :
    top / (bt + 1) * valD lb ≤ valD r ∧ valD r < (top / bt + 1) * valD lb := by
  have e1 := valD_take r n
  have e2 := valD_take lb n
  rw [← hr, List.take_length, ht] at e1
  rw [← hl, List.take_length, hb] at e2
  exact Brk.of e1 (valD_cut_lt r hdr n (by omega)) e2 (valD_cut_lt lb hdb n (by omega)) hbt
theorem brk_long (r lb : List Nat) (n t1 t0 bt : Nat) (hdr : Dg r) (hdb : Dg lb) (hr : r.length = n + 2) (hl : lb.length = n + 1) (ht : r.getD (n + 1) 0 = t1) (ht0 : r.getD n 0 = t0) (hb : lb.getD n 0 = bt) (hbt : 0 < bt) :
    (t1 * 16777216 + t0) / (bt + 1) * valD lb ≤ valD r ∧ valD r < ((t1 * 16777216 + t0) / bt + 1) * valD lb := by
  have e1 := valD_take r (n + 1)
  have e0 := valD_take r n
  have e2 := valD_take lb n
  rw [show n + 1 + 1 = r.length by omega, List.take_length, ht, e0, ht0] at e1
  rw [← hl, List.take_length, hb] at e2
  refine Brk.of (P := 16777216 ^ n) ?_ (valD_cut_lt r hdr n (by omega)) e2 (valD_cut_lt lb hdb n (by omega)) hbt
  rw [e1, Nat.pow_succ, Nat.mul_add, Nat.mul_assoc, Nat.mul_comm t1]
  omega
theorem rest_len (r lb : List Nat) (n : Nat) (hdr : Dg r) (hzr : Nz r) (hdb : Dg lb) (hl : lb.length = n + 1) (h : valD r < 16777216 * valD lb) : r.length ≤ n + 2 := by
  refine nz_len r (n + 2) hdr hzr ?_
  have := valD_lt lb hdb
  rw [hl] at this
  rw [Nat.pow_succ]
  omega
theorem Brk.cap {X B low high : Nat} (h1 : low * B ≤ X) (h2 : X < high * B) (h : X < 16777216 * B) : Brk X B low (if high ≤ 16777216 then high else 16777216) := by
  refine ⟨h1, ?_, ?_⟩ <;> split <;> first | assumption | omega
theorem mid_lt (low high : Nat) (h : low + 1 < high) : low < (low + high) / 2 ∧ (low + high) / 2 < high := by omega
/-- A nought aside, what stands in front is the lowest digit. -/
theorem Dg.cons {l : List Nat} {d : Nat} (h : Dg l) (hd : d < 16777216) : Dg (d :: l) := fun j => by
  rcases j with _ | j
  · exact hd
  · exact h j
theorem top_pos (l : List Nat) (n : Nat) (hl : l.length = n + 1) (hz : Nz l) : 0 < l.getD n 0 := by
  rcases hz with e | e
  · rw [e] at hl; simp at hl
  · rw [hl, Nat.add_sub_cancel] at e; omega
theorem val_pos (l : List Nat) (n : Nat) (hl : l.length = n + 1) (hz : Nz l) : 0 < valD l := by
  have e := valD_take l n
  rw [← hl, List.take_length] at e
  have h1 := top_pos l n hl hz
  have h2 : 0 < 16777216 ^ n := Nat.pow_pos (by omega)
  have := Nat.mul_pos h2 h1
  omega

end Go.Proofs.YtkbiiolkekpkiaaDoor
