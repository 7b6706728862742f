/-
  Numbers as lists of words of 64 bits, the lowest first: their values, the words without noughts at the end, and the steps of sums, differences and products. No program is spoken of here.
-/
import Derived.Test.YtdlocljnmaeikaaRefE
namespace Go.Proofs.Ytdlocljnmaeikaa
open Go.RowKit
set_option linter.unusedVariables false

/-- No nought at the end. -/
def Nzw (l : List Nat) : Prop := l = [] ∨ l.getD (l.length - 1) 0 ≠ 0
theorem Ww.nil : Ww [] := fun j => by simp
theorem Ww.zeros (n : Nat) : Ww (List.replicate n 0) := fun j => by
  rw [List.getD_eq_getElem?_getD, List.getElem?_replicate]; split <;> simp
theorem Ww.take {l : List Nat} (h : Ww l) (n : Nat) : Ww (l.take n) := fun j => by
  rw [List.getD_eq_getElem?_getD, List.getElem?_take]
  split
  · have := h j; rwa [List.getD_eq_getElem?_getD] at this
  · simp
theorem Ww.set {l : List Nat} {p d : Nat} (h : Ww l) (hp : p < l.length) (hd : d < 18446744073709551616) : Ww (l.set p d) := fun j => by
  rw [getD_set l p j d hp]; split
  · exact hd
  · exact h j
theorem valW_append : ∀ (l m : List Nat), valW (l ++ m) = valW l + 18446744073709551616 ^ l.length * valW m
  | [], m => by simp [valW]
  | d :: l, m => by
    simp only [List.cons_append, valW, valW_append l m, List.length_cons, Nat.pow_succ]
    rw [Nat.mul_add, Nat.add_assoc, Nat.mul_comm (18446744073709551616 ^ l.length) 18446744073709551616, Nat.mul_assoc]
theorem valW_split (l : List Nat) (i : Nat) : valW l = valW (l.take i) + 18446744073709551616 ^ i * valW (l.drop i) := by
  by_cases hi : i ≤ l.length
  · have := valW_append (l.take i) (l.drop i)
    rw [List.take_append_drop, List.length_take, Nat.min_eq_left hi] at this
    exact this
  · rw [List.take_of_length_le (by omega), List.drop_eq_nil_of_le (by omega)]
    simp [valW]
theorem valW_take (l : List Nat) (i : Nat) : valW (l.take (i + 1)) = valW (l.take i) + 18446744073709551616 ^ i * l.getD i 0 := by
  by_cases h : i < l.length
  · rw [List.take_succ_eq_append_getElem h, valW_append, List.length_take, Nat.min_eq_left (by omega)]
    simp [valW, List.getD_eq_getElem?_getD, h]
  · rw [List.take_of_length_le (by omega), List.take_of_length_le (by omega)]
    simp [List.getD_eq_getElem?_getD, List.getElem?_eq_none (show l.length ≤ i by omega)]
theorem valW_take_all (l : List Nat) (i : Nat) (h : l.length ≤ i) : valW (l.take i) = valW l := by rw [List.take_of_length_le h]
theorem valW_take_lt (l : List Nat) (hd : Ww l) (i : Nat) : valW (l.take i) < 18446744073709551616 ^ i := by
  have h := valW_lt (l.take i) (hd.take i)
  refine Nat.lt_of_lt_of_le h (Nat.pow_le_pow_right (by omega) ?_)
  rw [List.length_take]; omega
theorem valW_drop' (l : List Nat) (k : Nat) : valW (l.drop k) = l.getD k 0 + 18446744073709551616 * valW (l.drop (k + 1)) := by
  by_cases h : k < l.length
  · exact valW_drop l k h
  · rw [List.drop_eq_nil_of_le (by omega), List.drop_eq_nil_of_le (by omega), getD_ge l k (by omega)]; rfl
/-- A word of a list is its number's. -/
theorem word_val (l : List Nat) (hw : Ww l) (k : Nat) : l.getD k 0 = valW l / 18446744073709551616 ^ k % 18446744073709551616 := by
  have h1 := valW_take_lt l hw k
  rw [valW_split l k, Nat.add_mul_div_left _ _ (Nat.pow_pos (by omega)), Nat.div_eq_of_lt h1, Nat.zero_add, valW_drop' l k, Nat.add_mul_mod_self_left, Nat.mod_eq_of_lt (hw k)]
/-- Words that are a number's words make it. -/
theorem valW_of (X : Nat) : ∀ (n : Nat) (l : List Nat), l.length = n → (∀ j, j < n → l.getD j 0 = X / 18446744073709551616 ^ j % 18446744073709551616) → valW l = X % 18446744073709551616 ^ n := by
  intro n l hl h
  have key : ∀ i, i ≤ n → valW (l.take i) = X % 18446744073709551616 ^ i := by
    intro i
    induction i with
    | zero => intro _; simp [valW, Nat.mod_one]
    | succ i ih =>
      intro hi
      rw [valW_take, ih (by omega), h i (by omega), Nat.pow_succ, Nat.mod_mul]
  have := key n (Nat.le_refl _)
  rwa [List.take_of_length_le (by omega)] at this
theorem can_len (l : List Nat) (m : Nat) (hd : Ww l) (hz : Nzw l) (h : valW l < 18446744073709551616 ^ m) : l.length ≤ m := by
  rcases Nat.lt_or_ge m l.length with hlt | hge
  · exfalso
    rcases hz with e | e
    · rw [e] at hlt; simp at hlt
    · have ht := valW_take l (l.length - 1)
      rw [show l.length - 1 + 1 = l.length by omega, List.take_length] at ht
      have hp : 18446744073709551616 ^ m ≤ 18446744073709551616 ^ (l.length - 1) := Nat.pow_le_pow_right (by omega) (by omega)
      have hm : 18446744073709551616 ^ (l.length - 1) * 1 ≤ 18446744073709551616 ^ (l.length - 1) * l.getD (l.length - 1) 0 := Nat.mul_le_mul_left _ (by omega)
      generalize 18446744073709551616 ^ (l.length - 1) = P at *
      omega
  · exact hge
theorem can_len_le (l l' : List Nat) (hd : Ww l) (hz : Nzw l) (hd' : Ww l') (h : valW l = valW l') : l.length ≤ l'.length :=
  can_len l l'.length hd hz (by rw [h]; exact valW_lt l' hd')
/-- A number has one list of words without noughts at its end. -/
theorem can_uniq (l l' : List Nat) (hd : Ww l) (hz : Nzw l) (hd' : Ww l') (hz' : Nzw l') (h : valW l = valW l') : l = l' := by
  have h1 := can_len_le l l' hd hz hd' h
  have h2 := can_len_le l' l hd' hz' hd h.symm
  apply List.ext_getElem?
  intro j
  by_cases hj : j < l.length
  · have e1 := word_val l hd j
    have e2 := word_val l' hd' j
    rw [h, ← e2] at e1
    rw [List.getD_eq_getElem?_getD, List.getD_eq_getElem?_getD] at e1
    rw [List.getElem?_eq_getElem hj, List.getElem?_eq_getElem (show j < l'.length by omega)] at e1 ⊢
    simpa using e1
  · rw [List.getElem?_eq_none (by omega), List.getElem?_eq_none (by omega)]
theorem nzw_nil_iff (l : List Nat) (hd : Ww l) (hz : Nzw l) : valW l = 0 ↔ l = [] := by
  constructor
  · intro h
    have := can_len l 0 hd hz (by rw [h]; simp)
    exact List.eq_nil_of_length_eq_zero (by omega)
  · intro h; rw [h]; rfl

/-! ### Sums -/
def AddW (la lb : List Nat) (i c : Nat) (o : List Nat) : Prop := Ww o ∧ c ≤ 1 ∧ valW (o.take i) + 18446744073709551616 ^ i * c = valW (la.take i) + valW (lb.take i)
theorem take_set_lt (o : List Nat) (i v : Nat) : (o.set i v).take i = o.take i := by
  apply List.ext_getElem?
  intro j
  rw [List.getElem?_take, List.getElem?_take]
  by_cases h : j < i
  · rw [if_pos h, if_pos h, List.getElem?_set, if_neg (by omega)]
  · rw [if_neg h, if_neg h]
theorem valW_take_set (o : List Nat) (i v : Nat) (hi : i < o.length) : valW ((o.set i v).take (i + 1)) = valW (o.take i) + 18446744073709551616 ^ i * v := by
  rw [valW_take, take_set_lt, getD_set o i i v hi, if_pos rfl]
theorem AddW.step {la lb : List Nat} {i c : Nat} {o : List Nat} (h : AddW la lb i c o) (hi : i < o.length) (x y S : Nat) (hx : la.getD i 0 = x) (hy : lb.getD i 0 = y) (hx1 : x < 18446744073709551616) (hy1 : y < 18446744073709551616) (hS : S = x + y + c) :
    AddW la lb (i + 1) (S / 18446744073709551616) (o.set i (S % 18446744073709551616)) := by
  obtain ⟨h1, h2, h3⟩ := h
  refine ⟨h1.set hi (Nat.mod_lt _ (by omega)), by omega, ?_⟩
  rw [valW_take_set o i _ hi, valW_take, valW_take, hx, hy, Nat.pow_succ, Nat.mul_assoc, Nat.add_assoc, ← Nat.mul_add, Nat.mod_add_div, hS, Nat.mul_add, Nat.mul_add]
  omega
theorem AddW.done {la lb : List Nat} {c : Nat} {o : List Nat} (n : Nat) (h : AddW la lb n c o) (hl : o.length = n) (hla : la.length < n) (hlb : lb.length < n) (hwa : Ww la) (hwb : Ww lb) : valW o = valW la + valW lb := by
  obtain ⟨h1, h2, h3⟩ := h
  rw [List.take_of_length_le (by omega), valW_take_all la n (by omega), valW_take_all lb n (by omega)] at h3
  have ha := valW_lt la hwa
  have hb := valW_lt lb hwb
  have p1 : 18446744073709551616 ^ la.length ≤ 18446744073709551616 ^ (n - 1) := Nat.pow_le_pow_right (by omega) (by omega)
  have p2 : 18446744073709551616 ^ lb.length ≤ 18446744073709551616 ^ (n - 1) := Nat.pow_le_pow_right (by omega) (by omega)
  have p3 : 18446744073709551616 ^ n = 18446744073709551616 ^ (n - 1) * 18446744073709551616 := by rw [← Nat.pow_succ]; congr 1; omega
  rcases Nat.lt_or_ge 0 c with hc | hc
  · obtain rfl : c = 1 := by omega
    rw [Nat.mul_one, p3] at h3
    generalize 18446744073709551616 ^ (n - 1) = P at *
    omega
  · obtain rfl : c = 0 := by omega
    rw [Nat.mul_zero] at h3
    omega

/-! ### Differences -/
def SubW (la lb : List Nat) (i c : Nat) (o : List Nat) : Prop := Ww o ∧ c ≤ 1 ∧ valW (la.take i) + 18446744073709551616 ^ i * c = valW (lb.take i) + valW (o.take i)
theorem SubW.step {la lb : List Nat} {i c : Nat} {o : List Nat} (h : SubW la lb i c o) (hi : i < o.length) (x y d c' : Nat) (hx : la.getD i 0 = x) (hy : lb.getD i 0 = y) (hd : d < 18446744073709551616) (hc : c' ≤ 1) (he : x + 18446744073709551616 * c' = y + c + d) :
    SubW la lb (i + 1) c' (o.set i d) := by
  obtain ⟨h1, h2, h3⟩ := h
  refine ⟨h1.set hi hd, hc, ?_⟩
  rw [valW_take_set o i _ hi, valW_take, valW_take, hx, hy, Nat.pow_succ, Nat.mul_assoc]
  have e : 18446744073709551616 ^ i * x + 18446744073709551616 ^ i * (18446744073709551616 * c') = 18446744073709551616 ^ i * y + 18446744073709551616 ^ i * c + 18446744073709551616 ^ i * d := by
    rw [← Nat.mul_add, he, Nat.mul_add, Nat.mul_add]
  omega
theorem SubW.done {la lb : List Nat} {c : Nat} {o : List Nat} (h : SubW la lb la.length c o) (hl : o.length = la.length) (hwb : Ww lb) (hle : valW lb ≤ valW la) (hlt : valW la < 18446744073709551616 ^ la.length) : valW o = valW la - valW lb := by
  obtain ⟨h1, h2, h3⟩ := h
  have ho := valW_lt o h1
  have hs := valW_split lb la.length
  have hb1 : valW (lb.take la.length) = valW lb := by
    rcases Nat.eq_zero_or_pos (valW (lb.drop la.length)) with h0 | h0
    · rw [h0, Nat.mul_zero, Nat.add_zero] at hs; exact hs.symm
    · exfalso
      have : 18446744073709551616 ^ la.length * 1 ≤ 18446744073709551616 ^ la.length * valW (lb.drop la.length) := Nat.mul_le_mul_left _ h0
      omega
  rw [List.take_length, hb1, List.take_of_length_le (show o.length ≤ la.length by omega)] at h3
  rw [hl] at ho
  rcases Nat.lt_or_ge 0 c with hc | hc
  · obtain rfl : c = 1 := by omega
    rw [Nat.mul_one] at h3
    omega
  · obtain rfl : c = 0 := by omega
    rw [Nat.mul_zero] at h3
    omega

/-! ### A row of a product -/
/-- i words of la times w are added to o0 from its word off on: o, and c above them. -/
def RowW (la : List Nat) (w off : Nat) (o0 : List Nat) (i c : Nat) (o : List Nat) : Prop :=
  o.length = o0.length ∧ Ww o ∧ c < 18446744073709551616 ∧ (∀ j, j < off ∨ off + i ≤ j → o.getD j 0 = o0.getD j 0) ∧
    valW o + 18446744073709551616 ^ (off + i) * c = valW o0 + 18446744073709551616 ^ off * (valW (la.take i) * w)
theorem RowW.start (la : List Nat) (w off : Nat) (o0 : List Nat) (h : Ww o0) : RowW la w off o0 0 0 o0 :=
  ⟨rfl, h, by omega, fun _ _ => rfl, by simp [valW]⟩
theorem RowW.step {la : List Nat} {w off : Nat} {o0 : List Nat} {i c : Nat} {o : List Nat} (h : RowW la w off o0 i c o) (hp : off + i < o.length) (hi : i < la.length) (x q hh ll S : Nat) (hx : la.getD i 0 = x) (hq : o.getD (off + i) 0 = q)
    (hx1 : x < 18446744073709551616) (hw : w < 18446744073709551616) (hm : x * w = ll + 18446744073709551616 * hh) (hl1 : ll < 18446744073709551616) (hS : S = q + ll + c) :
    hh + S / 18446744073709551616 < 18446744073709551616 ∧ RowW la w off o0 (i + 1) (hh + S / 18446744073709551616) (o.set (off + i) (S % 18446744073709551616)) := by
  obtain ⟨h1, h2, h3, h4, h5⟩ := h
  have hq1 : q < 18446744073709551616 := by rw [← hq]; exact h2 _
  have hxw : x * w ≤ 18446744073709551615 * 18446744073709551615 := Nat.mul_le_mul (by omega) (by omega)
  have hc : hh + S / 18446744073709551616 < 18446744073709551616 := by omega
  refine ⟨hc, by rw [List.length_set]; exact h1, h2.set hp (Nat.mod_lt _ (by omega)), hc, fun j hj => ?_, ?_⟩
  · rw [getD_set _ _ _ _ hp, if_neg (by omega)]; exact h4 j (by omega)
  · have e := valW_set o (off + i) (S % 18446744073709551616) hp
    rw [hq] at e
    rw [valW_take la i, hx, Nat.add_mul, Nat.mul_add (18446744073709551616 ^ off), ← Nat.add_assoc (valW o0), ← h5, ← Nat.add_assoc off i 1, Nat.pow_succ, Nat.mul_assoc]
    have e2 : 18446744073709551616 ^ off * (18446744073709551616 ^ i * x * w) = 18446744073709551616 ^ (off + i) * (x * w) := by rw [Nat.pow_add, Nat.mul_assoc, Nat.mul_assoc]
    rw [e2]
    generalize 18446744073709551616 ^ (off + i) = P at *
    have e3 : P * (S % 18446744073709551616) + P * (18446744073709551616 * (hh + S / 18446744073709551616)) = P * q + P * (x * w) + P * c := by
      rw [← Nat.mul_add, ← Nat.mul_add, ← Nat.mul_add]
      congr 1
      rw [hm, hS]
      omega
    omega
/-- Behind a whole row the word above it is laid where there was nought. -/
theorem RowW.top {la : List Nat} {w off : Nat} {o0 : List Nat} {c : Nat} {o : List Nat} (h : RowW la w off o0 la.length c o) (hp : off + la.length < o.length) (hz : o0.getD (off + la.length) 0 = 0) :
    o.getD (off + la.length) 0 = 0 ∧ Ww (o.set (off + la.length) c) ∧ valW (o.set (off + la.length) c) = valW o0 + 18446744073709551616 ^ off * (valW la * w) := by
  obtain ⟨h1, h2, h3, h4, h5⟩ := h
  have hz' : o.getD (off + la.length) 0 = 0 := by rw [h4 _ (Or.inr (Nat.le_refl _))]; exact hz
  have e := valW_set o (off + la.length) c hp
  rw [hz', Nat.mul_zero, Nat.add_zero] at e
  refine ⟨hz', h2.set hp h3, ?_⟩
  rw [e, h5, List.take_length]

end Go.Proofs.Ytdlocljnmaeikaa
