/-
  The contracts of nat's Mul and Bits: the words of products, how many bits there are. Conditions: as each theorem says.
-/
import Derived.Test.YtdlocljnmaeikaaNatC
import Derived.Test.YtdlocljnmaeikaaRefI
namespace Go.Proofs.Ytdlocljnmaeikaa
open Go.RowKit
set_option linter.unusedVariables false

def MulW (la lb : List Nat) (n i : Nat) (o : List Nat) : Prop := o.length = n ∧ Ww o ∧ valW o = valW la * valW (lb.take i) ∧ ∀ j, i + la.length ≤ j → o.getD j 0 = 0
theorem MulW.start (la lb : List Nat) (n : Nat) : MulW la lb n 0 (List.replicate n 0) :=
  ⟨by simp, Ww.zeros n, by rw [valW_zeros, List.take_zero]; rfl, fun j _ => by rw [List.getD_eq_getElem?_getD, List.getElem?_replicate]; split <;> rfl⟩
theorem MulW.step {la lb : List Nat} {n i : Nat} {o0 o : List Nat} {c m : Nat} (h : MulW la lb n i o0) (hm : lb.getD i 0 = m) (hR : RowW la m i o0 la.length c o) (hp : i + la.length < n) :
    o.getD (i + la.length) 0 = 0 ∧ o.length = n ∧ MulW la lb n (i + 1) (o.set (i + la.length) c) := by
  obtain ⟨h1, h2, h3, h4⟩ := h
  have hol : o.length = n := by rw [hR.1, h1]
  obtain ⟨hz, ho1, ho2⟩ := hR.top (by omega) (h4 _ (Nat.le_refl _))
  refine ⟨hz, hol, by rw [List.length_set]; exact hol, ho1, ?_, fun j hj => ?_⟩
  · rw [ho2, h3, valW_take lb i, hm, Nat.mul_add, Nat.mul_left_comm]
  · rw [getD_set _ _ _ _ (by omega), if_neg (by omega), hR.2.2.2.1 j (Or.inr (by omega))]
    exact h4 j (by omega)

set_option maxHeartbeats 2000000 in
theorem mulN_any (la lb : List Nat) (va vb : Value) (w : World) (ha : SK .u64 w va la) (hb : SK .u64 w vb lb) (hwa : Ww la) (hwb : Ww lb) (hla : la.length ≤ 100000) (hlb : lb.length ≤ 100000) :
    Calls Try.prog 24 #[va, vb] w fun e w' => ∃ v, e = .returned v ∧ Can w' v (valW la * valW lb) ∧ Below w.heap.size w w' := by
  have HA : Hid (SK .u64 w va la) := ha
  obtain ⟨a, capa, rfl⟩ := ha.shape
  obtain ⟨b, capb, rfl, hcapb, -, hcb⟩ := hb
  have Hcb : Hid _ := hcb
  have Hwa : Hid (Ww la) := hwa
  have Hwb : Hid (Ww lb) := hwb
  clear ha hcb hwa hwb
  have hla' : (la.length : Int) ≤ 100000 := by omega
  have hlb' : (lb.length : Int) ≤ 100000 := by omega
  obtain ⟨n, hn⟩ : ∃ n : Nat, Hid (n = la.length + lb.length) := ⟨_, rfl⟩
  have hn1 : (la.length : Int) + (lb.length : Int) = (n : Int) := by have := hn.out; omega
  have hn2 : (n : Int) ≤ 200000 := by have := hn.out; omega
  have hmk := fun w => make_words n (by omega) w
  go_enter Try.func24, Try.ntmps24
  go_wp2_with fail
  clear hmk
  have Hn1 : Hid ((la.length : Int) + (lb.length : Int) = (n : Int)) := hn1
  clear hn1
  go_loopw [16] (fun y W => ∃ (i : Nat) (o : List Nat), y = .int .i64 i ∧ i ≤ lb.length ∧ Row .u64 w.heap.size w.heap.size o W ∧ Below w.heap.size w W ∧ Hid (MulW la lb n i o)) (fun y _ => lb.length - (intOf y).toNat)
  case atStart => exact ⟨0, _, rfl, Nat.zero_le _, Row.made w n _, (Below.refl _ _).alloc (Nat.le_refl _) _, MulW.start la lb n⟩
  case round =>
    obtain ⟨i, o, rfl, hi, hrow, hbel, H⟩ := hrel
    have hsz := hbel.size
    by_cases hlt : i < lb.length
    · have hlt' : (i : Int) < lb.length := by omega
      obtain ⟨bb, ob, rfl, hbb, hcellb⟩ := Hcb.out i hlt
      obtain ⟨m, hm⟩ : ∃ m, Hid (lb.getD i 0 = m) := ⟨_, rfl⟩
      rw [hm.out] at hcellb
      have hm1 : m < 18446744073709551616 := by rw [← hm.out]; exact Hwb.out i
      have cb : wr.cell? ⟨bb, ob + i, none⟩ = some (.int .u64 (m : Int)) := (hbel.cell (p := ⟨bb, ob + i, none⟩) hbb).trans hcellb
      have hin : (i : Int) + (la.length : Int) < n := by have := Hn1.out; omega
      have hin0 : (i : Int) + (la.length : Int) ≤ n := by omega
      have Hr : Hid (Row .u64 w.heap.size w.heap.size o wr) := hrow
      have Hb : Hid (Below w.heap.size w wr) := hbel
      clear hcellb hrow hbel
      go_wp2_with fail
      refine (addRow_any w la _ o _ i la.length (n - i) m _ HA.out Hwa.out hla Hr.out Hb.out H.out.2.1 (Nat.le_refl _) (by have := H.out.1; omega) hm1).mono ?_
      rintro e w1 ⟨o', c, rfl, hrow, hbel, hR⟩
      obtain ⟨hz, hol, hM⟩ := H.out.step hm.out hR (by omega)
      have hsz1 := hbel.size
      have co := hrow.cell (i + la.length) (by omega)
      rw [hz] at co
      have fo := hrow.free (i + la.length)
      have Hr1 : Hid (Row .u64 w.heap.size w.heap.size o' w1) := hrow
      have Hb1 : Hid (Below w.heap.size w w1) := hbel
      have R : Hid (MulW la lb n (i + 1) (o'.set (i + la.length) c)) := hM
      have Hol : Hid (o'.length = n) := hol
      clear hrow hbel hM hR hz hol Hr Hb H cb
      go_wp2_with fail
      go_roundw
      case rel => exact ⟨i + 1, _, by go_num, by omega, Hr1.out.set (i + la.length) c (by rw [Hol.out]; omega), Hb1.out.setCell (Nat.le_refl _) _, R⟩
      case measure => simp [intOf]; omega
    · obtain rfl : i = lb.length := by omega
      have hv : Hid (valW o = valW la * valW lb) := by have := H.out.2.2.1; rwa [List.take_length] at this
      have hsl := hrow.sk
      rw [H.out.1] at hsl
      have Hs : Hid (SK .u64 wr (.slice (some ⟨w.heap.size, 0, none⟩) n n) o) := hsl
      have Ho : Hid (Ww o) := H.out.2.1
      have Hol : Hid (o.length = n) := H.out.1
      have Hb : Hid (Below w.heap.size w wr) := hbel
      clear hsl hrow hbel H
      go_wp2_with fail
      refine (cut_any o _ _ Hs.out (by rw [Hol.out]; omega) Ho.out).mono ?_
      rintro e w1 ⟨v, rfl, hC, hw1⟩; rw [hw1]; clear hw1 w1
      rw [hv.out] at hC
      have HC : Hid (Can wr v (valW la * valW lb)) := hC
      obtain ⟨ra, rn, rc, rfl⟩ := hC.shape
      clear hC
      go_wp2_with fail
      go_ret
      exact ⟨_, rfl, HC.out, Hb.out⟩

theorem nbits_topW (l : List Nat) (hd : Ww l) (hz : Nzw l) (h0 : 0 < l.length) : nbits (valW l) = 64 * (l.length - 1) + nbits (l.getD (l.length - 1) 0) := by
  have h2 := valW_take_lt l hd (l.length - 1)
  have hs : valW l / 2 ^ (64 * (l.length - 1)) = l.getD (l.length - 1) 0 := by
    rw [Nat.pow_mul, show (2 : Nat) ^ 64 = 18446744073709551616 from by decide]
    conv => lhs; arg 1; rw [valW_split l (l.length - 1)]
    rw [Nat.add_mul_div_left _ _ (Nat.pow_pos (by omega)), Nat.div_eq_of_lt h2, Nat.zero_add, valW_drop' l (l.length - 1), List.drop_eq_nil_of_le (by omega)]
    simp [valW]
  rcases hz with e | hz
  · rw [e] at h0; simp at h0
  · rw [nbits_shift (valW l) (64 * (l.length - 1)) (by rw [hs]; exact hz), hs]

set_option maxHeartbeats 1000000 in
theorem bitsN_any (l : List Nat) (v : Value) (w : World) (h : SK .u64 w v l) (hl : l.length ≤ 1000000) (hw : Ww l) :
    Calls Try.prog 19 #[v] w fun e w' => e = .returned (.int .i64 (nbits (valW l) : Int)) ∧ w' = w := by
  have H0 : Hid (SK .u64 w v l) := h
  have Hw : Hid (Ww l) := hw
  obtain ⟨a, cap, rfl⟩ := h.shape
  clear h hw
  obtain ⟨N, hN⟩ : ∃ N, Hid (valW l = N) := ⟨_, rfl⟩
  rw [hN.out]
  obtain ⟨T, hT⟩ : ∃ T, Hid (nbits N = T) := ⟨_, rfl⟩
  rw [hT.out]
  go_enter Try.func19, Try.ntmps19
  go_wp2_with fail
  refine (cut_any l _ _ H0.out hl Hw.out).mono ?_
  rintro e w1 ⟨v, rfl, hC, hw1⟩; rw [hw1]; clear hw1 w1
  rw [hN.out] at hC
  obtain ⟨m, ⟨b, cap', rfl, hcap', -, hc⟩, hmw, hmz, hmv⟩ := hC
  by_cases h0 : m.length = 0
  · have e : m = [] := List.eq_nil_of_length_eq_zero h0
    subst e
    have hN0 : T = 0 := by rw [← hT.out, ← hmv]; rfl
    subst hN0
    clear hmv hmw hmz hc
    go_wp2_with fail
    go_ret
    exact ⟨rfl, rfl⟩
  · have hb0 : ((m.length : Int) == 0) = false := beq_eq_false_iff_ne.2 (by omega)
    have ht := nbits_topW m hmw hmz (by omega)
    rw [hmv, hT.out] at ht
    have hml : m.length ≤ 1000000 := by
      have := can_len_le m l hmw hmz Hw.out (by rw [hmv, hN.out])
      omega
    obtain ⟨k, hk⟩ : ∃ k : Nat, m.length = k + 1 := ⟨m.length - 1, by omega⟩
    rw [hk] at ht hcap' hml hb0 ⊢
    obtain ⟨bb, off, rfl, hbb, hcell⟩ := hc k (by omega)
    simp only [Nat.add_sub_cancel] at ht
    have hx1 := hmw k
    generalize m.getD k 0 = x at ht hcell hx1
    have hL := fun w => len64_any (x : Int) w (by omega) (by omega)
    rw [Int.toNat_natCast, bitLen_nbits x hx1] at hL
    have HL : Hid (∀ w, Calls Try.prog 45 #[.int .u64 (x : Int)] w fun e w' => e = .returned (.int .i64 (nbits x : Int)) ∧ w' = w) := hL
    have hxb : nbits x ≤ 64 := nbits_le x 64 (by omega)
    have hk1 : (k : Int) ≤ 1000000 := by omega
    generalize nbits x = t at HL hxb ht
    have hxb' : (t : Int) ≤ 64 := by omega
    have HT : Hid (T = 64 * k + t) := ht
    clear hL hc hmw hmz hmv ht H0 hN h0 hk hx1
    go_wp2_with fail
    refine (HL.out _).mono ?_
    rintro e w1 ⟨rfl, hw1⟩; rw [hw1]; clear hw1 w1
    go_wp2_with fail
    go_ret
    exact ⟨ret_int (by have := HT.out; omega), rfl⟩

end Go.Proofs.Ytdlocljnmaeikaa
