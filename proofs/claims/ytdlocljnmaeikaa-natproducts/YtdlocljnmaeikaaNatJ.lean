/-
  The contract of nat's Left: the words of a natural times a power of two, or why there are none. Conditions: as each theorem says.
-/
import Derived.Test.YtdlocljnmaeikaaNatG
import Derived.Test.YtdlocljnmaeikaaExt
namespace Go.Proofs.Ytdlocljnmaeikaa
open Go.RowKit
set_option linter.unusedVariables false

def wZ (x : Nat) (i : Int) : Nat := if 0 ≤ i then x / 2 ^ (64 * i.toNat) % 2 ^ 64 else 0
theorem wZ_lt (x : Nat) (i : Int) : wZ x i < 2 ^ 64 := by unfold wZ; split <;> omega
theorem wZ_bit (x : Nat) (i : Int) (j : Nat) : (wZ x i).testBit j = (decide (0 ≤ i) && (decide (j < 64) && x.testBit (64 * i.toNat + j))) := by
  unfold wZ
  by_cases h : 0 ≤ i
  · rw [if_pos h, Nat.testBit_mod_two_pow, Nat.testBit_div_two_pow, Nat.add_comm]
    simp [h]
  · rw [if_neg h]
    simp [h]
theorem wdI_wZ (l : List Nat) (h : Ww l) (i : Int) : wdI l i = wZ (valW l) i := by
  unfold wdI wZ
  by_cases h0 : 0 ≤ i
  · rw [if_pos h0, if_pos h0, word_val l h i.toNat, Nat.pow_mul, show (2 : Nat) ^ 64 = 18446744073709551616 from by decide]
  · rw [if_neg h0, if_neg h0]
theorem shl_wordZ (x q r k : Nat) (hr : r < 64) :
    (wZ x ((k : Int) - q) * 2 ^ r % 2 ^ 64) ||| (wZ x ((k : Int) - q - 1) / 2 ^ (64 - r)) = x * 2 ^ (64 * q + r) / 2 ^ (64 * k) % 2 ^ 64 := by
  apply Nat.eq_of_testBit_eq
  intro j
  rw [Nat.testBit_or, Nat.testBit_mod_two_pow, Nat.testBit_mul_two_pow, Nat.testBit_div_two_pow, wZ_bit x, wZ_bit x, Nat.testBit_mod_two_pow, Nat.testBit_div_two_pow, Nat.testBit_mul_two_pow]
  by_cases hj : j < 64
  · by_cases hkq : q ≤ k
    · by_cases hrj : r ≤ j
      · have d1 : decide (0 ≤ (k : Int) - q) = true := by simp; omega
        have d2 : decide (j + (64 - r) < 64) = false := by simp; omega
        have d3 : decide (j - r < 64) = true := by simp; omega
        have d4 : decide (64 * q + r ≤ j + 64 * k) = true := by simp; omega
        rw [d1, d2, d3, d4, show 64 * ((k : Int) - q).toNat + (j - r) = j + 64 * k - (64 * q + r) by omega]
        simp [hj, hrj]
      · have d1 : decide (r ≤ j) = false := by simp; omega
        rw [d1]
        by_cases hk : q + 1 ≤ k
        · have d2 : decide (0 ≤ (k : Int) - q - 1) = true := by simp; omega
          have d3 : decide (j + (64 - r) < 64) = true := by simp; omega
          have d4 : decide (64 * q + r ≤ j + 64 * k) = true := by simp; omega
          rw [d2, d3, d4, show 64 * ((k : Int) - q - 1).toNat + (j + (64 - r)) = j + 64 * k - (64 * q + r) by omega]
          simp [hj]
        · have d2 : decide (0 ≤ (k : Int) - q - 1) = false := by simp; omega
          have d4 : decide (64 * q + r ≤ j + 64 * k) = false := by simp; omega
          rw [d2, d4]
          simp
    · have d1 : decide (0 ≤ (k : Int) - q) = false := by simp; omega
      have d2 : decide (0 ≤ (k : Int) - q - 1) = false := by simp; omega
      have d4 : decide (64 * q + r ≤ j + 64 * k) = false := by simp; omega
      rw [d1, d2, d4]
      simp
  · have d1 : decide (j + (64 - r) < 64) = false := by simp; omega
    have d2 : decide (j < 64) = false := by simp; omega
    rw [d1, d2]
    simp
theorem left_wordZ (x q r k n : Nat) (hr : r < 64) (hn : n = 64 * q + r) :
    bits .or .u64 (IntKind.u64.wrap ((wZ x ((k : Int) - q) : Int) * 2 ^ r)) ((wZ x ((k : Int) - q - 1) : Int) / 2 ^ (64 - r)) = ((x * 2 ^ n / 18446744073709551616 ^ k % 18446744073709551616 : Nat) : Int) := by
  have h := shl_wordZ x q r k hr
  rw [← hn, Nat.pow_mul 2 64 k, show (2 : Nat) ^ 64 = 18446744073709551616 from by decide] at h
  rw [← h, IntKind.wrap_u64]
  have e1 : ((wZ x ((k : Int) - (q : Int)) : Nat) : Int) * 2 ^ r % 18446744073709551616 = ((wZ x ((k : Int) - (q : Int)) * 2 ^ r % 18446744073709551616 : Nat) : Int) := by simp
  have e2 : ((wZ x ((k : Int) - (q : Int) - 1) : Nat) : Int) / 2 ^ (64 - r) = ((wZ x ((k : Int) - (q : Int) - 1) / 2 ^ (64 - r) : Nat) : Int) := by simp
  rw [e1, e2, bits_or_u64_nat _ _ (Nat.mod_lt _ (by decide)) (Nat.lt_of_le_of_lt (Nat.div_le_self _ _) (wZ_lt _ _))]

theorem leftN_neg (l : List Nat) (v : Value) (n : Int) (w : World) (h : SK .u64 w v l) (hn : n < 0) :
    Calls Try.prog 27 #[v, .int .i64 n] w fun e w' => e = .returned (.tuple #[.slice none 0 0, .int .i64 2]) ∧ w' = w := by
  obtain ⟨a, c, rfl⟩ := h.shape
  go_enter Try.func27, Try.ntmps27
  go_wp2_with fail
  go_ret2
  exact ⟨rfl, rfl⟩

theorem leftN_zero (l : List Nat) (v : Value) (n : Nat) (w : World) (h : SK .u64 w v l) (hw : Ww l) (hl : l.length ≤ 1000000) (hz : valW l = 0) :
    Calls Try.prog 27 #[v, .int .i64 (n : Int)] w fun e w' => e = .returned (.tuple #[.slice none 0 0, .int .i64 0]) ∧ w' = w := by
  have HS : Hid (SK .u64 w v l) := h
  have Hw : Hid (Ww l) := hw
  obtain ⟨a, c, rfl⟩ := h.shape
  clear h hw
  go_enter Try.func27, Try.ntmps27
  go_wp2_with fail
  refine (cut_any l _ _ HS.out hl Hw.out).mono ?_
  rintro e w1 ⟨v, rfl, hC, hw1⟩; rw [hw1]; clear hw1 w1
  obtain ⟨m, ⟨a', c', rfl, -⟩, h2, h3, h4⟩ := hC
  obtain rfl : m = [] := (nzw_nil_iff m h2 h3).1 (by rw [h4]; exact hz)
  clear h2 h3 h4 hz
  go_wp2_with fail
  go_ret2
  exact ⟨rfl, rfl⟩

set_option maxHeartbeats 1000000 in
theorem leftN_big (l : List Nat) (v : Value) (n : Nat) (w : World) (h : SK .u64 w v l) (hw : Ww l) (hl : l.length ≤ 1000) (hz : valW l ≠ 0) (hn : n ≤ 9223372036854775807) (hlim : 262144 < n + nbits (valW l)) :
    Calls Try.prog 27 #[v, .int .i64 (n : Int)] w fun e w' => e = .returned (.tuple #[.slice none 0 0, .int .i64 3]) ∧ w' = w := by
  have HS : Hid (SK .u64 w v l) := h
  have Hw : Hid (Ww l) := hw
  obtain ⟨a, c, rfl⟩ := h.shape
  have hbl := nbits_leW l hw
  clear h hw
  go_enter Try.func27, Try.ntmps27
  go_wp2_with fail
  refine (cut_any l _ _ HS.out (by omega) Hw.out).mono ?_
  rintro e w1 ⟨v, rfl, hC, hw1⟩; rw [hw1]; clear hw1 w1
  obtain ⟨m, hs, h2, h3, h4⟩ := hC
  have hml := can_len_le m l h2 h3 Hw.out h4
  have hm0 : m.length ≠ 0 := fun e => hz (by rw [← h4, List.eq_nil_of_length_eq_zero e]; rfl)
  have hb0 : ((m.length : Int) == 0) = false := beq_eq_false_iff_ne.2 (by omega)
  have cB : Hid (Calls Try.prog 19 #[v] w fun e w' => e = .returned (.int .i64 (nbits (valW l) : Int)) ∧ w' = w) := by
    have := bitsN_any m v w hs (by omega) h2
    rwa [h4] at this
  obtain ⟨a', c', rfl⟩ := hs.shape
  generalize nbits (valW l) = T at *
  have hT : (T : Int) ≤ 64000 := by omega
  have hlim' : 262144 - (T : Int) < n := by omega
  clear hs h2 h3 h4 hz hbl hlim hm0
  go_wp2_with fail
  refine cB.out.mono ?_
  rintro e w1 ⟨rfl, hw1⟩; rw [hw1]; clear hw1 w1
  go_wp2_with fail
  go_ret2
  exact ⟨rfl, rfl⟩

theorem left_size (m : List Nat) (hw : Ww m) (q r n : Nat) (hr : r < 64) (hn : n = 64 * q + r) : valW m * 2 ^ n < 18446744073709551616 ^ (q + m.length + 1) := by
  have h1 := valW_lt m hw
  rw [hn, Nat.pow_add 2, Nat.pow_mul, show (2 : Nat) ^ 64 = 18446744073709551616 from by decide]
  have h2 : 2 ^ r ≤ 2 ^ 64 := Nat.pow_le_pow_right (by omega) (by omega)
  have h3 : 18446744073709551616 ^ (q + m.length + 1) = 18446744073709551616 ^ m.length * (18446744073709551616 ^ q * 18446744073709551616) := by
    rw [Nat.pow_succ, Nat.pow_add, Nat.mul_comm (18446744073709551616 ^ q) (18446744073709551616 ^ m.length), Nat.mul_assoc]
  rw [h3]
  have h4 : 18446744073709551616 ^ q * 2 ^ r ≤ 18446744073709551616 ^ q * 18446744073709551616 := Nat.mul_le_mul_left _ h2
  exact Nat.lt_of_lt_of_le (Nat.mul_lt_mul_of_pos_right h1 (Nat.mul_pos (Nat.pow_pos (by omega)) (Nat.two_pow_pos r))) (Nat.mul_le_mul_left _ h4)

set_option maxHeartbeats 2000000 in
theorem leftN_any (l : List Nat) (v : Value) (n : Nat) (w : World) (h : SK .u64 w v l) (hw : Ww l) (hl : l.length ≤ 1000) (hz : valW l ≠ 0) (hlim : n + nbits (valW l) ≤ 262144) :
    Calls Try.prog 27 #[v, .int .i64 (n : Int)] w fun e w' => ∃ v', e = .returned (.tuple #[v', .int .i64 0]) ∧ Can w' v' (valW l * 2 ^ n) ∧ Below w.heap.size w w' := by
  have HS : Hid (SK .u64 w v l) := h
  have Hw : Hid (Ww l) := hw
  obtain ⟨a, c, rfl⟩ := h.shape
  have hbl := nbits_leW l hw
  have hn0 : (n : Int) ≤ 262144 := by omega
  have hd0 : decide ((n : Int) < 0) = false := by simp
  clear h hw
  go_enter Try.func27, Try.ntmps27
  go_wp2_with fail
  refine (cut_any l _ _ HS.out (by omega) Hw.out).mono ?_
  rintro e w1 ⟨v, rfl, hC, hw1⟩; rw [hw1]; clear hw1 w1
  obtain ⟨m, hs, h2, h3, h4⟩ := hC
  have hml := can_len_le m l h2 h3 Hw.out h4
  have hm0 : m.length ≠ 0 := fun e => hz (by rw [← h4, List.eq_nil_of_length_eq_zero e]; rfl)
  have hb0 : ((m.length : Int) == 0) = false := beq_eq_false_iff_ne.2 (by omega)
  have cB : Hid (Calls Try.prog 19 #[v] w fun e w' => e = .returned (.int .i64 (nbits (valW l) : Int)) ∧ w' = w) := by
    have := bitsN_any m v w hs (by omega) h2
    rwa [h4] at this
  obtain ⟨a', c', rfl⟩ := hs.shape
  have HM : Hid (SK .u64 w (.slice a' m.length c') m) := hs
  have HMw : Hid (Ww m) := h2
  have HX : Hid (valW m = valW l) := h4
  generalize nbits (valW l) = T at *
  have hT : (T : Int) ≤ 64000 := by omega
  have hd1 : decide (262144 - (T : Int) < n) = false := by rw [decide_eq_false_iff_not]; omega
  have hml' : (m.length : Int) ≤ 1000 := by omega
  obtain ⟨q, hq⟩ : ∃ q : Nat, (n : Int) / 64 = (q : Int) := ⟨n / 64, by omega⟩
  obtain ⟨r, hr⟩ : ∃ r : Nat, (n : Int) % 64 = (r : Int) := ⟨n % 64, by omega⟩
  have hr1 : (r : Int) ≤ 63 := by omega
  have hq1 : (q : Int) ≤ 4096 := by omega
  have hnq : Hid (n = 64 * q + r) := by unfold Hid; omega
  obtain ⟨k, hk⟩ : ∃ k : Nat, Hid (k = q + m.length + 1) := ⟨_, rfl⟩
  have hk1 : (q : Int) + (m.length : Int) + 1 = (k : Int) := by have := hk.out; omega
  have hk2 : (k : Int) ≤ 10000 := by have := hk.out; omega
  have hmk := fun w => make_words k (by omega) w
  clear hs h2 h3 h4 hz hbl hlim hm0
  go_wp2_with fail
  refine cB.out.mono ?_
  rintro e w1 ⟨rfl, hw1⟩; rw [hw1]; clear hw1 w1
  go_wp2_with fail
  clear hmk
  rw [hr]
  have Hk1 : Hid ((q : Int) + (m.length : Int) + 1 = (k : Int)) := hk1
  clear hk1
  obtain ⟨X, hX⟩ : ∃ X, Hid (valW m * 2 ^ n = X) := ⟨_, rfl⟩
  have HXs : Hid (X < 18446744073709551616 ^ k) := by
    unfold Hid
    rw [← hX.out, hk.out]
    exact left_size m HMw.out q r n (by omega) hnq.out
  go_loopw [34] (fun y W => ∃ (i : Nat) (o : List Nat), y = .int .i64 i ∧ i ≤ k ∧ Row .u64 w.heap.size w.heap.size o W ∧ Below w.heap.size w W ∧ Hid (o.length = k ∧ Ww o ∧ ∀ j, j < i → o.getD j 0 = X / 18446744073709551616 ^ j % 18446744073709551616)) (fun y _ => k - (intOf y).toNat)
  case atStart => exact ⟨0, _, rfl, Nat.zero_le _, Row.made w k _, (Below.refl _ _).alloc (Nat.le_refl _) _, by simp, Ww.zeros k, fun j hj => by omega⟩
  case round =>
    obtain ⟨i, o, rfl, hi, hrow, hbel, H⟩ := hrel
    have hsz := hbel.size
    have Hr : Hid (Row .u64 w.heap.size w.heap.size o wr) := hrow
    have Hb : Hid (Below w.heap.size w wr) := hbel
    by_cases hlt : i < k
    · have hlt' : (i : Int) < k := by omega
      have co := hrow.cell i (by rw [H.out.1]; exact hlt)
      generalize o.getD i 0 = z at co
      have fo := hrow.free i
      have hval := left_wordZ (valW m) q r i n (by omega) hnq.out
      rw [hX.out] at hval
      have cW : Hid (∀ j : Int, Calls Try.prog 38 #[.slice a' m.length c', .int .i64 j] wr.drew fun e w' => e = .returned (.int .u64 (wZ (valW m) j : Int)) ∧ w' = wr.drew) := by
        intro j
        have := wordN_any m _ wr.drew (HM.out.below hbel.drew) j
        rwa [wdI_wZ m HMw.out] at this
      have w1 : IntKind.i64.wrap ((i : Int) - (q : Int)) = (i : Int) - (q : Int) := wrapI _ (by omega) (by omega)
      have w2 : IntKind.i64.wrap ((i : Int) - (q : Int) - 1) = (i : Int) - (q : Int) - 1 := wrapI _ (by omega) (by omega)
      have w3 : IntKind.i64.wrap (64 - (r : Int)) = 64 - (r : Int) := wrapI _ (by omega) (by omega)
      have hr0 : (0 : Int) ≤ 64 - (r : Int) := by omega
      clear hrow hbel
      go_wp2_with fail
      go_region_with (first
        | (go_at_call 38; refine (cW.out _).mono ?_; rintro e w' ⟨rfl, hw'⟩; rw [hw']; clear hw' w'))
      go_wp2_with fail
      go_roundw
      case rel =>
        have ev : ((X / 18446744073709551616 ^ i % 18446744073709551616 : Nat) : Int) = (X : Int) / 18446744073709551616 ^ i % 18446744073709551616 := by simp
        refine ⟨i + 1, o.set i (X / 18446744073709551616 ^ i % 18446744073709551616), by go_num, by omega, ?_, (Hb.out.setCell (Nat.le_refl _) _).drew, by rw [List.length_set]; exact H.out.1, H.out.2.1.set (by rw [H.out.1]; exact hlt) (Nat.mod_lt _ (by omega)), fun j hj => ?_⟩
        · rw [← ev]; exact (Hr.out.set i _ (by rw [H.out.1]; exact hlt)).drew
        · rw [getD_set _ _ _ _ (by rw [H.out.1]; exact hlt)]
          by_cases e : j = i
          · rw [if_pos e, e]
          · rw [if_neg e]; exact H.out.2.2 j (by omega)
      case measure => simp [intOf]; omega
    · obtain rfl : i = k := by omega
      have hv : Hid (valW o = X) := by
        unfold Hid
        rw [valW_of X i o H.out.1 H.out.2.2, Nat.mod_eq_of_lt HXs.out]
      have hsl := hrow.sk
      rw [H.out.1] at hsl
      have Hs : Hid (SK .u64 wr (.slice (some ⟨w.heap.size, 0, none⟩) i i) o) := hsl
      have Ho : Hid (Ww o) := H.out.2.1
      have Hol : Hid (o.length = i) := H.out.1
      clear hsl hrow hbel H
      go_wp2_with fail
      refine (cut_any o _ _ Hs.out (by rw [Hol.out]; omega) Ho.out).mono ?_
      rintro e w1 ⟨v, rfl, hC, hw1⟩; rw [hw1]; clear hw1 w1
      rw [hv.out, ← hX.out, HX.out] at hC
      have HC : Hid (Can wr v (valW l * 2 ^ n)) := hC
      obtain ⟨ra, rn, rc, rfl⟩ := hC.shape
      clear hC
      go_wp2_with fail
      go_ret2
      exact ⟨_, rfl, HC.out, Hb.out⟩

end Go.Proofs.Ytdlocljnmaeikaa
