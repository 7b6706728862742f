/-
  The contracts of the document's own Sub and Bit over digits of 24 bits: the difference of two numbers, a number's bit. Conditions: as each theorem says.
-/
import Derived.Test.YtkbiiolkekpkiaaDoorOrd
import Derived.Test.YtkbiiolkekpkiaaDoorBitz
namespace Go.Proofs.YtkbiiolkekpkiaaDoor
open Go.RowKit
set_option linter.unusedVariables false

/-- A difference's state behind i digits, c borrowed. -/
def SubAt (la lb : List Nat) (i c : Nat) (o : List Nat) : Prop :=
  o.length = i ∧ Dg o ∧ c ≤ 1 ∧ valD (la.take i) + 16777216 ^ i * c = valD (lb.take i) + valD o
theorem SubAt.step {la lb : List Nat} {i c : Nat} {o : List Nat} (h : SubAt la lb i c o) (x y d c' : Nat) (hx : la.getD i 0 = x) (hy : lb.getD i 0 = y) (hd : d < 16777216) (hc : c' ≤ 1) (he : x + 16777216 * c' = y + c + d) :
    SubAt la lb (i + 1) c' (o ++ [d]) := by
  obtain ⟨h1, h2, h3, h4⟩ := h
  refine ⟨by simp [h1], h2.snoc hd, hc, ?_⟩
  rw [valD_snoc, valD_take, valD_take, h1, hx, hy, Nat.pow_succ, Nat.mul_assoc]
  have e : 16777216 ^ i * x + 16777216 ^ i * (16777216 * c') = 16777216 ^ i * y + 16777216 ^ i * c + 16777216 ^ i * d := by
    rw [← Nat.mul_add, he, Nat.mul_add, Nat.mul_add]
  omega
theorem SubAt.done {la lb : List Nat} {c : Nat} {o : List Nat} (h : SubAt la lb la.length c o) (hl : lb.length ≤ la.length) (hle : valD lb ≤ valD la) : valD o = valD la - valD lb := by
  obtain ⟨h1, h2, h3, h4⟩ := h
  have hlt := valD_lt o h2
  rw [h1] at hlt
  rw [List.take_length, valD_take_all lb _ hl] at h4
  rcases Nat.lt_or_ge 0 c with hc | hc
  · obtain rfl : c = 1 := by omega
    rw [Nat.mul_one] at h4
    omega
  · obtain rfl : c = 0 := by omega
    rw [Nat.mul_zero] at h4
    omega

set_option maxHeartbeats 4000000 in
theorem subR_any (la lb : List Nat) (va vb : Value) (w : World) (ha : Sl w va la) (hb : Sl w vb lb) (hda : Dg la) (hdb : Dg lb) (hla : la.length ≤ 100000) (hll : lb.length ≤ la.length) (hle : valD lb ≤ valD la) :
    Calls Tryd.prog 41 #[va, vb] w fun e w' => ∃ v, e = .returned v ∧ Num w' v (valD la - valD lb) ∧ Below w.heap.size w w' := by
  obtain ⟨a, capa, rfl, hcapa, hnila, hca⟩ := ha
  obtain ⟨b, capb, rfl, hcapb, hnilb, hcb⟩ := hb
  have Hca : Hid _ := hca
  have Hcb : Hid _ := hcb
  have Hda : Hid (Dg la) := hda
  have Hdb : Hid (Dg lb) := hdb
  have Hle : Hid (valD lb ≤ valD la) := hle
  clear hca hcb hda hdb hnila hnilb hle
  have hla' : (la.length : Int) ≤ 100000 := by omega
  have hlb' : (lb.length : Int) ≤ 100000 := by omega
  go_enter Tryd.func41, Tryd.ntmps41
  go_wp2
  go_loopw [5, 6, 7] (fun v x y wr => ∃ (i c : Nat) (o : List Nat), y = .int .i64 i ∧ x = .int .i64 c ∧ i ≤ la.length ∧ Own w.heap.size wr v o ∧ Below w.heap.size w wr ∧ Hid (SubAt la lb i c o)) (fun _ _ y _ => la.length - (intOf y).toNat)
  case atStart => exact ⟨0, 0, [], rfl, rfl, Nat.zero_le _, Own.nil _ _, Below.refl _ _, rfl, Dg.nil, by omega, by simp [valD]⟩
  case round =>
    obtain ⟨i, c, o, rfl, rfl, hi, hown, hbel, H⟩ := hrel
    have hol : o.length = i := H.out.1
    have hc1 : (c : Int) ≤ 1 := by have := H.out.2.2.1; omega
    have hsz := hbel.size
    have Hb : Hid (Below w.heap.size w wr) := hbel
    have Ho : Hid (Own w.heap.size wr u5 o) := hown
    have hlen : o.length ≤ 1000000 := by omega
    clear hown hbel hol
    by_cases hia : i < la.length
    · have hia' : (i : Int) < la.length := by omega
      obtain ⟨x, hx⟩ : ∃ x, Hid (la.getD i 0 = x) := ⟨_, rfl⟩
      obtain ⟨y, hy⟩ : ∃ y, Hid (lb.getD i 0 = y) := ⟨_, rfl⟩
      have hx1 : (x : Int) ≤ 16777215 := by have := Hda.out i; rw [hx.out] at this; omega
      have hy1 : (y : Int) ≤ 16777215 := by have := Hdb.out i; rw [hy.out] at this; omega
      obtain ⟨ba, oa, rfl, hba, hcella⟩ := Hca.out i hia
      rw [hx.out] at hcella
      have hcella' : wr.cell? ⟨ba, oa + i, none⟩ = some (.int .i64 (x : Int)) := (Hb.out.cell (p := ⟨ba, oa + i, none⟩) hba).trans hcella
      clear hcella
      by_cases hib : i < lb.length
      · have hib' : (i : Int) < lb.length := by omega
        obtain ⟨bb, ob, rfl, hbb, hcellb⟩ := Hcb.out i hib
        rw [hy.out] at hcellb
        have hcellb' : wr.cell? ⟨bb, ob + i, none⟩ = some (.int .i64 (y : Int)) := (Hb.out.cell (p := ⟨bb, ob + i, none⟩) hbb).trans hcellb
        clear hcellb
        by_cases hneg : x < c + y
        · have hneg' : (x : Int) - c - y < 0 := by omega
          have R : Hid _ := H.out.step x y (x + 16777216 - c - y) 1 hx.out hy.out (by omega) (by omega) (by omega)
          go_wp2_with (at_builtin; refine wpList_app1 rfl _ _ rfl w.heap.size u5 o (x + 16777216 - c - y) _ (by omega) rfl Ho.out rfl hlen hsz ?_; intro v' w1 hown' hb')
          go_roundw
          case rel => exact ⟨i + 1, 1, _, by go_num, by go_num, by omega, hown', Hb.out.trans hb', R⟩
          case measure => simp [intOf]; omega
        · have hneg' : ¬ (x : Int) - c - y < 0 := by omega
          have R : Hid _ := H.out.step x y (x - c - y) 0 hx.out hy.out (by omega) (by omega) (by omega)
          go_wp2_with (at_builtin; refine wpList_app1 rfl _ _ rfl w.heap.size u5 o (x - c - y) _ (by omega) rfl Ho.out rfl hlen hsz ?_; intro v' w1 hown' hb')
          go_roundw
          case rel => exact ⟨i + 1, 0, _, by go_num, by go_num, by omega, hown', Hb.out.trans hb', R⟩
          case measure => simp [intOf]; omega
      · have hib' : ¬ (i : Int) < lb.length := by omega
        have hy0 : y = 0 := by rw [← hy.out]; exact getD_ge lb i (by omega)
        subst hy0
        by_cases hneg : x < c
        · have hneg' : (x : Int) - c < 0 := by omega
          have R : Hid _ := H.out.step x 0 (x + 16777216 - c) 1 hx.out hy.out (by omega) (by omega) (by omega)
          go_wp2_with (at_builtin; refine wpList_app1 rfl _ _ rfl w.heap.size u5 o (x + 16777216 - c) _ (by omega) rfl Ho.out rfl hlen hsz ?_; intro v' w1 hown' hb')
          go_roundw
          case rel => exact ⟨i + 1, 1, _, by go_num, by go_num, by omega, hown', Hb.out.trans hb', R⟩
          case measure => simp [intOf]; omega
        · have hneg' : ¬ (x : Int) - c < 0 := by omega
          have R : Hid _ := H.out.step x 0 (x - c) 0 hx.out hy.out (by omega) (by omega) (by omega)
          go_wp2_with (at_builtin; refine wpList_app1 rfl _ _ rfl w.heap.size u5 o (x - c) _ (by omega) rfl Ho.out rfl hlen hsz ?_; intro v' w1 hown' hb')
          go_roundw
          case rel => exact ⟨i + 1, 0, _, by go_num, by go_num, by omega, hown', Hb.out.trans hb', R⟩
          case measure => simp [intOf]; omega
    · obtain rfl : i = la.length := by omega
      have hv : Hid _ := H.out.done hll Hle.out
      have Hdo : Hid (Dg o) := H.out.2.1
      go_wp2_with (go_at_call 71; refine (trim_any o u5 _ Ho.out.sl hlen Hdo.out).mono ?_; rintro e w' ⟨v', rfl, hN, rfl⟩)
      go_ret
      exact ⟨_, rfl, by rw [← hv.out]; exact hN, Hb.out⟩

set_option maxHeartbeats 1000000 in
theorem bitR_any (la : List Nat) (va : Value) (i : Nat) (w : World) (ha : Sl w va la) (hda : Dg la) (hla : la.length ≤ 100000) (hi : i ≤ 1000000) :
    Calls Tryd.prog 40 #[va, .int .i64 (i : Int)] w fun e w' => e = .returned (.int .i64 ((valD la / 2 ^ i % 2 : Nat) : Int)) ∧ Below w.heap.size w w' := by
  obtain ⟨a, capa, rfl, hcapa, hnila, hca⟩ := ha
  have hla' : (la.length : Int) ≤ 100000 := by omega
  have hi' : (i : Int) ≤ 1000000 := by omega
  obtain ⟨q, hq⟩ : ∃ q : Nat, (i : Int) / 24 = (q : Int) := ⟨i / 24, by omega⟩
  obtain ⟨r, hr⟩ : ∃ r : Nat, (i : Int) % 24 = (r : Int) := ⟨i % 24, by omega⟩
  have hi2 : 24 * q + r = i := by omega
  have hr2 : r < 24 := by omega
  have hbit := digit_bit la hda q r hr2
  rw [hi2] at hbit
  obtain ⟨B, hB⟩ : ∃ B : Nat, valD la / 2 ^ i % 2 = B := ⟨_, rfl⟩
  rw [hB] at hbit ⊢
  have Hbit : Hid _ := hbit
  have Hca : Hid _ := hca
  clear hbit hca hnila hi2 hB
  by_cases hql : q < la.length
  · obtain ⟨ba, oa, rfl, hba, hcella⟩ := Hca.out q hql
    obtain ⟨d, hd⟩ : ∃ d, Hid (la.getD q 0 = d) := ⟨_, rfl⟩
    have hd1 : (d : Int) ≤ 16777215 := by have := hda q; rw [hd.out] at this; omega
    rw [hd.out] at hcella
    obtain ⟨p, hp⟩ : ∃ p : Nat, Hid (p = 2 ^ r) := ⟨2 ^ r, rfl⟩
    have hp0 : (0 : Int) < p := by have := Nat.two_pow_pos r; rw [← hp.out] at this; omega
    have hpow : Hid (∀ w, Calls Tryd.prog 70 #[.int .i64 (r : Int)] w fun e w' => e = .returned (.int .i64 (p : Int)) ∧ w' = w) := by
      intro w
      have := pow2_any r (by omega) w
      rwa [← hp.out] at this
    obtain ⟨e, he⟩ : ∃ e : Nat, d / p = e := ⟨_, rfl⟩
    have hq1 := wrap_quo d p e he (by omega)
    have hp00 : ¬ p = 0 := by omega
    have he1 : (e : Int) ≤ 16777215 := by have := Nat.div_le_self d p; omega
    have HB : Hid (B = e % 2) := by unfold Hid; rw [Hbit.out, hd.out, ← hp.out, he]
    have hql' : (q : Int) < la.length := by omega
    clear he hda
    go_enter Tryd.func40, Tryd.ntmps40
    go_wp2
    go_quiet ((go_at_call 70; exact Calls.quiet_of_same (hpow.out _)))
    go_wp2
    go_ret
    exact ⟨ret_int (by have := HB.out; omega), Joins_draws (Below.refl _ _) _⟩
  · have HB : Hid (B = 0) := by unfold Hid; rw [Hbit.out, getD_ge la q (by omega), Nat.zero_div]
    have hql' : ¬ (q : Int) < la.length := by omega
    have hql2 : (la.length : Int) ≤ q := by omega
    clear hda
    go_enter Tryd.func40, Tryd.ntmps40
    go_wp2
    go_ret
    exact ⟨ret_int (by have := HB.out; omega), Below.refl _ _⟩

end Go.Proofs.YtkbiiolkekpkiaaDoor

/-
  The plain arithmetic of the law LimbBack: sums, differences, shifts, bits, bytes and products of numbers below 2^256. No program is spoken of here.
-/
namespace Go.Proofs.YtkbiiolkekpkiaaDoor
set_option linter.unusedVariables false

theorem back_sub (x y : Nat) (hx : x < M4) (hy : y < M4) : ((x + y) % M4 + M4 - y) % M4 = x ∧ bor ((x + y) % M4) y = (((x + y) / M4 : Nat) : Int) := by
  unfold M4 bor at *
  refine ⟨by omega, ?_⟩
  split <;> omega

theorem back_bytes (x : Nat) (hx : x < M4) (f : Nat → Int) (h : ∀ j, j < 32 → f j = byteAt x j) : vb f 32 = x := by
  rw [vb_congr f (byteAt x) 32 h, vb_byteAt, Nat.mod_eq_of_lt]
  unfold M4 at hx
  have : (256 : Nat) ^ 32 = 115792089237316195423570985008687907853269984665640564039457584007913129639936 := by decide
  omega

theorem div_lt_M4 (x n : Nat) (hx : x < M4) : x / 2 ^ n < M4 := Nat.lt_of_le_of_lt (Nat.div_le_self _ _) hx
theorem mod_M4 (x : Nat) : x % M4 < M4 := Nat.mod_lt _ (by unfold M4; omega)
theorem right_val (x n : Nat) (hx : x < M4) : x / 2 ^ n % M4 = x / 2 ^ n := Nat.mod_eq_of_lt (div_lt_M4 x n hx)

/-- What is shifted there and back, and there and back again, is as after the first time. -/
theorem back_shift (l n : Nat) (hl : l < M4) : l / 2 ^ n * 2 ^ n % M4 / 2 ^ n = l / 2 ^ n := by
  have h : l / 2 ^ n * 2 ^ n < M4 := Nat.lt_of_le_of_lt (Nat.div_mul_le_self l (2 ^ n)) hl
  rw [Nat.mod_eq_of_lt h, Nat.mul_div_cancel _ (Nat.two_pow_pos n)]

theorem nbits_down (x n : Nat) : nbits (x / 2 ^ n) = nbits x - n := by
  by_cases h : x / 2 ^ n = 0
  · rw [h, nbits_zero]
    have h2 : x < 2 ^ n := by
      rcases Nat.lt_or_ge x (2 ^ n) with h' | h'
      · exact h'
      · have := Nat.div_pos h' (Nat.two_pow_pos n)
        omega
    have := nbits_le x n h2
    omega
  · have := nbits_shift x n h
    omega

theorem back_mul (x y u : Nat) : (x * u % M4 + y * u % M4) % M4 = (x + y) % M4 * u % M4 := by
  rw [← Nat.add_mod, ← Nat.add_mul, Nat.mod_mul_mod]

end Go.Proofs.YtkbiiolkekpkiaaDoor

/-
  The contracts of the document's own Down and Bits over digits of 24 bits: a number through a power of two, how many bits it has. Conditions: as each theorem says.
-/
namespace Go.Proofs.YtkbiiolkekpkiaaDoor
open Go.RowKit
set_option linter.unusedVariables false

theorem down_split (la : List Nat) (hd : Dg la) (q r : Nat) : valD la / 2 ^ (24 * q + r) = valD (la.drop q) / 2 ^ r := by
  rw [Nat.pow_add, Nat.pow_mul, ← Nat.div_div_eq_div_mul, show (2 : Nat) ^ 24 = 16777216 from by decide]
  congr 1
  have h2 := valD_take_lt la hd q
  rw [valD_split la q, Nat.add_mul_div_left _ _ (Nat.pow_pos (by omega)), Nat.div_eq_of_lt h2, Nat.zero_add]
theorem valD_drop (la : List Nat) (i : Nat) : valD (la.drop i) = la.getD i 0 + 16777216 * valD (la.drop (i + 1)) := by
  by_cases h : i < la.length
  · rw [List.drop_eq_getElem_cons h, valD, List.getD_eq_getElem?_getD, List.getElem?_eq_getElem h]; rfl
  · rw [List.drop_eq_nil_of_le (by omega), List.drop_eq_nil_of_le (by omega), getD_ge la i (by omega)]; rfl
theorem down_step (x y k up R : Nat) (hk : 0 < k) (hku : k * up = 16777216) : (x + 16777216 * (y + 16777216 * R)) / k = (x / k + y % k * up) + 16777216 * ((y + 16777216 * R) / k) := by
  have hm : (y + 16777216 * R) % k = y % k := by rw [← hku, Nat.mul_assoc, Nat.add_mul_mod_self_left]
  generalize hS : y + 16777216 * R = S at hm ⊢
  have e := Nat.div_add_mod S k
  rw [hm] at e
  have e1 : (x + 16777216 * S) / k = x / k + up * S := by rw [← hku, Nat.mul_assoc, Nat.add_mul_div_left _ _ hk]
  have e2 : up * S = 16777216 * (S / k) + y % k * up := by
    rw [← hku, Nat.mul_comm k up, Nat.mul_assoc, Nat.mul_comm (y % k) up, ← Nat.mul_add, e]
  rw [e1, e2]; omega
theorem down_digit (x y k up : Nat) (hx : x < 16777216) (hk : 0 < k) (hku : k * up = 16777216) : x / k + y % k * up < 16777216 := by
  have h1 : x / k < up := by rw [Nat.div_lt_iff_lt_mul hk, Nat.mul_comm]; omega
  have h2 : y % k + 1 ≤ k := Nat.mod_lt _ hk
  have h3 : (y % k + 1) * up ≤ k * up := Nat.mul_le_mul_right up h2
  rw [Nat.add_mul, hku] at h3
  omega
/-- The digits o stand, and what is left of la behind its i-th digit. -/
def DownAt (la : List Nat) (N q r i : Nat) (o : List Nat) : Prop :=
  o.length + q = i ∧ Dg o ∧ N = valD o + 16777216 ^ o.length * (valD (la.drop i) / 2 ^ r)
theorem DownAt.step {la : List Nat} {N q r i : Nat} {o : List Nat} (h : DownAt la N q r i o) (hd : Dg la) (x y k up d : Nat) (hx : la.getD i 0 = x) (hy : la.getD (i + 1) 0 = y) (hk : k = 2 ^ r) (hku : k * up = 16777216) (he : d = x / k + y % k * up) :
    DownAt la N q r (i + 1) (o ++ [d]) := by
  obtain ⟨h1, h2, h3⟩ := h
  have hk0 : 0 < k := by rw [hk]; exact Nat.two_pow_pos r
  have hd' : d < 16777216 := by rw [he]; exact down_digit x y k up (by rw [← hx]; exact hd i) hk0 hku
  refine ⟨by simp; omega, h2.snoc hd', ?_⟩
  rw [h3, valD_snoc, valD_drop la i, valD_drop la (i + 1), hx, hy, ← hk, down_step x y k up _ hk0 hku, ← he, List.length_append, List.length_singleton, Nat.pow_succ, Nat.mul_add, Nat.mul_assoc]
  omega

theorem pow_up (r : Nat) (hr : r < 24) : 2 ^ r * 2 ^ (24 - r) = 16777216 := by rw [← Nat.pow_add, show r + (24 - r) = 24 by omega]

set_option maxHeartbeats 4000000 in
theorem downR_any (la : List Nat) (va : Value) (n : Nat) (w : World) (ha : Sl w va la) (hda : Dg la) (hla : la.length ≤ 100000) (hn : n ≤ 100000) :
    Calls Tryd.prog 83 #[va, .int .i64 (n : Int)] w fun e w' => ∃ v, e = .returned v ∧ Num w' v (valD la / 2 ^ n) ∧ Below w.heap.size w w' := by
  obtain ⟨a, capa, rfl, hcapa, hnila, hca⟩ := ha
  obtain ⟨q, hq⟩ : ∃ q : Nat, (n : Int) / 24 = (q : Int) := ⟨n / 24, by omega⟩
  obtain ⟨r, hr⟩ : ∃ r : Nat, (n : Int) % 24 = (r : Int) := ⟨n % 24, by omega⟩
  have hr2 : r < 24 := by omega
  have hN : Hid (valD la / 2 ^ n = valD (la.drop q) / 2 ^ r) := by
    unfold Hid; rw [← down_split la hda q r, show 24 * q + r = n by omega]
  have Hca : Hid _ := hca
  have Hda : Hid (Dg la) := hda
  clear hca hda hnila
  have hla' : (la.length : Int) ≤ 100000 := by omega
  have hn' : (n : Int) ≤ 100000 := by omega
  have hr3 : (r : Int) ≤ 23 := by omega
  have hq3 : (q : Int) ≤ 100000 := by omega
  have hku0 := pow_up r hr2
  have hk0 := Nat.two_pow_pos r
  have cK : Hid (∀ w, Calls Tryd.prog 70 #[.int .i64 (r : Int)] w fun e w' => e = .returned (.int .i64 ((2 ^ r : Nat) : Int)) ∧ w' = w) := fun w => pow2_any r (by omega) w
  have cU : Hid (∀ w, Calls Tryd.prog 70 #[.int .i64 (24 - (r : Int))] w fun e w' => e = .returned (.int .i64 ((2 ^ (24 - r) : Nat) : Int)) ∧ w' = w) := by
    intro w
    have := pow2_any (24 - r) (by omega) w
    rwa [show ((24 - r : Nat) : Int) = 24 - (r : Int) by omega] at this
  obtain ⟨k, hk⟩ : ∃ k : Nat, k = 2 ^ r := ⟨_, rfl⟩
  obtain ⟨up, hup⟩ : ∃ up : Nat, up = 2 ^ (24 - r) := ⟨_, rfl⟩
  rw [← hk] at cK hk0 hku0
  rw [← hup] at cU hku0
  have Hk : Hid (k = 2 ^ r) := hk
  have Hku : Hid (k * up = 16777216) := hku0
  have hk1 : (0 : Int) < k := by omega
  have hk2 : ¬ k = 0 := by omega
  have hkle : (k : Int) ≤ 16777216 := by
    have : k ≤ 2 ^ 24 := by rw [hk]; exact Nat.pow_le_pow_right (by omega) (by omega)
    omega
  have huple : (up : Int) ≤ 16777216 := by
    have : up ≤ 2 ^ 24 := by rw [hup]; exact Nat.pow_le_pow_right (by omega) (by omega)
    omega
  clear hk hup hk0 hku0 hr2
  go_enter Tryd.func83, Tryd.ntmps83
  go_wp2_with (first
    | (with_reducible refine (cK.out w).mono ?_; rintro e w' ⟨rfl, hw'⟩; rw [hw']; clear hw' w')
    | (with_reducible refine (cU.out w).mono ?_; rintro e w' ⟨rfl, hw'⟩; rw [hw']; clear hw' w'))
  go_loopw [7, 8] (fun v y wr => ∃ (i : Nat) (o : List Nat), y = .int .i64 i ∧ (i ≤ la.length ∨ i = q) ∧ o.length ≤ 100000 ∧ Own w.heap.size wr v o ∧ Below w.heap.size w wr ∧ Hid (DownAt la (valD la / 2 ^ n) q r i o)) (fun _ y _ => la.length - (intOf y).toNat)
  case atStart => exact ⟨q, [], rfl, Or.inr rfl, by simp, Own.nil _ _, Below.refl _ _, by simp, Dg.nil, by simp [valD, hN.out]⟩
  case round =>
    obtain ⟨i, o, rfl, hi, hol, hown, hbel, H⟩ := hrel
    have hsz := hbel.size
    have Hb : Hid (Below w.heap.size w wr) := hbel
    have Ho : Hid (Own w.heap.size wr u7 o) := hown
    have hlen : o.length ≤ 1000000 := by omega
    have hi1 : (i : Int) ≤ 100000 := by omega
    clear hown hbel
    by_cases hia : i < la.length
    · have hia' : (i : Int) < la.length := by omega
      have hol2 : o.length + 1 ≤ 100000 := by have := H.out.1; omega
      obtain ⟨x, hx⟩ : ∃ x, Hid (la.getD i 0 = x) := ⟨_, rfl⟩
      obtain ⟨y, hy⟩ : ∃ y, Hid (la.getD (i + 1) 0 = y) := ⟨_, rfl⟩
      have hx1 : (x : Int) ≤ 16777215 := by have := Hda.out i; rw [hx.out] at this; omega
      have hy1 : (y : Int) ≤ 16777215 := by have := Hda.out (i + 1); rw [hy.out] at this; omega
      obtain ⟨ba, oa, rfl, hba, hcella⟩ := Hca.out i hia
      rw [hx.out] at hcella
      have hcella' : wr.cell? ⟨ba, oa + i, none⟩ = some (.int .i64 (x : Int)) := (Hb.out.cell (p := ⟨ba, oa + i, none⟩) hba).trans hcella
      clear hcella
      obtain ⟨e, he⟩ : ∃ e : Nat, x / k = e := ⟨_, rfl⟩
      have he1 : (e : Int) ≤ 16777215 := by have := Nat.div_le_self x k; omega
      have hq1 : (x : Int) / (k : Int) = (e : Int) := by rw [← he]; simp
      by_cases hib : i + 1 < la.length
      · have hib' : (i : Int) + 1 < la.length := by omega
        obtain ⟨bb, ob, hae, hbb, hcellb⟩ := Hca.out (i + 1) hib
        simp only [Option.some.injEq, Addr.mk.injEq, and_true] at hae
        obtain ⟨rfl, rfl⟩ := hae
        rw [hy.out] at hcellb
        have hcellb' : wr.cell? ⟨ba, oa + (i + 1), none⟩ = some (.int .i64 (y : Int)) := (Hb.out.cell (p := ⟨ba, oa + (i + 1), none⟩) hbb).trans hcellb
        clear hcellb
        obtain ⟨z, hz⟩ : ∃ z : Nat, y % k = z := ⟨_, rfl⟩
        have hz1 : (z : Int) ≤ 16777215 := by have := Nat.mod_lt y (show 0 < k by omega); omega
        have hq2 : (y : Int) % (k : Int) = (z : Int) := by rw [← hz]; simp
        obtain ⟨m, hm⟩ : ∃ m : Nat, z * up = m := ⟨_, rfl⟩
        have hq3' : (z : Int) * (up : Int) = (m : Int) := by rw [← hm]; simp
        have hdg := down_digit x y k up (by omega) (by omega) Hku.out
        rw [he, hz, hm] at hdg
        have hm1 : (m : Int) ≤ 16777215 := by omega
        have R : Hid _ := H.out.step Hda.out x y k up (e + m) hx.out hy.out Hk.out Hku.out (by rw [he, hz, hm])
        clear he hz hm hdg
        go_wp2_with (at_builtin; refine wpList_app1 rfl _ _ rfl w.heap.size u7 o (e + m) _ (by omega) rfl Ho.out rfl hlen hsz ?_; intro v' w1 hown' hb')
        go_roundw
        case rel => exact ⟨i + 1, _, by go_num, Or.inl (by omega), by simp; omega, hown', Hb.out.trans hb', R⟩
        case measure => simp [intOf]; omega
      · have hib' : ¬ (i : Int) + 1 < la.length := by omega
        have hy0 : y = 0 := by rw [← hy.out]; exact getD_ge la (i + 1) (by omega)
        subst hy0
        have R : Hid _ := H.out.step Hda.out x 0 k up e hx.out hy.out Hk.out Hku.out (by rw [he]; simp)
        clear he
        go_wp2_with (at_builtin; refine wpList_app1 rfl _ _ rfl w.heap.size u7 o e _ (by omega) rfl Ho.out rfl hlen hsz ?_; intro v' w1 hown' hb')
        go_roundw
        case rel => exact ⟨i + 1, _, by go_num, Or.inl (by omega), by simp; omega, hown', Hb.out.trans hb', R⟩
        case measure => simp [intOf]; omega
    · have hia' : ¬ (i : Int) < la.length := by omega
      have hv : Hid (valD la / 2 ^ n = valD o) := by
        unfold Hid
        have := H.out.2.2
        rw [List.drop_eq_nil_of_le (by omega)] at this
        simpa [valD] using this
      have Hdo : Hid (Dg o) := H.out.2.1
      go_wp2_with (go_at_call 71; refine (trim_any o u7 _ Ho.out.sl hlen Hdo.out).mono ?_; rintro e w' ⟨v', rfl, hN, rfl⟩)
      go_ret
      exact ⟨_, rfl, by rw [hv.out]; exact hN, Hb.out⟩

theorem nbits_half (x : Nat) (h : 0 < x) : nbits x = nbits (x / 2) + 1 := by
  by_cases h1 : x / 2 = 0
  · obtain rfl : x = 1 := by omega
    decide
  · have := nbits_shift x 1 (by simpa using h1)
    simp at this
    omega
theorem nbits_top (la : List Nat) (hd : Dg la) (hz : Nz la) (h0 : 0 < la.length) : nbits (valD la) = 24 * (la.length - 1) + nbits (la.getD (la.length - 1) 0) := by
  have hs := down_split la hd (la.length - 1) 0
  rw [valD_drop la (la.length - 1), List.drop_eq_nil_of_le (by omega)] at hs
  simp only [Nat.add_zero, Nat.pow_zero, Nat.div_one, valD, Nat.mul_zero] at hs
  rcases hz with e | hz
  · rw [e] at h0; simp at h0
  · rw [nbits_shift (valD la) (24 * (la.length - 1)) (by rw [hs]; exact hz), hs]

set_option maxHeartbeats 1000000 in
theorem bitsR_any (la : List Nat) (va : Value) (w : World) (ha : Sl w va la) (hda : Dg la) (hza : Nz la) (hla : la.length ≤ 100000) :
    Calls Tryd.prog 82 #[va] w fun e w' => e = .returned (.int .i64 (nbits (valD la) : Int)) ∧ Below w.heap.size w w' := by
  obtain ⟨a, capa, rfl, hcapa, hnila, hca⟩ := ha
  have hla' : (la.length : Int) ≤ 100000 := by omega
  by_cases h0 : la.length = 0
  · have e : la = [] := List.eq_nil_of_length_eq_zero h0
    subst e
    have g : Hid (nbits (valD []) = 0) := rfl
    go_enter Tryd.func82, Tryd.ntmps82
    go_wp2
    go_ret
    exact ⟨ret_int (by rw [g.out]; rfl), Below.refl _ _⟩
  · have hb0 : ((la.length : Int) == 0) = false := beq_eq_false_iff_ne.2 (by omega)
    have ht := nbits_top la hda hza (by omega)
    obtain ⟨m, hm⟩ : ∃ m : Nat, la.length - 1 = m := ⟨_, rfl⟩
    have hlm : la.length = m + 1 := by omega
    obtain ⟨b, off, rfl, hb, hc⟩ := hca m (by omega)
    have hd := hda m
    rw [hm] at ht
    obtain ⟨x, hx⟩ : ∃ x : Nat, la.getD m 0 = x := ⟨_, rfl⟩
    rw [hx] at ht hc hd
    have HT : Hid (nbits (valD la) = 24 * m + nbits x) := ht
    clear ht hca hda hza hx hnila hm h0
    have hx1 : (x : Int) ≤ 16777215 := by omega
    rw [hlm] at hcapa ⊢
    have hm1 : (m : Int) ≤ 100000 := by omega
    have hb0 : ((m : Int) + 1 == 0) = false := beq_eq_false_iff_ne.2 (by omega)
    go_enter Tryd.func82, Tryd.ntmps82
    go_wp2
    go_loopw [3, 4] (fun n v wr => ∃ (t z : Nat), n = .int .i64 t ∧ v = .int .i64 z ∧ t + z ≤ 20000000 ∧ wr = w ∧ Hid (nbits (valD la) = t + nbits z)) (fun _ v _ => (intOf v).toNat)
    case atStart => exact ⟨24 * m, x, by go_num, rfl, by omega, rfl, HT⟩
    case round =>
      obtain ⟨t, z, rfl, rfl, htz, hwr, H⟩ := hrel
      rw [hwr]
      clear hwr
      by_cases hz : 0 < z
      · have hz' : (0 : Int) < z := by omega
        have R : Hid (nbits (valD la) = (t + 1) + nbits (z / 2)) := by
          have h1 := H.out
          have h2 := nbits_half z hz
          unfold Hid; omega
        have ht' : (t : Int) ≤ 20000000 := by omega
        have hz3 : (z : Int) ≤ 20000000 := by omega
        clear H HT
        go_wp2
        go_roundw
        case rel => exact ⟨t + 1, z / 2, by go_num, by go_num, by omega, trivial, R⟩
        case measure => simp [intOf]; omega
      · obtain rfl : z = 0 := by omega
        have R : Hid (nbits (valD la) = t) := by
          have h1 := H.out
          rw [nbits_zero] at h1
          unfold Hid; omega
        clear H HT
        go_wp2
        go_ret
        exact ⟨ret_int (by rw [R.out]), Below.refl _ _⟩

end Go.Proofs.YtkbiiolkekpkiaaDoor

/-
  The contracts of the document's own sums, differences, order, products and shifts, at the level of numbers. Conditions: as each theorem says.
-/
namespace Go.Proofs.YtkbiiolkekpkiaaDoor
open Go.RowKit
set_option linter.unusedVariables false

theorem add_num (M N : Nat) (va vb : Value) (w : World) (ha : Num w va M) (hb : Num w vb N) (m : Nat) (hM : M < 16777216 ^ m) (hN : N < 16777216 ^ m) (hm : m ≤ 10000) :
    Calls Tryd.prog 57 #[va, vb] w fun e w' => ∃ v, e = .returned v ∧ Num w' v (M + N) ∧ Below w.heap.size w w' := by
  obtain ⟨l, h1, h2, h3, rfl⟩ := ha
  obtain ⟨l', k1, k2, k3, rfl⟩ := hb
  have hl := nz_len l m h2 h3 hM
  have hl' := nz_len l' m k2 k3 hN
  exact addR_any l l' va vb w h1 k1 h2 k2 (by omega) (by omega)
theorem sub_num (M N : Nat) (va vb : Value) (w : World) (ha : Num w va M) (hb : Num w vb N) (m : Nat) (hM : M < 16777216 ^ m) (hm : m ≤ 10000) (hle : N ≤ M) :
    Calls Tryd.prog 41 #[va, vb] w fun e w' => ∃ v, e = .returned v ∧ Num w' v (M - N) ∧ Below w.heap.size w w' := by
  obtain ⟨l, h1, h2, h3, rfl⟩ := ha
  obtain ⟨l', k1, k2, k3, rfl⟩ := hb
  have hl := nz_len l m h2 h3 hM
  have hll : l'.length ≤ l.length := by
    rcases Nat.lt_or_ge l.length l'.length with h | h
    · have := lenD_lt l l' h2 k3 h; omega
    · exact h
  exact subR_any l l' va vb w h1 k1 h2 k2 (by omega) hll hle
theorem cmp_num (M N : Nat) (va vb : Value) (w : World) (ha : Num w va M) (hb : Num w vb N) (m : Nat) (hM : M < 16777216 ^ m) (hN : N < 16777216 ^ m) (hm : m ≤ 10000) :
    Calls Tryd.prog 15 #[va, vb] w fun e w' => e = .returned (.int .i64 (ord (M : Int) (N : Int))) ∧ Below w.heap.size w w' := by
  obtain ⟨l, h1, h2, h3, rfl⟩ := ha
  obtain ⟨l', k1, k2, k3, rfl⟩ := hb
  have hl := nz_len l m h2 h3 hM
  have hl' := nz_len l' m k2 k3 hN
  exact cmpR_any l l' va vb w h1 k1 h2 k2 h3 k3 (by omega) (by omega)
theorem small_num (M : Nat) (va : Value) (n : Nat) (w : World) (ha : Num w va M) (m : Nat) (hM : M < 16777216 ^ m) (hm : m ≤ 10000) (hn : n ≤ 9223372036854775807) :
    Calls Tryd.prog 81 #[va, .int .i64 (n : Int)] w fun e w' => ∃ v, e = .returned v ∧ Num w' v (M * n) ∧ Below w.heap.size w w' := by
  obtain ⟨l, h1, h2, h3, rfl⟩ := ha
  have hl := nz_len l m h2 h3 hM
  exact small_any l va n w h1 h2 (by omega) hn
theorem shift_num (M : Nat) (va : Value) (n : Nat) (w : World) (ha : Num w va M) (m : Nat) (hM : M < 16777216 ^ m) (hm : m ≤ 10000) (hn : n ≤ 100000) :
    Calls Tryd.prog 58 #[va, .int .i64 (n : Int)] w fun e w' => ∃ v, e = .returned v ∧ Num w' v (M * 2 ^ n) ∧ Below w.heap.size w w' := by
  obtain ⟨l, h1, h2, h3, rfl⟩ := ha
  have hl := nz_len l m h2 h3 hM
  exact shift_any l va n w h1 h2 (by omega) hn
theorem ref_mul_num (M N : Nat) (va vb : Value) (w : World) (ha : Num w va M) (hb : Num w vb N) (m : Nat) (hM : M < 16777216 ^ m) (hN : N < 16777216 ^ m) (hm : m ≤ 10000) :
    Calls Tryd.prog 72 #[va, vb] w fun e w' => ∃ v, e = .returned v ∧ Num w' v (M * N) ∧ Below w.heap.size w w' := by
  obtain ⟨l, h1, h2, h3, rfl⟩ := ha
  obtain ⟨l', k1, k2, k3, rfl⟩ := hb
  have hl := nz_len l m h2 h3 hM
  have hl' := nz_len l' m k2 k3 hN
  exact mulR_any l l' va vb w h1 k1 h2 k2 (by omega) (by omega)

end Go.Proofs.YtkbiiolkekpkiaaDoor
