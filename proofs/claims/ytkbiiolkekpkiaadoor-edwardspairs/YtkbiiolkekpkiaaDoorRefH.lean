/-
  The contracts of the document's own Sub and Bit over digits of 24 bits: the difference of two numbers, a number's bit. Conditions: as each theorem says.
-/
import Derived.Test.YtkbiiolkekpkiaaDoorOrd
namespace Go.Proofs.YtkbiiolkekpkiaaDoor
open Go.RowKit
set_option linter.unusedVariables false

/-- A difference's state behind i digits, c borrowed. -/
def SubAt (la lb : List Nat) (i c : Nat) (o : List Nat) : Prop :=
  o.length = i ∧ Dg o ∧ c ≤ 1 ∧ valD (la.take i) + 16777216 ^ i * c = valD (lb.take i) + valD o
theorem SubAt.step {la lb : List Nat} {i c : Nat} {o : List Nat} (h : SubAt la lb i c o) (x y d c' : Nat) (hx : la.getD i 0 = x) (hy : lb.getD i 0 = y) (hd : d < 16777216) (hc : c' ≤ 1) (he : x + 16777216 * c' = y + c + d) :
    SubAt la lb (i + 1) c' (o ++ [d]) := by
  obtain ⟨h1, h2, h3, h4⟩ := h
  refine ⟨by simp [h1], h2.snoc hd, hc, ?_⟩
  rw [valD_snoc, valD_take, valD_take, h1, hx, hy, Nat.pow_succ, Nat.mul_assoc]
  have e : 16777216 ^ i * x + 16777216 ^ i * (16777216 * c') = 16777216 ^ i * y + 16777216 ^ i * c + 16777216 ^ i * d := by
    rw [← Nat.mul_add, he, Nat.mul_add, Nat.mul_add]
  omega
theorem SubAt.done {la lb : List Nat} {c : Nat} {o : List Nat} (h : SubAt la lb la.length c o) (hl : lb.length ≤ la.length) (hle : valD lb ≤ valD la) : valD o = valD la - valD lb := by
  obtain ⟨h1, h2, h3, h4⟩ := h
  have hlt := valD_lt o h2
  rw [h1] at hlt
  rw [List.take_length, valD_take_all lb _ hl] at h4
  rcases Nat.lt_or_ge 0 c with hc | hc
  · obtain rfl : c = 1 := by omega
    rw [Nat.mul_one] at h4
    omega
  · obtain rfl : c = 0 := by omega
    rw [Nat.mul_zero] at h4
    omega

set_option maxHeartbeats 4000000 in
theorem subR_any (la lb : List Nat) (va vb : Value) (w : World) (ha : Sl w va la) (hb : Sl w vb lb) (hda : Dg la) (hdb : Dg lb) (hla : la.length ≤ 100000) (hll : lb.length ≤ la.length) (hle : valD lb ≤ valD la) :
    Calls Tryd.prog 41 #[va, vb] w fun e w' => ∃ v, e = .returned v ∧ Num w' v (valD la - valD lb) ∧ Below w.heap.size w w' := by
  obtain ⟨a, capa, rfl, hcapa, hnila, hca⟩ := ha
  obtain ⟨b, capb, rfl, hcapb, hnilb, hcb⟩ := hb
  have Hca : Hid _ := hca
  have Hcb : Hid _ := hcb
  have Hda : Hid (Dg la) := hda
  have Hdb : Hid (Dg lb) := hdb
  have Hle : Hid (valD lb ≤ valD la) := hle
  clear hca hcb hda hdb hnila hnilb hle
  have hla' : (la.length : Int) ≤ 100000 := by omega
  have hlb' : (lb.length : Int) ≤ 100000 := by omega
  go_enter Tryd.func41, Tryd.ntmps41
  go_wp2
  go_loopw [5, 6, 7] (fun v x y wr => ∃ (i c : Nat) (o : List Nat), y = .int .i64 i ∧ x = .int .i64 c ∧ i ≤ la.length ∧ Own w.heap.size wr v o ∧ Below w.heap.size w wr ∧ Hid (SubAt la lb i c o)) (fun _ _ y _ => la.length - (intOf y).toNat)
  case atStart => exact ⟨0, 0, [], rfl, rfl, Nat.zero_le _, Own.nil _ _, Below.refl _ _, rfl, Dg.nil, by omega, by simp [valD]⟩
  case round =>
    obtain ⟨i, c, o, rfl, rfl, hi, hown, hbel, H⟩ := hrel
    have hol : o.length = i := H.out.1
    have hc1 : (c : Int) ≤ 1 := by have := H.out.2.2.1; omega
    have hsz := hbel.size
    have Hb : Hid (Below w.heap.size w wr) := hbel
    have Ho : Hid (Own w.heap.size wr u5 o) := hown
    have hlen : o.length ≤ 1000000 := by omega
    clear hown hbel hol
    by_cases hia : i < la.length
    · have hia' : (i : Int) < la.length := by omega
      obtain ⟨x, hx⟩ : ∃ x, Hid (la.getD i 0 = x) := ⟨_, rfl⟩
      obtain ⟨y, hy⟩ : ∃ y, Hid (lb.getD i 0 = y) := ⟨_, rfl⟩
      have hx1 : (x : Int) ≤ 16777215 := by have := Hda.out i; rw [hx.out] at this; omega
      have hy1 : (y : Int) ≤ 16777215 := by have := Hdb.out i; rw [hy.out] at this; omega
      obtain ⟨ba, oa, rfl, hba, hcella⟩ := Hca.out i hia
      rw [hx.out] at hcella
      have hcella' : wr.cell? ⟨ba, oa + i, none⟩ = some (.int .i64 (x : Int)) := (Hb.out.cell (p := ⟨ba, oa + i, none⟩) hba).trans hcella
      clear hcella
      by_cases hib : i < lb.length
      · have hib' : (i : Int) < lb.length := by omega
        obtain ⟨bb, ob, rfl, hbb, hcellb⟩ := Hcb.out i hib
        rw [hy.out] at hcellb
        have hcellb' : wr.cell? ⟨bb, ob + i, none⟩ = some (.int .i64 (y : Int)) := (Hb.out.cell (p := ⟨bb, ob + i, none⟩) hbb).trans hcellb
        clear hcellb
        by_cases hneg : x < c + y
        · have hneg' : (x : Int) - c - y < 0 := by omega
          have R : Hid _ := H.out.step x y (x + 16777216 - c - y) 1 hx.out hy.out (by omega) (by omega) (by omega)
          go_wp2_with (at_builtin; refine wpList_app1 rfl _ _ rfl w.heap.size u5 o (x + 16777216 - c - y) _ (by omega) rfl Ho.out rfl hlen hsz ?_; intro v' w1 hown' hb')
          go_roundw
          case rel => exact ⟨i + 1, 1, _, by go_num, by go_num, by omega, hown', Hb.out.trans hb', R⟩
          case measure => simp [intOf]; omega
        · have hneg' : ¬ (x : Int) - c - y < 0 := by omega
          have R : Hid _ := H.out.step x y (x - c - y) 0 hx.out hy.out (by omega) (by omega) (by omega)
          go_wp2_with (at_builtin; refine wpList_app1 rfl _ _ rfl w.heap.size u5 o (x - c - y) _ (by omega) rfl Ho.out rfl hlen hsz ?_; intro v' w1 hown' hb')
          go_roundw
          case rel => exact ⟨i + 1, 0, _, by go_num, by go_num, by omega, hown', Hb.out.trans hb', R⟩
          case measure => simp [intOf]; omega
      · have hib' : ¬ (i : Int) < lb.length := by omega
        have hy0 : y = 0 := by rw [← hy.out]; exact getD_ge lb i (by omega)
        subst hy0
        by_cases hneg : x < c
        · have hneg' : (x : Int) - c < 0 := by omega
          have R : Hid _ := H.out.step x 0 (x + 16777216 - c) 1 hx.out hy.out (by omega) (by omega) (by omega)
          go_wp2_with (at_builtin; refine wpList_app1 rfl _ _ rfl w.heap.size u5 o (x + 16777216 - c) _ (by omega) rfl Ho.out rfl hlen hsz ?_; intro v' w1 hown' hb')
          go_roundw
          case rel => exact ⟨i + 1, 1, _, by go_num, by go_num, by omega, hown', Hb.out.trans hb', R⟩
          case measure => simp [intOf]; omega
        · have hneg' : ¬ (x : Int) - c < 0 := by omega
          have R : Hid _ := H.out.step x 0 (x - c) 0 hx.out hy.out (by omega) (by omega) (by omega)
          go_wp2_with (at_builtin; refine wpList_app1 rfl _ _ rfl w.heap.size u5 o (x - c) _ (by omega) rfl Ho.out rfl hlen hsz ?_; intro v' w1 hown' hb')
          go_roundw
          case rel => exact ⟨i + 1, 0, _, by go_num, by go_num, by omega, hown', Hb.out.trans hb', R⟩
          case measure => simp [intOf]; omega
    · obtain rfl : i = la.length := by omega
      have hv : Hid _ := H.out.done hll Hle.out
      have Hdo : Hid (Dg o) := H.out.2.1
      go_wp2_with (go_at_call 71; refine (trim_any o u5 _ Ho.out.sl hlen Hdo.out).mono ?_; rintro e w' ⟨v', rfl, hN, rfl⟩)
      go_ret
      exact ⟨_, rfl, by rw [← hv.out]; exact hN, Hb.out⟩

set_option maxHeartbeats 1000000 in
theorem bitR_any (la : List Nat) (va : Value) (i : Nat) (w : World) (ha : Sl w va la) (hda : Dg la) (hla : la.length ≤ 100000) (hi : i ≤ 1000000) :
    Calls Tryd.prog 40 #[va, .int .i64 (i : Int)] w fun e w' => e = .returned (.int .i64 ((valD la / 2 ^ i % 2 : Nat) : Int)) ∧ Below w.heap.size w w' := by
  obtain ⟨a, capa, rfl, hcapa, hnila, hca⟩ := ha
  have hla' : (la.length : Int) ≤ 100000 := by omega
  have hi' : (i : Int) ≤ 1000000 := by omega
  obtain ⟨q, hq⟩ : ∃ q : Nat, (i : Int) / 24 = (q : Int) := ⟨i / 24, by omega⟩
  obtain ⟨r, hr⟩ : ∃ r : Nat, (i : Int) % 24 = (r : Int) := ⟨i % 24, by omega⟩
  have hi2 : 24 * q + r = i := by omega
  have hr2 : r < 24 := by omega
  have hbit := digit_bit la hda q r hr2
  rw [hi2] at hbit
  obtain ⟨B, hB⟩ : ∃ B : Nat, valD la / 2 ^ i % 2 = B := ⟨_, rfl⟩
  rw [hB] at hbit ⊢
  have Hbit : Hid _ := hbit
  have Hca : Hid _ := hca
  clear hbit hca hnila hi2 hB
  by_cases hql : q < la.length
  · obtain ⟨ba, oa, rfl, hba, hcella⟩ := Hca.out q hql
    obtain ⟨d, hd⟩ : ∃ d, Hid (la.getD q 0 = d) := ⟨_, rfl⟩
    have hd1 : (d : Int) ≤ 16777215 := by have := hda q; rw [hd.out] at this; omega
    rw [hd.out] at hcella
    obtain ⟨p, hp⟩ : ∃ p : Nat, Hid (p = 2 ^ r) := ⟨2 ^ r, rfl⟩
    have hp0 : (0 : Int) < p := by have := Nat.two_pow_pos r; rw [← hp.out] at this; omega
    have hpow : Hid (∀ w, Calls Tryd.prog 70 #[.int .i64 (r : Int)] w fun e w' => e = .returned (.int .i64 (p : Int)) ∧ w' = w) := by
      intro w
      have := pow2_any r (by omega) w
      rwa [← hp.out] at this
    obtain ⟨e, he⟩ : ∃ e : Nat, d / p = e := ⟨_, rfl⟩
    have hq1 := wrap_quo d p e he (by omega)
    have hp00 : ¬ p = 0 := by omega
    have he1 : (e : Int) ≤ 16777215 := by have := Nat.div_le_self d p; omega
    have HB : Hid (B = e % 2) := by unfold Hid; rw [Hbit.out, hd.out, ← hp.out, he]
    have hql' : (q : Int) < la.length := by omega
    clear he hda
    go_enter Tryd.func40, Tryd.ntmps40
    go_wp2
    go_quiet ((go_at_call 70; exact Calls.quiet_of_same (hpow.out _)))
    go_wp2
    go_ret
    exact ⟨ret_int (by have := HB.out; omega), Joins_draws (Below.refl _ _) _⟩
  · have HB : Hid (B = 0) := by unfold Hid; rw [Hbit.out, getD_ge la q (by omega), Nat.zero_div]
    have hql' : ¬ (q : Int) < la.length := by omega
    have hql2 : (la.length : Int) ≤ q := by omega
    clear hda
    go_enter Tryd.func40, Tryd.ntmps40
    go_wp2
    go_ret
    exact ⟨ret_int (by have := HB.out; omega), Below.refl _ _⟩

end Go.Proofs.YtkbiiolkekpkiaaDoor
