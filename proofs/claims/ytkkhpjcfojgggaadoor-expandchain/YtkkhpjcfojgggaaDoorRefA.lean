/-
  The contracts of the document's own Pow2, Trim and Int over digits of 24 bits: powers of two, digits without noughts at the end, the digits of a number. Conditions: as each theorem says.
-/
import Derived.Test.YtkkhpjcfojgggaaDoorNum
namespace Go.Proofs.YtkkhpjcfojgggaaDoor
open Go.RowKit
set_option linter.unusedVariables false

set_option maxHeartbeats 400000 in
theorem pow2_any (n : Nat) (hn : n ≤ 61) (w : World) : Calls Tryd.prog 44 #[.int .i64 (n : Int)] w fun e w' => e = .returned (.int .i64 ((2 ^ n : Nat) : Int)) ∧ w' = w := by
  have hn' : (n : Int) ≤ 61 := by omega
  go_enter Tryd.func44, Tryd.ntmps44
  go_wp2
  go_loop [3, 4] (fun x i => ∃ k : Nat, k ≤ n ∧ i = .int .i64 k ∧ ∃ p : Nat, Hid (p = 2 ^ k) ∧ x = .int .i64 (p : Int)) (fun _ i => n - (intOf i).toNat)
  case atStart => exact ⟨0, Nat.zero_le _, rfl, 1, rfl, rfl⟩
  case round =>
    obtain ⟨k, hk, rfl, p, hp, rfl⟩ := hrel
    by_cases hlt : k < n
    · have hlt' : (k : Int) < n := by omega
      have hb : (p : Int) ≤ 1152921504606846976 := by
        have : p ≤ 2 ^ 60 := by rw [hp.out]; exact Nat.pow_le_pow_right (by omega) (by omega)
        omega
      go_wp2
      go_round
      case rel => exact ⟨k + 1, by omega, by go_num, 2 * p, by unfold Hid at *; rw [hp, Nat.pow_succ, Nat.mul_comm], by go_num⟩
      case measure => simp [intOf]; omega
    · obtain rfl : k = n := by omega
      go_wp2
      go_ret
      exact ⟨ret_int (by rw [hp.out]; simp), rfl⟩

set_option maxHeartbeats 400000 in
theorem trim_any (l : List Nat) (v : Value) (w : World) (h : Sl w v l) (hl : l.length ≤ 1000000) (hd : Dg l) :
    Calls Tryd.prog 40 #[v] w fun e w' => ∃ v', e = .returned v' ∧ Num w v' (valD l) ∧ w' = w := by
  obtain ⟨a, cap, rfl, hcap, hnil, hc⟩ := h
  have Hc : Hid _ := hc
  clear hc
  go_enter Tryd.func40, Tryd.ntmps40
  go_wp2
  go_loop [3] (fun x => ∃ n : Nat, n ≤ l.length ∧ x = .int .i64 n ∧ Hid (valD (l.take n) = valD l)) (fun x => (intOf x).toNat)
  case atStart => exact ⟨l.length, Nat.le_refl _, rfl, by unfold Hid; rw [List.take_length]⟩
  case round =>
    obtain ⟨n, hn, rfl, hv⟩ := hrel
    cases n with
    | zero =>
      have hv' : valD l = 0 := by rw [← hv.out]; rfl
      have H : Hid (Num w (.slice a 0 cap) (valD l)) := ⟨[], ⟨a, cap, rfl, Nat.zero_le _, fun h => ⟨rfl, (hnil h).2⟩, fun j hj => by simp at hj⟩, Dg.nil, Or.inl rfl, hv'.symm⟩
      clear hv'
      go_wp2
      go_ret
      exact ⟨_, rfl, H.out, rfl⟩
    | succ n =>
      obtain ⟨b, o, rfl, hb, hcell⟩ := Hc.out n (by omega)
      obtain ⟨d, hd'⟩ : ∃ d, Hid (l.getD n 0 = d) := ⟨_, rfl⟩
      rw [hd'.out] at hcell
      have hn' : (n : Int) + 1 ≤ l.length := by omega
      by_cases hz : d = 0
      · subst hz
        go_wp2
        go_round
        case rel =>
          refine ⟨n, by omega, by go_num, ?_⟩
          have := valD_take l n
          rw [hd'.out] at this
          unfold Hid at *
          omega
        case measure => simp [intOf]
      · have hz' : ((d : Int) == 0) = false := by simp [hz]
        have H : Hid (Num w (.slice (some ⟨b, o, none⟩) (n + 1) cap) (valD l)) := by
          have e : (l.take (n + 1)).length = n + 1 := by rw [List.length_take]; omega
          have g : ∀ j, j < n + 1 → (l.take (n + 1)).getD j 0 = l.getD j 0 := fun j hj => by
            simp [List.getD_eq_getElem?_getD, hj]
          refine ⟨l.take (n + 1), ⟨some ⟨b, o, none⟩, cap, by rw [e], by omega, fun h => (by simp at h), fun j hj => ?_⟩, fun j => ?_, Or.inr ?_, hv.out⟩
          · obtain ⟨b', o', e1, e2, e3⟩ := Hc.out j (by omega)
            rw [g j (by omega)]
            exact ⟨b', o', e1, e2, e3⟩
          · by_cases hj : j < n + 1
            · rw [g j hj]; exact hd j
            · rw [List.getD_eq_getElem?_getD, List.getElem?_eq_none (by omega)]; decide
          · rw [e, show n + 1 - 1 = n by omega, g n (by omega), hd'.out]; exact hz
        clear hz
        go_wp2
        go_ret
        exact ⟨_, rfl, H.out, rfl⟩

set_option maxHeartbeats 1000000 in
/-- The digits of a number that fits an int. -/
theorem int_any (n : Nat) (hn : n ≤ 9223372036854775807) (w : World) : Calls Tryd.prog 17 #[.int .i64 (n : Int)] w fun e w' => ∃ v, e = .returned v ∧ Num w' v n ∧ Below w.heap.size w w' := by
  go_enter Tryd.func17, Tryd.ntmps17
  go_wp2
  go_loopw [0, 3] (fun x v wr => ∃ (m : Nat) (l : List Nat), x = .int .i64 m ∧ Own w.heap.size wr v l ∧ Below w.heap.size w wr ∧ Hid (Dg l ∧ l.length ≤ 3 ∧ valD l + 16777216 ^ l.length * m = n ∧ (m = 0 → Nz l))) (fun x _ _ => (intOf x).toNat)
  case atStart => exact ⟨n, [], rfl, Own.nil _ _, Below.refl _ _, Dg.nil, by simp, by simp [valD], fun _ => Or.inl rfl⟩
  case round =>
    obtain ⟨m, l, rfl, hown, hbel, h1, h2, h3, h4⟩ := hrel
    have hmn : m ≤ n := by
      have : 1 * m ≤ 16777216 ^ l.length * m := Nat.mul_le_mul_right _ (Nat.pos_of_ne_zero (by simp))
      omega
    have hm' : (m : Int) ≤ 9223372036854775807 := by omega
    by_cases hm : 0 < m
    · have hl : l.length ≤ 2 := by
        rcases Nat.lt_or_ge l.length 3 with h | h
        · omega
        · have e : l.length = 3 := by omega
          rw [e] at h3
          omega
      have hpos : (0 : Int) < m := by omega
      have R : Hid (Dg (l ++ [m % 16777216]) ∧ (l ++ [m % 16777216]).length ≤ 3 ∧ valD (l ++ [m % 16777216]) + 16777216 ^ (l ++ [m % 16777216]).length * (m / 16777216) = n ∧ (m / 16777216 = 0 → Nz (l ++ [m % 16777216]))) := by
        refine ⟨h1.snoc (Nat.mod_lt _ (by omega)), by simp; omega, ?_, fun hz => Nz.snoc (by omega)⟩
        rw [valD_snoc, List.length_append, List.length_singleton, Nat.pow_succ, Nat.mul_assoc, Nat.add_assoc, ← Nat.mul_add, Nat.mod_add_div]
        exact h3
      have hsz := hbel.size
      have Hb : Hid (Below w.heap.size w wr) := hbel
      have Ho : Hid (Own w.heap.size wr u3 l) := hown
      have Hl : Hid _ := hl
      clear h1 h2 h3 h4 hown hbel
      go_wp2_with (at_builtin; refine wpList_app1 rfl _ _ rfl w.heap.size u3 l (m % 16777216) _ (by omega) rfl Ho.out rfl (by omega) hsz ?_; intro v' w1 hown' hb')
      go_roundw
      case rel => exact ⟨m / 16777216, _, by go_num, hown', Hb.out.trans hb', R⟩
      case measure => simp [intOf]; omega
    · obtain rfl : m = 0 := by omega
      have R : Hid _ := (⟨l, hown.sl, h1, h4 rfl, by simpa using h3⟩ : Num wr u3 n)
      clear h1 h2 h3 h4
      go_wp2
      go_ret
      exact ⟨_, rfl, R.out, hbel⟩

end Go.Proofs.YtkkhpjcfojgggaaDoor
