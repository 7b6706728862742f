/-
  The contracts of nat's cut, word and sum: words without noughts at the end, a word or nought, the sum of words. Conditions: as each theorem says.
-/
import Derived.Test.YtdlocljnmaeikaaNatV
import Derived.Test.YtdlocljnmaeikaaRefF
namespace Go.Proofs.Ytdlocljnmaeikaa
open Go.RowKit
set_option linter.unusedVariables false

/-- The slice v leads to the words of N, without noughts at the end. -/
def Can (w : World) (v : Value) (N : Nat) : Prop := ∃ l, SK .u64 w v l ∧ Ww l ∧ Nzw l ∧ valW l = N
theorem Can.below {w w' : World} {v : Value} {N : Nat} (h : Can w v N) (hb : Below w.heap.size w w') : Can w' v N := by
  obtain ⟨l, h1, h2, h3, h4⟩ := h
  exact ⟨l, h1.below hb, h2, h3, h4⟩
theorem Can.nil (w : World) : Can w (.slice none 0 0) 0 := ⟨[], SK.nil _ w, Ww.nil, Or.inl rfl, rfl⟩
theorem Can.shape {w : World} {v : Value} {N : Nat} (h : Can w v N) : ∃ a n c, v = .slice a n c := by
  obtain ⟨l, ⟨a, c, e, _⟩, _⟩ := h
  exact ⟨a, _, c, e⟩
theorem Can.len {w : World} {a : Option Addr} {n c N : Nat} (h : Can w (.slice a n c) N) (m : Nat) (hN : N < 18446744073709551616 ^ m) : n ≤ m := by
  obtain ⟨l, ⟨a', c', e, _⟩, h2, h3, rfl⟩ := h
  simp only [Value.slice.injEq] at e
  have := can_len l m h2 h3 hN
  omega

set_option maxHeartbeats 400000 in
theorem cut_any (l : List Nat) (v : Value) (w : World) (h : SK .u64 w v l) (hl : l.length ≤ 1000000) (hw : Ww l) :
    Calls Try.prog 39 #[v] w fun e w' => ∃ v', e = .returned v' ∧ Can w v' (valW l) ∧ w' = w := by
  have H0 : Hid (SK .u64 w v l) := h
  obtain ⟨a, cap, rfl, hcap, hnil, hc⟩ := h
  have Hc : Hid _ := hc
  clear hc
  go_enter Try.func39, Try.ntmps39
  go_wp2
  go_loop [3] (fun x => ∃ n : Nat, n ≤ l.length ∧ x = .int .i64 n ∧ Hid (valW (l.take n) = valW l)) (fun x => (intOf x).toNat)
  case atStart => exact ⟨l.length, Nat.le_refl _, rfl, by unfold Hid; rw [List.take_length]⟩
  case round =>
    obtain ⟨n, hn, rfl, hv⟩ := hrel
    cases n with
    | zero =>
      have hv' : valW l = 0 := by rw [← hv.out]; rfl
      have H : Hid (Can w (.slice a 0 0) (valW l)) := ⟨[], ⟨a, 0, rfl, Nat.zero_le _, fun h => ⟨rfl, rfl⟩, fun j hj => by simp at hj⟩, Ww.nil, Or.inl rfl, hv'.symm⟩
      clear hv'
      go_wp2
      go_ret
      exact ⟨_, rfl, H.out, rfl⟩
    | succ n =>
      obtain ⟨b, o, rfl, hb, hcell⟩ := Hc.out n (by omega)
      obtain ⟨d, hd'⟩ : ∃ d, Hid (l.getD n 0 = d) := ⟨_, rfl⟩
      rw [hd'.out] at hcell
      have hn' : (n : Int) + 1 ≤ l.length := by omega
      by_cases hz : d = 0
      · subst hz
        go_wp2
        go_round
        case rel =>
          refine ⟨n, by omega, by go_num, ?_⟩
          have := valW_take l n
          rw [hd'.out] at this
          unfold Hid at *
          omega
        case measure => simp [intOf]
      · have hz' : ((d : Int) == 0) = false := by simp [hz]
        have H : Hid (Can w (.slice (some ⟨b, o, none⟩) (n + 1) (n + 1)) (valW l)) := by
          have e : (l.take (n + 1)).length = n + 1 := by rw [List.length_take]; omega
          refine ⟨l.take (n + 1), H0.out.take (by omega) (by omega) (fun h => by simp at h), hw.take _, Or.inr ?_, hv.out⟩
          rw [e, show n + 1 - 1 = n by omega, List.getD_eq_getElem?_getD, List.getElem?_take, if_pos (by omega), ← List.getD_eq_getElem?_getD, hd'.out]
          exact hz
        clear hz
        go_wp2
        go_ret
        exact ⟨_, rfl, H.out, rfl⟩

/-- The i-th word; nought, where there is none. -/
def wdI (l : List Nat) (i : Int) : Nat := if 0 ≤ i then l.getD i.toNat 0 else 0
theorem wdI_nat (l : List Nat) (i : Nat) : wdI l (i : Int) = l.getD i 0 := by unfold wdI; rw [if_pos (by omega), Int.toNat_natCast]
theorem wdI_lt (l : List Nat) (h : Ww l) (i : Int) : wdI l i < 18446744073709551616 := by
  unfold wdI; split
  · exact h _
  · omega

set_option maxHeartbeats 400000 in
theorem wordN_any (l : List Nat) (v : Value) (w : World) (h : SK .u64 w v l) (i : Int) :
    Calls Try.prog 38 #[v, .int .i64 i] w fun e w' => e = .returned (.int .u64 (wdI l i : Int)) ∧ w' = w := by
  obtain ⟨a, cap, rfl, hcap, hnil, hc⟩ := h
  by_cases h0 : i < 0
  · have e : Hid (wdI l i = 0) := by unfold Hid wdI; rw [if_neg (by omega)]
    clear hc
    go_enter Try.func38, Try.ntmps38
    go_wp2
    go_ret
    exact ⟨by rw [e.out]; rfl, rfl⟩
  · obtain ⟨k, rfl⟩ := Int.eq_ofNat_of_zero_le (show 0 ≤ i by omega)
    rw [wdI_nat]
    by_cases h1 : k < l.length
    · obtain ⟨b, o, rfl, hb, hcell⟩ := hc k h1
      generalize l.getD k 0 = x at *
      have h1' : ¬ (l.length : Int) ≤ k := by omega
      have h2 : (k : Int) < l.length := by omega
      clear hc hnil
      go_enter Try.func38, Try.ntmps38
      go_wp2
      go_ret
      exact ⟨rfl, rfl⟩
    · rw [getD_ge l k (by omega)]
      have h1' : (l.length : Int) ≤ k := by omega
      clear hc hnil
      go_enter Try.func38, Try.ntmps38
      go_wp2
      go_ret
      exact ⟨rfl, rfl⟩

/-- The sum of the first words. -/
def smW (l : List Nat) : Nat → Nat
  | 0 => 0
  | k + 1 => smW l k + l.getD k 0

set_option maxHeartbeats 1000000 in
theorem sum_any (l : List Nat) (v : Value) (w : World) (h : SK .u64 w v l) (hw : Ww l) (hl : l.length ≤ 1000) :
    Calls Try.prog 40 #[v] w fun e w' => e = .returned (.tuple #[.int .u64 ((smW l l.length % 18446744073709551616 : Nat) : Int), .int .u64 ((smW l l.length / 18446744073709551616 : Nat) : Int)]) ∧ w' = w := by
  obtain ⟨a, cap, rfl, hcap, hnil, hc⟩ := h
  have Hc : Hid _ := hc
  have Hw : Hid (Ww l) := hw
  have hl' : (l.length : Int) ≤ 1000 := by omega
  clear hc hnil hw
  obtain ⟨A, hA⟩ : ∃ A, Hid (smW l l.length % 18446744073709551616 = A) := ⟨_, rfl⟩
  obtain ⟨B, hB⟩ : ∃ B, Hid (smW l l.length / 18446744073709551616 = B) := ⟨_, rfl⟩
  rw [hA.out, hB.out]
  go_enter Try.func40, Try.ntmps40
  go_wp2
  go_loop [2, 3, 9] (fun x y i => ∃ (k lo hi : Nat), k ≤ l.length ∧ i = .int .i64 k ∧ x = .int .u64 (lo : Int) ∧ y = .int .u64 (hi : Int) ∧ lo < 18446744073709551616 ∧ hi ≤ k ∧ Hid (smW l k = lo + 18446744073709551616 * hi)) (fun _ _ i => l.length - (intOf i).toNat)
  case atStart => exact ⟨0, 0, 0, Nat.zero_le _, rfl, rfl, rfl, by omega, by omega, rfl⟩
  case round =>
    obtain ⟨k, lo, hi, hk, rfl, rfl, rfl, hlo, hhi, H⟩ := hrel
    by_cases hlt : k < l.length
    · have hlt' : (k : Int) < l.length := by omega
      obtain ⟨b, o, rfl, hb, hcell⟩ := Hc.out k hlt
      obtain ⟨x, hx⟩ : ∃ x, Hid (l.getD k 0 = x) := ⟨_, rfl⟩
      rw [hx.out] at hcell
      have hx1 : x < 18446744073709551616 := by rw [← hx.out]; exact Hw.out k
      obtain ⟨s, c, hs, hcc, E, R⟩ := add_step (lo : Int) (x : Int) 0 ⟨by omega, by omega⟩ ⟨by omega, by omega⟩ ⟨by omega, by omega⟩
      obtain ⟨s, rfl⟩ := Int.eq_ofNat_of_zero_le hs.1
      obtain ⟨c, rfl⟩ := Int.eq_ofNat_of_zero_le hcc.1
      have hs1 : s < 18446744073709551616 := by have := hs.2; omega
      have hc1 : c ≤ 1 := by have := hcc.2; omega
      have hhi' : (hi : Int) ≤ 1000 := by omega
      have H2 : Hid (smW l (k + 1) = s + 18446744073709551616 * (hi + c)) := by
        have h1 := H.out
        have h2 := E.out
        unfold Hid
        show smW l k + l.getD k 0 = _
        rw [hx.out]
        omega
      clear hs hcc E H
      go_wp2
      go_round
      case rel => exact ⟨k + 1, s, hi + c, by omega, by go_num, rfl, by go_num, hs1, by omega, H2⟩
      case measure => simp [intOf]; omega
    · obtain rfl : k = l.length := by omega
      have e1 : A = lo := by have := H.out; have := hA.out; omega
      have e2 : B = hi := by have := H.out; have := hB.out; omega
      subst e1 e2
      clear H
      go_wp2
      go_ret2
      exact ⟨rfl, rfl⟩

end Go.Proofs.Ytdlocljnmaeikaa
