/-
  The contract of nat's cut with its answer told, and of cmp.Compare at ints. Conditions: as each theorem says.
-/
import Derived.Test.YtdlocljnmaeikaaBack
import Derived.Test.YtdlocljnmaeikaaOrd
import Derived.Test.YtdlocljnmaeikaaNatB
namespace Go.Proofs.Ytdlocljnmaeikaa
open Go.RowKit
set_option linter.unusedVariables false

/-- How many words are left of the first n, without noughts at the end. -/
def cutN (l : List Nat) : Nat → Nat
  | 0 => 0
  | n + 1 => if l.getD n 0 = 0 then cutN l n else n + 1
theorem cutN_succ (l : List Nat) (n : Nat) : cutN l (n + 1) = if l.getD n 0 = 0 then cutN l n else n + 1 := rfl
theorem cutN_le (l : List Nat) : ∀ n, cutN l n ≤ n
  | 0 => Nat.le_refl _
  | n + 1 => by unfold cutN; split; have := cutN_le l n; omega; omega
theorem cutN_val (l : List Nat) : ∀ n, valW (l.take (cutN l n)) = valW (l.take n)
  | 0 => rfl
  | n + 1 => by
    unfold cutN; split
    · rename_i h
      rw [cutN_val l n, valW_take, h, Nat.mul_zero, Nat.add_zero]
    · rfl
theorem cutN_nz (l : List Nat) : ∀ n, n ≤ l.length → cutN l n = 0 ∨ l.getD (cutN l n - 1) 0 ≠ 0
  | 0, _ => Or.inl rfl
  | n + 1, h => by
    unfold cutN; split
    · exact cutN_nz l n (by omega)
    · rename_i h'; exact Or.inr h'
/-- The words without noughts at the end. -/
def cutL (l : List Nat) : List Nat := l.take (cutN l l.length)
theorem cutL_length (l : List Nat) : (cutL l).length = cutN l l.length := by
  unfold cutL; rw [List.length_take]; have := cutN_le l l.length; omega
theorem cutL_val (l : List Nat) : valW (cutL l) = valW l := by unfold cutL; rw [cutN_val, List.take_length]
theorem cutL_ww {l : List Nat} (h : Ww l) : Ww (cutL l) := h.take _
theorem cutL_nz (l : List Nat) : Nzw (cutL l) := by
  rcases cutN_nz l l.length (Nat.le_refl _) with h | h
  · left; exact List.eq_nil_of_length_eq_zero (by rw [cutL_length]; exact h)
  · by_cases h0 : cutN l l.length = 0
    · left; exact List.eq_nil_of_length_eq_zero (by rw [cutL_length]; exact h0)
    · right
      rw [cutL_length]
      unfold cutL
      rw [List.getD_eq_getElem?_getD, List.getElem?_take, if_pos (by omega), ← List.getD_eq_getElem?_getD]
      exact h
theorem cutL_sk {w : World} {a : Option Addr} {l : List Nat} {cap : Nat} (h : SK .u64 w (.slice a l.length cap) l) : SK .u64 w (.slice a (cutL l).length (cutL l).length) (cutL l) := by
  have h1 := cutN_le l l.length
  rw [cutL_length]
  exact h.take h1 (Nat.le_refl _) (fun hn => by
    obtain ⟨a', c', e, -, h4, -⟩ := h
    simp only [Value.slice.injEq] at e
    obtain ⟨rfl, -, -⟩ := e
    obtain ⟨rfl, -⟩ := h4 hn
    rfl)

set_option maxHeartbeats 400000 in
theorem cut_det (l : List Nat) (a : Option Addr) (cap : Nat) (w : World) (h : SK .u64 w (.slice a l.length cap) l) (hl : l.length ≤ 1000000) :
    Calls Try.prog 39 #[.slice a l.length cap] w fun e w' => e = .returned (.slice a (cutL l).length (cutL l).length) ∧ w' = w := by
  rw [cutL_length]
  obtain ⟨a', cap', e, hcap, hnil, hc⟩ := h
  simp only [Value.slice.injEq] at e
  obtain ⟨rfl, -, rfl⟩ := e
  have Hc : Hid _ := hc
  clear hc
  obtain ⟨r, hr⟩ : ∃ r, Hid (cutN l l.length = r) := ⟨_, rfl⟩
  rw [hr.out]
  go_enter Try.func39, Try.ntmps39
  go_wp2
  go_loop [3] (fun x => ∃ n : Nat, n ≤ l.length ∧ x = .int .i64 n ∧ Hid (cutN l n = r)) (fun x => (intOf x).toNat)
  case atStart => exact ⟨l.length, Nat.le_refl _, rfl, hr⟩
  case round =>
    obtain ⟨n, hn, rfl, hv⟩ := hrel
    cases n with
    | zero =>
      obtain rfl : r = 0 := by rw [← hv.out]; rfl
      clear hr hv
      go_wp2
      go_ret
      exact ⟨rfl, rfl⟩
    | succ n =>
      obtain ⟨b, o, rfl, hb, hcell⟩ := Hc.out n (by omega)
      obtain ⟨d, hd'⟩ : ∃ d, Hid (l.getD n 0 = d) := ⟨_, rfl⟩
      rw [hd'.out] at hcell
      have hn' : (n : Int) + 1 ≤ l.length := by omega
      by_cases hz : d = 0
      · subst hz
        have hv2 : Hid (cutN l n = r) := by
          have := hv.out
          rw [cutN_succ, if_pos hd'.out] at this
          exact this
        clear hv
        go_wp2
        go_round
        case rel => exact ⟨n, by omega, by go_num, hv2⟩
        case measure => simp [intOf]
      · have hz' : ((d : Int) == 0) = false := by simp [hz]
        obtain rfl : r = n + 1 := by rw [← hv.out, cutN_succ, if_neg (by rw [hd'.out]; exact hz)]
        clear hz hr hv
        go_wp2
        go_ret
        exact ⟨rfl, rfl⟩

/-- cmp.Compare at ints. -/
theorem compareI_any (a b : Int) (w : World) :
    Calls Try.prog 41 #[.int .i64 a, .int .i64 b] w fun e w' => e = .returned (.int .i64 (ord a b)) ∧ w' = w := by
  rcases Int.lt_trichotomy a b with h | h | h
  · have H := ord_lt h
    rw [H]
    clear H
    go_enter Try.func41, Try.ntmps41
    go_wp2
    go_ret
    exact ⟨rfl, rfl⟩
  · have H := ord_eq h
    rw [H]
    clear H
    subst h
    go_enter Try.func41, Try.ntmps41
    go_wp2
    go_ret
    exact ⟨rfl, rfl⟩
  · have H := ord_gt h
    have h2 : ¬ a < b := by omega
    rw [H]
    clear H
    go_enter Try.func41, Try.ntmps41
    go_wp2
    go_ret
    exact ⟨rfl, rfl⟩

end Go.Proofs.Ytdlocljnmaeikaa
