/-
  The contracts of nat's Left and Power in one, and of the document's own Power. Conditions: as each theorem says.
-/
import Derived.Test.YtdlocljnmaeikaaNatJ
import Derived.Test.YtdlocljnmaeikaaNumLv
namespace Go.Proofs.Ytdlocljnmaeikaa
open Go.RowKit
set_option linter.unusedVariables false

theorem Num.len0 {w : World} {a : Option Addr} {n c N : Nat} (h : Num w (.slice a n c) N) : N = 0 ↔ n = 0 := by
  obtain ⟨l, ⟨a', c', e, _⟩, h2, h3, rfl⟩ := h
  simp only [Value.slice.injEq] at e
  obtain ⟨-, rfl, -⟩ := e
  constructor
  · intro h
    have := nz_len l 0 h2 h3 (by rw [h]; simp)
    omega
  · intro h
    rw [List.eq_nil_of_length_eq_zero h]; rfl
theorem Can.len0 {w : World} {a : Option Addr} {n c N : Nat} (h : Can w (.slice a n c) N) : N = 0 ↔ n = 0 := by
  obtain ⟨l, ⟨a', c', e, _⟩, h2, h3, rfl⟩ := h
  simp only [Value.slice.injEq] at e
  obtain ⟨-, rfl, -⟩ := e
  rw [nzw_nil_iff l h2 h3]
  exact ⟨fun h => by rw [h]; rfl, fun h => List.eq_nil_of_length_eq_zero h⟩

/-- What Left answers. -/
def LeftRes (x n : Nat) (w : World) (a : Option Addr) (k c er : Nat) : Prop :=
  (x = 0 ∧ er = 0 ∧ k = 0) ∨ (x ≠ 0 ∧ 262144 < n + nbits x ∧ er = 3 ∧ k = 0) ∨ (x ≠ 0 ∧ n + nbits x ≤ 262144 ∧ er = 0 ∧ Can w (.slice a k c) (x * 2 ^ n))
theorem LeftRes.below {x n : Nat} {w w' : World} {a : Option Addr} {k c er : Nat} (h : LeftRes x n w a k c er) (hb : Below w.heap.size w w') : LeftRes x n w' a k c er := by
  rcases h with h | h | ⟨h1, h2, h3, h4⟩
  · exact Or.inl h
  · exact Or.inr (Or.inl h)
  · exact Or.inr (Or.inr ⟨h1, h2, h3, h4.below hb⟩)
theorem leftN_all (l : List Nat) (v : Value) (n : Nat) (w : World) (h : SK .u64 w v l) (hw : Ww l) (hl : l.length ≤ 1000) (hn : n ≤ 9223372036854775807) :
    Calls Try.prog 27 #[v, .int .i64 (n : Int)] w fun e w' => ∃ (a : Option Addr) (k c er : Nat), e = .returned (.tuple #[.slice a k c, .int .i64 (er : Int)]) ∧ LeftRes (valW l) n w' a k c er ∧ Below w.heap.size w w' := by
  by_cases hz : valW l = 0
  · refine (leftN_zero l v n w h hw (by omega) hz).mono fun e w' ⟨he, hw'⟩ => ⟨none, 0, 0, 0, he, Or.inl ⟨hz, rfl, rfl⟩, by rw [hw']; exact Below.refl _ _⟩
  · by_cases hlim : 262144 < n + nbits (valW l)
    · refine (leftN_big l v n w h hw hl hz hn hlim).mono fun e w' ⟨he, hw'⟩ => ⟨none, 0, 0, 3, he, Or.inr (Or.inl ⟨hz, hlim, rfl, rfl⟩), by rw [hw']; exact Below.refl _ _⟩
    · refine (leftN_any l v n w h hw hl hz (by omega)).mono fun e w' ⟨v', he, hC, hb⟩ => ?_
      obtain ⟨a, k, c, rfl⟩ := hC.shape
      exact ⟨a, k, c, 0, he, Or.inr (Or.inr ⟨hz, by omega, rfl, hC⟩), hb⟩

/-- What Power answers. -/
def PowRes (x n : Nat) (w : World) (a : Option Addr) (k c er : Nat) : Prop :=
  (1 < x ∧ 262144 / nbits x < n ∧ er = 3 ∧ k = 0) ∨ ((1 < x → n ≤ 262144 / nbits x) ∧ er = 0 ∧ Can w (.slice a k c) (x ^ n))
theorem PowRes.below {x n : Nat} {w w' : World} {a : Option Addr} {k c er : Nat} (h : PowRes x n w a k c er) (hb : Below w.heap.size w w') : PowRes x n w' a k c er := by
  rcases h with h | ⟨h1, h2, h3⟩
  · exact Or.inl h
  · exact Or.inr ⟨h1, h2, h3.below hb⟩
theorem powerN_all (x n : Nat) (w : World) (hx : x < 18446744073709551616) (hn : n ≤ 9223372036854775807) :
    Calls Try.prog 28 #[.int .u64 (x : Int), .int .i64 (n : Int)] w fun e w' => ∃ (a : Option Addr) (k c er : Nat), e = .returned (.tuple #[.slice a k c, .int .i64 (er : Int)]) ∧ PowRes x n w' a k c er ∧ Below w.heap.size w w' := by
  by_cases hz : x ≤ 1
  · refine (power_small x n w hz hn).mono fun e w' ⟨v', he, hC, hb⟩ => ?_
    obtain ⟨a, k, c, rfl⟩ := hC.shape
    exact ⟨a, k, c, 0, he, Or.inr ⟨fun h => by omega, rfl, hC⟩, hb⟩
  · by_cases hlim : 262144 / nbits x < n
    · refine (power_big x n w (by omega) hx hn hlim).mono fun e w' ⟨he, hw'⟩ => ⟨none, 0, 0, 3, he, Or.inl ⟨by omega, hlim, rfl, rfl⟩, by rw [hw']; exact Below.refl _ _⟩
    · refine (power_any x n w (by omega) hx hn (by omega)).mono fun e w' ⟨v', he, hC, hb⟩ => ?_
      obtain ⟨a, k, c, rfl⟩ := hC.shape
      exact ⟨a, k, c, 0, he, Or.inr ⟨fun _ => by omega, rfl, hC⟩, hb⟩

set_option maxHeartbeats 1000000 in
theorem powerR_num (M n m : Nat) (va : Value) (w : World) (ha : Num w va M) (hm : m ≤ 10000) (hn : n ≤ 100000) (hM : M < 16777216 ^ m) (hP : ∀ i, i ≤ n → M ^ i < 16777216 ^ m) :
    Calls Try.prog 30 #[va, .int .i64 (n : Int)] w fun e w' => ∃ v, e = .returned v ∧ Num w' v (M ^ n) ∧ Below w.heap.size w w' := by
  have HA : Hid (Num w va M) := ha
  obtain ⟨a, c, d, rfl⟩ := ha.shape
  have HP : Hid (∀ i, i ≤ n → M ^ i < 16777216 ^ m) := hP
  have HM : Hid (M < 16777216 ^ m) := hM
  clear ha hP hM
  have hn' : (n : Int) ≤ 100000 := by omega
  go_enter Try.func30, Try.ntmps30
  go_wp2_with fail
  go_loopw [5, 6] (fun v y wr => ∃ i : Nat, i ≤ n ∧ y = .int .i64 i ∧ Num wr v (M ^ i) ∧ Below w.heap.size w wr) (fun _ y _ => n - (intOf y).toNat)
  case atStart => exact ⟨0, Nat.zero_le _, rfl, ⟨[1], Sl.lit1 w 1 1 rfl, fun j => by cases j <;> simp, Or.inr (by simp), by simp [valD]⟩, (Below.refl _ _).alloc (Nat.le_refl _) _⟩
  case round =>
    obtain ⟨i, hi, rfl, hN, hbel⟩ := hrel
    have hsz := hbel.size
    obtain ⟨xa, xc, xd, rfl⟩ := hN.shape
    have HN : Hid (Num wr (.slice xa xc xd) (M ^ i)) := hN
    have HB : Hid (Below w.heap.size w wr) := hbel
    have HA' : Hid (Num wr (.slice a c d) M) := HA.out.below hbel
    clear hN hbel
    by_cases hlt : i < n
    · have hlt' : (i : Int) < n := by omega
      go_wp2_with fail
      refine (ref_mul_num (M ^ i) M _ _ _ HN.out HA'.out m (HP.out i hi) HM.out hm).mono ?_
      rw [← Nat.pow_succ]
      rintro e w1 ⟨v1, rfl, h1, g1⟩
      obtain ⟨ya, yc, yd, rfl⟩ := h1.shape
      have H1 : Hid (Num w1 (.slice ya yc yd) (M ^ (i + 1))) := h1
      have G1 : Hid (Below w.heap.size w w1) := HB.out.trans (g1.mono hsz)
      clear h1 g1
      go_wp2_with fail
      go_roundw
      case rel => exact ⟨i + 1, by omega, by go_num, H1.out, G1.out⟩
      case measure => simp [intOf]; omega
    · obtain rfl : i = n := by omega
      go_wp2_with fail
      go_ret
      exact ⟨_, rfl, HN.out, HB.out⟩

end Go.Proofs.Ytdlocljnmaeikaa
