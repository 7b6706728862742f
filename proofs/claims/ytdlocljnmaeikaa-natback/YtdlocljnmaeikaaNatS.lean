/-
  The contracts of nat's functions at the level of numbers, and what is written and read again. Conditions: as each theorem says.
-/
import Derived.Test.YtdlocljnmaeikaaNatK
import Derived.Test.YtdlocljnmaeikaaNatO
import Derived.Test.YtdlocljnmaeikaaNatP
import Derived.Test.YtdlocljnmaeikaaNatR
namespace Go.Proofs.Ytdlocljnmaeikaa
open Go.RowKit
set_option linter.unusedVariables false

/-- The slice v leads to words of N, noughts at the end or not. -/
def Na (w : World) (v : Value) (N : Nat) : Prop := ∃ l, SK .u64 w v l ∧ Ww l ∧ l.length ≤ 100000 ∧ valW l = N
theorem Na.below {w w' : World} {v : Value} {N : Nat} (h : Na w v N) (hb : Below w.heap.size w w') : Na w' v N := by
  obtain ⟨l, h1, h2, h3, h4⟩ := h
  exact ⟨l, h1.below hb, h2, h3, h4⟩
theorem Can.na {w : World} {v : Value} {N : Nat} (h : Can w v N) (m : Nat) (hN : N < 18446744073709551616 ^ m) (hm : m ≤ 100000) : Na w v N := by
  obtain ⟨l, h1, h2, h3, rfl⟩ := h
  exact ⟨l, h1, h2, by have := can_len l m h2 h3 hN; omega, rfl⟩
theorem Na.lit1 (w : World) (d : Nat) (hd : d < 18446744073709551616) : Na (w.alloc (.cells #[.int .u64 (d : Int)] 37)) (.slice (some ⟨w.heap.size, 0, none⟩) 1 1) d :=
  ⟨[d], SK.lit1 w d, fun j => by rcases j with _ | j <;> simp; exact hd, by simp, by simp [valW]⟩
theorem addNa (A B : Nat) (va vb : Value) (w : World) (ha : Na w va A) (hb : Na w vb B) :
    Calls Try.prog 15 #[va, vb] w fun e w' => ∃ v, e = .returned v ∧ Can w' v (A + B) ∧ Below w.heap.size w w' := by
  obtain ⟨la, a1, a2, a3, rfl⟩ := ha
  obtain ⟨lb, b1, b2, b3, rfl⟩ := hb
  exact addN_any la lb va vb w a1 b1 a2 b2 a3 b3
theorem mulNa (A B : Nat) (va vb : Value) (w : World) (ha : Na w va A) (hb : Na w vb B) :
    Calls Try.prog 24 #[va, vb] w fun e w' => ∃ v, e = .returned v ∧ Can w' v (A * B) ∧ Below w.heap.size w w' := by
  obtain ⟨la, a1, a2, a3, rfl⟩ := ha
  obtain ⟨lb, b1, b2, b3, rfl⟩ := hb
  exact mulN_any la lb va vb w a1 b1 a2 b2 a3 b3
theorem mulWordNa (A m : Nat) (va : Value) (w : World) (ha : Na w va A) (hm : m < 18446744073709551616) :
    Calls Try.prog 26 #[va, .int .u64 (m : Int)] w fun e w' => ∃ v, e = .returned v ∧ Can w' v (A * m) ∧ Below w.heap.size w w' := by
  obtain ⟨la, a1, a2, a3, rfl⟩ := ha
  exact mulWordN_any la va m w a1 a2 a3 hm
theorem divWordNa (A m : Nat) (va : Value) (w : World) (ha : Na w va A) (hm0 : 0 < m) (hm : m < 18446744073709551616) :
    Calls Try.prog 21 #[va, .int .u64 (m : Int)] w fun e w' => ∃ v, e = .returned (.tuple #[v, .int .u64 ((A % m : Nat) : Int), .int .i64 0]) ∧ Can w' v (A / m) ∧ Below w.heap.size w w' := by
  obtain ⟨la, a1, a2, a3, rfl⟩ := ha
  exact divWord_any la va m w a1 a2 (by omega) hm0 hm
theorem subNa (A B : Nat) (va vb : Value) (w : World) (ha : Na w va A) (hb : Na w vb B) (hle : B ≤ A) :
    Calls Try.prog 10 #[va, vb] w fun e w' => ∃ v, e = .returned (.tuple #[v, .bool true]) ∧ Can w' v (A - B) ∧ Below w.heap.size w w' := by
  obtain ⟨la, a1, a2, a3, rfl⟩ := ha
  obtain ⟨lb, b1, b2, b3, rfl⟩ := hb
  exact subN_some la lb va vb w a1 b1 a2 b2 a3 b3 hle
theorem trimNa (A : Nat) (va : Value) (w : World) (ha : Na w va A) :
    Calls Try.prog 18 #[va] w fun e w' => ∃ v, e = .returned v ∧ Can w' v A ∧ Below w.heap.size w w' := by
  obtain ⟨la, a1, a2, a3, rfl⟩ := ha
  exact trimN_any la va w a1 a2 (by omega)
theorem bytesNa (A : Nat) (va : Value) (w : World) (ha : Na w va A) :
    Calls Try.prog 34 #[va] w fun e w' => ∃ v', e = .returned v' ∧ SK .u8 w' v' (beB A ((nbits A + 7) / 8)) ∧ Below w.heap.size w w' := by
  obtain ⟨la, a1, a2, a3, rfl⟩ := ha
  exact bytesN_any la va w a1 a2 (by omega)
/-- A power that is within the limit by far. -/
theorem powerNa (x n : Nat) (w : World) (hx : x < 18446744073709551616) (hn : n ≤ 1000) :
    Calls Try.prog 28 #[.int .u64 (x : Int), .int .i64 (n : Int)] w fun e w' => ∃ v, e = .returned (.tuple #[v, .int .i64 0]) ∧ Can w' v (x ^ n) ∧ Below w.heap.size w w' := by
  refine (powerN_all x n w hx (by omega)).mono fun e w' ⟨a, k, c, er, he, hr, hb⟩ => ?_
  rcases hr with ⟨h1, h2, -, -⟩ | ⟨-, h2, h3⟩
  · exfalso
    have hb : nbits x ≤ 64 := nbits_le x 64 (by omega)
    have hb0 : 0 < nbits x := by unfold nbits; rw [if_neg (by omega)]; omega
    have : 262144 / 64 ≤ 262144 / nbits x := Nat.div_le_div_left hb hb0
    omega
  · subst h2
    exact ⟨_, he, h3, hb⟩
theorem leftNa (A n : Nat) (va : Value) (w : World) (ha : Na w va A) (hA : A < 18446744073709551616 ^ 60) (hl : ∃ a k c, va = .slice a k c ∧ k ≤ 60) (hn : n ≤ 1000) :
    Calls Try.prog 27 #[va, .int .i64 (n : Int)] w fun e w' => ∃ v, e = .returned (.tuple #[v, .int .i64 0]) ∧ Can w' v (A * 2 ^ n) ∧ Below w.heap.size w w' := by
  obtain ⟨la, a1, a2, a3, rfl⟩ := ha
  obtain ⟨a, k, c, rfl, hk⟩ := hl
  obtain ⟨a', c', e⟩ := a1.shape
  simp only [Value.slice.injEq] at e
  have hb := nbits_leW la a2
  by_cases hz : valW la = 0
  · refine (leftN_zero la _ n w a1 a2 (by omega) hz).mono fun e w' ⟨he, hw⟩ => ⟨_, he, ?_, by rw [hw]; exact Below.refl _ _⟩
    rw [hz, Nat.zero_mul]
    exact Can.nil _
  · exact leftN_any la _ n w a1 a2 (by omega) hz (by omega)

theorem bb_beB (N n : Nat) : Bb (beB N n) := fun j => by
  by_cases h : j < n
  · rw [beB_get N n j h]; omega
  · rw [getD_ge _ _ (by rw [beB_length]; omega)]; omega
theorem hvN_beB (N n : Nat) : ∀ t, t ≤ n → hvN (beB N n) t = N / 256 ^ (n - t) % 256 ^ t
  | 0, _ => by simp [hvN, Nat.mod_one]
  | t + 1, h => by
    have ih := hvN_beB N n t (by omega)
    rw [show hvN (beB N n) (t + 1) = hvN (beB N n) t * 256 + (beB N n).getD t 0 from rfl, ih, beB_get N n t (by omega), show n - t = (n - (t + 1)) + 1 by omega, Nat.pow_succ 256 (n - (t + 1)), ← Nat.div_div_eq_div_mul,
      show (2 : Nat) ^ (8 * (n - 1 - t)) = 256 ^ (n - (t + 1)) by rw [Nat.pow_mul]; congr 1; omega]
    generalize N / 256 ^ (n - (t + 1)) = M
    rw [Nat.pow_succ, Nat.mul_comm (256 ^ t) 256, Nat.mod_mul]
    omega
theorem hv_back (N : Nat) : hvN (beB N ((nbits N + 7) / 8)) ((nbits N + 7) / 8) = N := by
  rw [hvN_beB _ _ _ (Nat.le_refl _), Nat.sub_self, Nat.pow_zero, Nat.div_one]
  refine Nat.mod_eq_of_lt (Nat.lt_of_lt_of_le (lt_nbits N) ?_)
  rw [show (256 : Nat) = 2 ^ 8 from by decide, ← Nat.pow_mul]
  exact Nat.pow_le_pow_right (by omega) (by omega)
theorem ofNa (N n : Nat) (hn : n = (nbits N + 7) / 8) (v : Value) (w : World) (h : SK .u8 w v (beB N n)) (hn2 : n ≤ 1000000) :
    Calls Try.prog 31 #[v] w fun e w' => ∃ v', e = .returned v' ∧ Can w' v' N ∧ Below w.heap.size w w' := by
  have := ofN_any _ v w h (bb_beB N n) (by rw [beB_length]; exact hn2)
  rw [beB_length] at this
  subst hn
  rwa [hv_back] at this

end Go.Proofs.Ytdlocljnmaeikaa
