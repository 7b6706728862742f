/-
  The contracts of ring's addProduct and factorOf: for words they return what is said here, and change no memory. Conditions: as each theorem says.
-/
import Derived.Test.YtkaekgjpjnnjpaaBase
import Derived.Test.YtkaekgjpjnnjpaaBitz
import Derived.Test.YtkaekgjpjnnjpaaRingV
namespace Go.Proofs.Ytkaekgjpjnnjpaa
open Go.RowKit
set_option linter.unusedVariables false

/-- One step of a row: a word, a product of two words and what is carried, as two words. -/
theorem prod_step (t a u c : Int) (ht : Wd t) (ha : Wd a) (hu : Wd u) (hc : Wd c) : ∃ l h : Int, Wd l ∧ Wd h ∧ Hid (t + a * u + c = l + 18446744073709551616 * h) ∧
    Hid (∀ w : World, Calls Try.prog 54 #[.int .u64 t, .int .u64 a, .int .u64 u, .int .u64 c] w fun e w' => e = .returned (.tuple #[.int .u64 l, .int .u64 h]) ∧ w' = w) := by
  have hb := words_mul a u ha hu
  obtain ⟨h0, l0, hl0, hh0, P0, Q0⟩ := mul_step a u ha hu
  obtain ⟨s1, d1, hs1, hd1, E1, R1⟩ := add_step l0 t 0 hl0 ht ⟨by omega, by omega⟩
  obtain ⟨s2, d2, hs2, hd2, E2, R2⟩ := add_step s1 c 0 hs1 hc ⟨by omega, by omega⟩
  obtain ⟨g, hg⟩ : ∃ g, h0 + d1 = g := ⟨_, rfl⟩
  obtain ⟨h, hh⟩ : ∃ h, g + d2 = h := ⟨_, rfl⟩
  have hP := P0.out
  have h1 := E1.out
  have h2 := E2.out
  have k : t + a * u + c = s2 + 18446744073709551616 * h := by omega
  obtain ⟨p, hp⟩ : ∃ p, a * u = p := ⟨_, rfl⟩
  rw [hp] at hb hP k
  have wg : Wd g := by unfold Wd at *; omega
  have wh : Wd h := by unfold Wd at *; omega
  refine ⟨s2, h, hs2, wh, by unfold Hid; rw [hp]; exact k, fun w => ?_⟩
  have vg : IntKind.u64.wrap (h0 + d1) = g := by rw [hg, IntKind.wrap_u64]; unfold Wd at wg; omega
  have vh : IntKind.u64.wrap (g + d2) = h := by rw [hh, IntKind.wrap_u64]; unfold Wd at wh; omega
  clear hP h1 h2 k hp P0 E1 E2 hg hh hb
  go_enter Try.func54, Try.ntmps54
  go_wp2_with (go_at_call 72; refine (Q0 _).mono ?_; rintro e w' ⟨rfl, rfl⟩)
  exact bodyPost_ret (v := .tuple #[.int .u64 s2, .int .u64 h]) (by simp [results, Try.results54, go_sem]) rfl ⟨rfl, rfl⟩

theorem factor_step (u x : Nat) (j : Nat) (hj : j ≤ 64) (y : Nat) (hy : (y : Int) = IntKind.u64.wrap ((x : Int) * IntKind.u64.wrap (2 - IntKind.u64.wrap ((u : Int) * (x : Int))))) (h : ((u : Int) * (x : Int) - 1) % 2 ^ j = 0) (i : Nat) (hi : i ≤ j + j) (hi' : i ≤ 64) :
    ((u : Int) * (y : Int) - 1) % 2 ^ i = 0 := by
  have hn := newton u x j h
  have e : (y : Int) % 18446744073709551616 = ((x : Int) * (2 - (u : Int) * (x : Int))) % 18446744073709551616 := by
    rw [hy, IntKind.wrap_u64, IntKind.wrap_u64, IntKind.wrap_u64, Int.emod_emod, Int.mul_emod, Int.emod_emod, Int.sub_emod, Int.emod_emod, ← Int.sub_emod, ← Int.mul_emod]
  obtain ⟨t, ht⟩ := Int.dvd_of_emod_eq_zero hn
  have h2 : ∃ s, (y : Int) = (x : Int) * (2 - (u : Int) * (x : Int)) + 18446744073709551616 * s := ⟨((y : Int) - (x : Int) * (2 - (u : Int) * (x : Int))) / 18446744073709551616, by omega⟩
  obtain ⟨s, hs⟩ := h2
  have p1 : (2 : Int) ^ (j + j) = 2 ^ i * 2 ^ (j + j - i) := by rw [← Int.pow_add]; congr 1; omega
  have p2 : (18446744073709551616 : Int) = 2 ^ i * 2 ^ (64 - i) := by rw [← Int.pow_add, show i + (64 - i) = 64 by omega]; decide
  apply Int.emod_eq_zero_of_dvd
  refine ⟨2 ^ (j + j - i) * t + 2 ^ (64 - i) * ((u : Int) * s), ?_⟩
  rw [hs, Int.mul_add, Int.mul_add, ← Int.mul_assoc (2 ^ i), ← p1, ← Int.mul_assoc (2 ^ i), ← p2, Int.mul_left_comm (u : Int) 18446744073709551616]
  omega

theorem wrap_nat (z : Int) : ∃ y : Nat, IntKind.u64.wrap z = (y : Int) ∧ y < 18446744073709551616 := by
  rw [IntKind.wrap_u64]
  exact ⟨(z % 18446744073709551616).toNat, by omega, by omega⟩

theorem factor_round (u x : Nat) (j i : Nat) (hj : j ≤ 64) (h : Hid (((u : Int) * (x : Int) - 1) % 2 ^ j = 0)) (hi : i ≤ j + j) (hi' : i ≤ 64) :
    ∃ (p q y : Nat), IntKind.u64.wrap ((u : Int) * (x : Int)) = (p : Int) ∧ IntKind.u64.wrap (2 - (p : Int)) = (q : Int) ∧ IntKind.u64.wrap ((x : Int) * (q : Int)) = (y : Int) ∧ y < 18446744073709551616 ∧ Hid (((u : Int) * (y : Int) - 1) % 2 ^ i = 0) := by
  obtain ⟨p, hp, -⟩ := wrap_nat ((u : Int) * (x : Int))
  obtain ⟨q, hq, -⟩ := wrap_nat (2 - (p : Int))
  obtain ⟨y, hy, hy'⟩ := wrap_nat ((x : Int) * (q : Int))
  exact ⟨p, q, y, hp, hq, hy, hy', factor_step u x j hj y (by rw [hp, hq, hy]) h.out i hi hi'⟩

theorem odd_square (u : Nat) (ho : u % 2 = 1) : ((u : Int) * (u : Int) - 1) % 2 ^ 3 = 0 := by
  obtain ⟨k, hk⟩ : ∃ k : Nat, u = 2 * k + 1 := ⟨u / 2, by omega⟩
  obtain ⟨t, ht⟩ : ∃ t : Nat, k * (k + 1) = 2 * t := ⟨k * (k + 1) / 2, by
    have : k * (k + 1) % 2 = 0 := by
      rcases Nat.mod_two_eq_zero_or_one k with h | h
      · rw [Nat.mul_mod, h]; simp
      · rw [Nat.mul_mod, show (k + 1) % 2 = 0 by omega]; simp
    omega⟩
  have e : u * u = 8 * t + 1 := by
    rw [Nat.mul_add] at ht
    rw [hk, Nat.mul_add, Nat.add_mul, Nat.mul_assoc, Nat.mul_left_comm k 2 k]
    omega
  have e2 : (u : Int) * (u : Int) = 8 * (t : Int) + 1 := by exact_mod_cast e
  rw [e2]
  omega

set_option maxHeartbeats 1000000 in
theorem factor_any (u : Nat) (hu : u < 18446744073709551616) (ho : u % 2 = 1) : ∃ f : Nat, f < 18446744073709551616 ∧ u * f % 18446744073709551616 = 18446744073709551615 ∧
    ∀ w : World, Calls Try.prog 31 #[.int .u64 (u : Int)] w fun e w' => e = .returned (.int .u64 (f : Int)) ∧ w' = w := by
  have h0 : Hid (((u : Int) * (u : Int) - 1) % 2 ^ 3 = 0) := odd_square u ho
  obtain ⟨p1, q1, y1, a1, b1, c1, l1, h1⟩ := factor_round u u 3 6 (by omega) h0 (by omega) (by omega)
  obtain ⟨p2, q2, y2, a2, b2, c2, l2, h2⟩ := factor_round u y1 6 12 (by omega) h1 (by omega) (by omega)
  obtain ⟨p3, q3, y3, a3, b3, c3, l3, h3⟩ := factor_round u y2 12 24 (by omega) h2 (by omega) (by omega)
  obtain ⟨p4, q4, y4, a4, b4, c4, l4, h4⟩ := factor_round u y3 24 48 (by omega) h3 (by omega) (by omega)
  obtain ⟨p5, q5, y5, a5, b5, c5, l5, h5⟩ := factor_round u y4 48 64 (by omega) h4 (by omega) (by omega)
  obtain ⟨f, hf, lf⟩ := wrap_nat (-(y5 : Int))
  refine ⟨f, lf, ?_, fun w => ?_⟩
  · have hz := h5.out
    rw [show (2 : Int) ^ 64 = 18446744073709551616 by decide] at hz
    have e1 : (f : Int) = 18446744073709551616 - (y5 : Int) ∨ ((f : Int) = 0 ∧ y5 = 0) := by
      rw [IntKind.wrap_u64] at hf
      omega
    rcases e1 with e1 | ⟨e1, e2⟩
    · have e3 : ((u * f : Nat) : Int) = 18446744073709551616 * (u : Int) - (u : Int) * (y5 : Int) := by
        rw [Int.natCast_mul, e1, Int.mul_sub, Int.mul_comm (u : Int) 18446744073709551616]
      generalize (u : Int) * (y5 : Int) = z at *
      omega
    · rw [e2] at hz
      simp at hz
  · clear h0 h1 h2 h3 h4 h5
    go_enter Try.func31, Try.ntmps31
    go_wp2
    refine wp_unr 6 ?_
    refine unr_succ ?_
    go_wp2
    refine unr_succ ?_
    go_wp2
    refine unr_succ ?_
    go_wp2
    refine unr_succ ?_
    go_wp2
    refine unr_succ ?_
    go_wp2
    refine unr_succ ?_
    go_wp2
    go_ret
    exact ⟨rfl, rfl⟩

end Go.Proofs.Ytkaekgjpjnnjpaa
