/-
  The contracts of limb's Bit and Select: for numbers below 2^256 they return the document's answer and change no memory that was there. Conditions: as each theorem says.
-/
import Derived.Test.YtkaekgjpjnnjpaaLimbBits
namespace Go.Proofs.Ytkaekgjpjnnjpaa
open Go.RowKit
set_option linter.unusedVariables false

attribute [local go_sem] idx4_0 idx4_1 idx4_2 idx4_3

theorem and1 (a : Nat) (ha : a < 18446744073709551616) : bits .and .u64 (a : Int) 1 = ((a % 2 : Nat) : Int) := by
  have := bits_and_u64_nat a 1 ha (by omega)
  rw [Nat.and_one_is_mod] at this
  exact this
theorem toNat_wd (a : Int) (h : Wd a) : (((BitVec.ofInt 64 a).toNat : Nat) : Int) = a := by
  unfold Wd at h
  obtain ⟨n, rfl⟩ := Int.eq_ofNat_of_zero_le h.1
  rw [BitVec.ofInt_natCast, BitVec.toNat_ofNat, Nat.mod_eq_of_lt (by omega)]
theorem wrap_wd (a : Int) (h : Wd a) : IntKind.u64.wrap a = a := by
  unfold Wd at h
  rw [IntKind.wrap_u64]; omega
theorem and_ones (a : Int) (h : Wd a) : bits .and .u64 a 18446744073709551615 = a := by
  show IntKind.u64.wrap ((BitVec.ofInt 64 a &&& BitVec.ofInt 64 18446744073709551615).toNat : Int) = a
  rw [show BitVec.ofInt 64 18446744073709551615 = BitVec.allOnes 64 by decide, BitVec.and_allOnes, toNat_wd a h, wrap_wd a h]
theorem and_zero' (a : Int) : bits .and .u64 a 0 = 0 := by
  show IntKind.u64.wrap ((BitVec.ofInt 64 a &&& BitVec.ofInt 64 0).toNat : Int) = 0
  rw [show BitVec.ofInt 64 0 = 0#64 by decide, BitVec.and_zero]; decide
theorem andNot_ones (a : Int) : bits .andNot .u64 a 18446744073709551615 = 0 := by
  show IntKind.u64.wrap ((BitVec.ofInt 64 a &&& ~~~ BitVec.ofInt 64 18446744073709551615).toNat : Int) = 0
  rw [show ~~~ BitVec.ofInt 64 18446744073709551615 = 0#64 by decide, BitVec.and_zero]; decide
theorem andNot_zero (a : Int) (h : Wd a) : bits .andNot .u64 a 0 = a := by
  show IntKind.u64.wrap ((BitVec.ofInt 64 a &&& ~~~ BitVec.ofInt 64 0).toNat : Int) = a
  rw [show ~~~ BitVec.ofInt 64 0 = BitVec.allOnes 64 by decide, BitVec.and_allOnes, toNat_wd a h, wrap_wd a h]
theorem or_zero' (a : Int) (h : Wd a) : bits .or .u64 a 0 = a := by
  show IntKind.u64.wrap ((BitVec.ofInt 64 a ||| BitVec.ofInt 64 0).toNat : Int) = a
  rw [show BitVec.ofInt 64 0 = 0#64 by decide, BitVec.or_zero, toNat_wd a h, wrap_wd a h]
theorem zero_or' (a : Int) (h : Wd a) : bits .or .u64 0 a = a := by
  show IntKind.u64.wrap ((BitVec.ofInt 64 0 ||| BitVec.ofInt 64 a).toNat : Int) = a
  rw [show BitVec.ofInt 64 0 = 0#64 by decide, BitVec.zero_or, toNat_wd a h, wrap_wd a h]

theorem bit_neg (x : Nat) (n : Int) (hx : x < M4) (h1 : n < 0) (w : World) :
    Calls Try.prog 64 #[four x, .int .i64 n] w fun e w' => e = .returned (.int .u64 0) ∧ Below w.heap.size w w' := by
  obtain ⟨a0, a1, a2, a3, ha0, ha1, ha2, ha3, ea, hxa⟩ := four_open x hx
  rw [ea]
  clear hxa ea
  go_enter Try.func64, Try.ntmps64
  go_wp2
  go_ret
  exact ⟨rfl, (Below.refl _ _).alloc (Nat.le_refl _) _⟩

set_option maxHeartbeats 1000000 in
theorem bit_raw (x n : Nat) (hx : x < M4) (h1 : n ≤ 9223372036854775807) (w : World) :
    Calls Try.prog 64 #[four x, .int .i64 (n : Int)] w fun e w' => e = .returned (.int .u64 ((wN x ((n / 64 : Nat) : Int) / 2 ^ (n % 64) % 2 : Nat) : Int)) ∧ Below w.heap.size w w' := by
  obtain ⟨a0, a1, a2, a3, ha0, ha1, ha2, ha3, ea, hxa⟩ := four_open x hx
  have word := fun i w => word_any x i hx w
  rw [ea] at word ⊢
  have Hw := (show Hid _ from word)
  clear word hxa ea
  obtain ⟨q, hq⟩ : ∃ q : Nat, (n : Int) / 64 = (q : Int) := ⟨n / 64, by omega⟩
  obtain ⟨r, hr⟩ : ∃ r : Nat, (n : Int) % 64 = (r : Int) := ⟨n % 64, by omega⟩
  have eq : n / 64 = q := by omega
  have er : n % 64 = r := by omega
  rw [eq, er]
  have h0 : 0 ≤ (n : Int) := by omega
  have hn : (n : Int) ≤ 9223372036854775807 := by omega
  have hr1 : (r : Int) ≤ 63 := by omega
  clear eq er
  go_enter Try.func64, Try.ntmps64
  go_wp2_with fail
  refine (Hw.out _ _).mono ?_
  rintro e w' ⟨rfl, o1, rfl⟩
  go_wp2
  go_ret
  have hlt : wN x q / 2 ^ r < 18446744073709551616 := Nat.lt_of_le_of_lt (Nat.div_le_self _ _) (wN_lt x q)
  have e1 : wordAt x q / 2 ^ r = ((wN x q / 2 ^ r : Nat) : Int) := by rw [wordAt_wN]; simp
  refine ⟨ret_int (by rw [e1, and1 _ hlt]), ?_⟩
  exact ((Below.refl _ _).alloc (Nat.le_refl _) _).alloc (by simp) _

set_option maxHeartbeats 1000000 in
theorem select_any (c : Int) (x y z : Nat) (hx : x < M4) (hy : y < M4) (hc : (bits .and .u64 c 1 = 1 ∧ z = x) ∨ (bits .and .u64 c 1 = 0 ∧ z = y)) (w : World) :
    Calls Try.prog 62 #[.int .u64 c, four x, four y] w fun e w' => e = .returned (four z) ∧ Below w.heap.size w w' := by
  obtain ⟨a0, a1, a2, a3, ha0, ha1, ha2, ha3, ea, hxa⟩ := four_open x hx
  obtain ⟨b0, b1, b2, b3, hb0, hb1, hb2, hb3, eb, hxb⟩ := four_open y hy
  clear hxa hxb
  rcases hc with ⟨hc, rfl⟩ | ⟨hc, rfl⟩
  · rw [ea, eb]
    clear ea eb
    have f0 := and_ones a0 ha0
    have f1 := and_ones a1 ha1
    have f2 := and_ones a2 ha2
    have f3 := and_ones a3 ha3
    have g0 := andNot_ones b0
    have g1 := andNot_ones b1
    have g2 := andNot_ones b2
    have g3 := andNot_ones b3
    have k0 := or_zero' a0 ha0
    have k1 := or_zero' a1 ha1
    have k2 := or_zero' a2 ha2
    have k3 := or_zero' a3 ha3
    have wm : IntKind.u64.wrap (-1) = 18446744073709551615 := by decide
    go_enter Try.func62, Try.ntmps62
    go_wp2
    refine wp_unr 5 ?_
    refine unr_succ ?_
    go_wp2
    refine unr_succ ?_
    go_wp2
    refine unr_succ ?_
    go_wp2
    refine unr_succ ?_
    go_wp2
    refine unr_succ ?_
    go_wp2
    refine bodyPost_ret (v := .agg #[.int .u64 a0, .int .u64 a1, .int .u64 a2, .int .u64 a3]) (by simp [results, Try.results62, go_sem]) rfl ⟨rfl, ?_⟩
    repeat (first | exact Below.refl _ _ | refine Below.drew ?_ | refine Below.alloc ?_ (by simp <;> omega) _)
  · rw [ea, eb]
    clear ea eb
    have f0 := and_zero' a0
    have f1 := and_zero' a1
    have f2 := and_zero' a2
    have f3 := and_zero' a3
    have g0 := andNot_zero b0 hb0
    have g1 := andNot_zero b1 hb1
    have g2 := andNot_zero b2 hb2
    have g3 := andNot_zero b3 hb3
    have k0 := zero_or' b0 hb0
    have k1 := zero_or' b1 hb1
    have k2 := zero_or' b2 hb2
    have k3 := zero_or' b3 hb3
    have wm : IntKind.u64.wrap (-1) = 18446744073709551615 := by decide
    go_enter Try.func62, Try.ntmps62
    go_wp2
    refine wp_unr 5 ?_
    refine unr_succ ?_
    go_wp2
    refine unr_succ ?_
    go_wp2
    refine unr_succ ?_
    go_wp2
    refine unr_succ ?_
    go_wp2
    refine unr_succ ?_
    go_wp2
    refine bodyPost_ret (v := .agg #[.int .u64 b0, .int .u64 b1, .int .u64 b2, .int .u64 b3]) (by simp [results, Try.results62, go_sem]) rfl ⟨rfl, ?_⟩
    repeat (first | exact Below.refl _ _ | refine Below.drew ?_ | refine Below.alloc ?_ (by simp <;> omega) _)

end Go.Proofs.Ytkaekgjpjnnjpaa
