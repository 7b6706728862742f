/-
  The contracts of limb's Bit and Select: for numbers below 2^256 they return the document's answer and change no memory that was there. Conditions: as each theorem says.
-/
import Derived.Test.YtlpmbhneffdcfaaDoorLimbBits
namespace Go.Proofs.YtlpmbhneffdcfaaDoor
open Go.RowKit
set_option linter.unusedVariables false

attribute [local go_sem] idx4_0 idx4_1 idx4_2 idx4_3

theorem and1 (a : Nat) (ha : a < 18446744073709551616) : bits .and .u64 (a : Int) 1 = ((a % 2 : Nat) : Int) := by
  have := bits_and_u64_nat a 1 ha (by omega)
  rw [Nat.and_one_is_mod] at this
  exact this
theorem toNat_wd (a : Int) (h : Wd a) : (((BitVec.ofInt 64 a).toNat : Nat) : Int) = a := by
  unfold Wd at h
  obtain ⟨n, rfl⟩ := Int.eq_ofNat_of_zero_le h.1
  rw [BitVec.ofInt_natCast, BitVec.toNat_ofNat, Nat.mod_eq_of_lt (by omega)]
theorem wrap_wd (a : Int) (h : Wd a) : IntKind.u64.wrap a = a := by
  unfold Wd at h
  rw [IntKind.wrap_u64]; omega
theorem and_ones (a : Int) (h : Wd a) : bits .and .u64 a 18446744073709551615 = a := by
  show IntKind.u64.wrap ((BitVec.ofInt 64 a &&& BitVec.ofInt 64 18446744073709551615).toNat : Int) = a
  rw [show BitVec.ofInt 64 18446744073709551615 = BitVec.allOnes 64 by decide, BitVec.and_allOnes, toNat_wd a h, wrap_wd a h]
theorem and_zero' (a : Int) : bits .and .u64 a 0 = 0 := by
  show IntKind.u64.wrap ((BitVec.ofInt 64 a &&& BitVec.ofInt 64 0).toNat : Int) = 0
  rw [show BitVec.ofInt 64 0 = 0#64 by decide, BitVec.and_zero]; decide
theorem andNot_ones (a : Int) : bits .andNot .u64 a 18446744073709551615 = 0 := by
  show IntKind.u64.wrap ((BitVec.ofInt 64 a &&& ~~~ BitVec.ofInt 64 18446744073709551615).toNat : Int) = 0
  rw [show ~~~ BitVec.ofInt 64 18446744073709551615 = 0#64 by decide, BitVec.and_zero]; decide
theorem andNot_zero (a : Int) (h : Wd a) : bits .andNot .u64 a 0 = a := by
  show IntKind.u64.wrap ((BitVec.ofInt 64 a &&& ~~~ BitVec.ofInt 64 0).toNat : Int) = a
  rw [show ~~~ BitVec.ofInt 64 0 = BitVec.allOnes 64 by decide, BitVec.and_allOnes, toNat_wd a h, wrap_wd a h]
theorem or_zero' (a : Int) (h : Wd a) : bits .or .u64 a 0 = a := by
  show IntKind.u64.wrap ((BitVec.ofInt 64 a ||| BitVec.ofInt 64 0).toNat : Int) = a
  rw [show BitVec.ofInt 64 0 = 0#64 by decide, BitVec.or_zero, toNat_wd a h, wrap_wd a h]
theorem zero_or' (a : Int) (h : Wd a) : bits .or .u64 0 a = a := by
  show IntKind.u64.wrap ((BitVec.ofInt 64 0 ||| BitVec.ofInt 64 a).toNat : Int) = a
  rw [show BitVec.ofInt 64 0 = 0#64 by decide, BitVec.zero_or, toNat_wd a h, wrap_wd a h]

set_option maxHeartbeats 1000000 in
theorem select_any (c : Int) (x y z : Nat) (hx : x < M4) (hy : y < M4) (hc : (bits .and .u64 c 1 = 1 ∧ z = x) ∨ (bits .and .u64 c 1 = 0 ∧ z = y)) (w : World) :
    Calls Tryd.prog 40 #[.int .u64 c, four x, four y] w fun e w' => e = .returned (four z) ∧ Below w.heap.size w w' := by
  obtain ⟨a0, a1, a2, a3, ha0, ha1, ha2, ha3, ea, hxa⟩ := four_open x hx
  obtain ⟨b0, b1, b2, b3, hb0, hb1, hb2, hb3, eb, hxb⟩ := four_open y hy
  clear hxa hxb
  rcases hc with ⟨hc, rfl⟩ | ⟨hc, rfl⟩
  · rw [ea, eb]
    clear ea eb
    have f0 := and_ones a0 ha0
    have f1 := and_ones a1 ha1
    have f2 := and_ones a2 ha2
    have f3 := and_ones a3 ha3
    have g0 := andNot_ones b0
    have g1 := andNot_ones b1
    have g2 := andNot_ones b2
    have g3 := andNot_ones b3
    have k0 := or_zero' a0 ha0
    have k1 := or_zero' a1 ha1
    have k2 := or_zero' a2 ha2
    have k3 := or_zero' a3 ha3
    have wm : IntKind.u64.wrap (-1) = 18446744073709551615 := by decide
    go_enter Tryd.func40, Tryd.ntmps40
    go_wp2
    refine wp_unr 5 ?_
    refine unr_succ ?_
    go_wp2
    refine unr_succ ?_
    go_wp2
    refine unr_succ ?_
    go_wp2
    refine unr_succ ?_
    go_wp2
    refine unr_succ ?_
    go_wp2
    refine bodyPost_ret (v := .agg #[.int .u64 a0, .int .u64 a1, .int .u64 a2, .int .u64 a3]) (by simp [results, Tryd.results40, go_sem]) rfl ⟨rfl, ?_⟩
    repeat (first | exact Below.refl _ _ | refine Below.drew ?_ | refine Below.alloc ?_ (by simp <;> omega) _)
  · rw [ea, eb]
    clear ea eb
    have f0 := and_zero' a0
    have f1 := and_zero' a1
    have f2 := and_zero' a2
    have f3 := and_zero' a3
    have g0 := andNot_zero b0 hb0
    have g1 := andNot_zero b1 hb1
    have g2 := andNot_zero b2 hb2
    have g3 := andNot_zero b3 hb3
    have k0 := zero_or' b0 hb0
    have k1 := zero_or' b1 hb1
    have k2 := zero_or' b2 hb2
    have k3 := zero_or' b3 hb3
    have wm : IntKind.u64.wrap (-1) = 18446744073709551615 := by decide
    go_enter Tryd.func40, Tryd.ntmps40
    go_wp2
    refine wp_unr 5 ?_
    refine unr_succ ?_
    go_wp2
    refine unr_succ ?_
    go_wp2
    refine unr_succ ?_
    go_wp2
    refine unr_succ ?_
    go_wp2
    refine unr_succ ?_
    go_wp2
    refine bodyPost_ret (v := .agg #[.int .u64 b0, .int .u64 b1, .int .u64 b2, .int .u64 b3]) (by simp [results, Tryd.results40, go_sem]) rfl ⟨rfl, ?_⟩
    repeat (first | exact Below.refl _ _ | refine Below.drew ?_ | refine Below.alloc ?_ (by simp <;> omega) _)

end Go.Proofs.YtlpmbhneffdcfaaDoor
