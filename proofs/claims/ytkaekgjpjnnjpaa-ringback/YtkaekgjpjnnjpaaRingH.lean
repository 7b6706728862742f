/-
  The contract of ring's numeralOfOne: for a modulus in memory it returns 2^256 modulo m, and changes no memory that was there. Conditions: as the theorem says.
-/
import Derived.Test.YtkaekgjpjnnjpaaRingE
import Derived.Test.YtkaekgjpjnnjpaaLimbShift
namespace Go.Proofs.Ytkaekgjpjnnjpaa
open Go.RowKit
set_option linter.unusedVariables false

theorem top_bit (m : Nat) (ho : m % 2 = 1) (hm : 1 < m) (hM : m < M4) : ∃ t : Nat, nbits m = t + 1 ∧ t < 256 ∧ 2 ^ t < m := by
  have h256 : nbits m ≤ 256 := nbits_le m 256 (by rw [← M4_pow]; exact hM)
  refine ⟨m.log2, by unfold nbits; rw [if_neg (by omega)], ?_, ?_⟩
  · unfold nbits at h256; rw [if_neg (by omega)] at h256; omega
  · have h1 : 2 ^ m.log2 ≤ m := (Nat.le_log2 (by omega)).1 (Nat.le_refl _)
    rcases Nat.lt_or_ge (2 ^ m.log2) m with h | h
    · exact h
    · have e : 2 ^ m.log2 = m := Nat.le_antisymm h1 h
      cases hl : m.log2 with
      | zero => rw [hl] at e; simp at e; omega
      | succ k => rw [hl, Nat.pow_succ] at e; omega

/-- A variable of four words that holds x, and an empty one at the base. -/
def Pw (W wr : World) (g x : Nat) : Prop := x < M4 ∧ ∃ v0 v1 v2 v3 : Int, four x = .agg #[.int .u64 v0, .int .u64 v1, .int .u64 v2, .int .u64 v3] ∧ Blk wr g v0 v1 v2 v3 ∧ Blk wr W.heap.size 0 0 0 0 ∧ W.heap.size < g ∧ Below W.heap.size W wr

theorem twice_mod (m t i : Nat) : (2 ^ (t + i) % m + 2 ^ (t + i) % m) % m = 2 ^ (t + (i + 1)) % m := by
  rw [← Nat.add_mod, ← Nat.add_assoc t i 1, Nat.pow_succ]; congr 1; omega

set_option maxHeartbeats 1000000 in
theorem one_any (W : World) (b m : Nat) (hM : Md W b m) :
    Calls Try.prog 32 #[.pointer (some ⟨b, 0, none⟩)] W fun e w' => e = .returned (four (M4 % m)) ∧ Below W.heap.size W w' := by
  have HM : Hid (Md W b m) := hM
  obtain ⟨h1, h2, h3, m0, m1, m2, m3, f, k0, k1, k2, k3, k4, k5, k6, k7, k8⟩ := hM
  obtain ⟨t, ht, ht2, ht3⟩ := top_bit m h1 h2 h3
  have hpM : 2 ^ t < M4 := Nat.lt_trans ht3 h3
  have hT : Hid (2 ^ t % m = 2 ^ t) := Nat.mod_eq_of_lt ht3
  obtain ⟨p, hp⟩ : ∃ p, 2 ^ t = p := ⟨_, rfl⟩
  rw [hp] at hpM
  obtain ⟨p0, p1, p2, p3, -, -, -, -, ep, -⟩ := four_open p hpM
  have hzM : M4 % m < M4 := Nat.lt_trans (Nat.mod_lt _ (by omega)) h3
  obtain ⟨z0, z1, z2, z3, -, -, -, -, ez, -⟩ := four_open _ hzM
  have EZ : Hid (four (M4 % m) = .agg #[.int .u64 z0, .int .u64 z1, .int .u64 z2, .int .u64 z3]) := ez
  rw [ez]
  clear ez hzM
  have cB : Hid (∀ w, Calls Try.prog 50 #[.agg #[.int .u64 m0, .int .u64 m1, .int .u64 m2, .int .u64 m3]] w fun e w' => e = .returned (.int .i64 ((t : Int) + 1)) ∧ Below w.heap.size w w') := by
    intro w; have := bits_any m h3 w; rwa [ht, k5, show ((t + 1 : Nat) : Int) = (t : Int) + 1 by omega] at this
  have cL : Hid (∀ w, Calls Try.prog 51 #[.agg #[.int .u64 1, .int .u64 0, .int .u64 0, .int .u64 0], .int .i64 (t : Int)] w fun e w' => e = .returned (.agg #[.int .u64 p0, .int .u64 p1, .int .u64 p2, .int .u64 p3]) ∧ Below w.heap.size w w') := by
    intro w; have := left_any 1 t one_lt_M4 (by omega) w; rwa [Nat.one_mul, hp, Nat.mod_eq_of_lt hpM, ep, four_one] at this
  have HP : Hid (p < M4 ∧ four p = .agg #[.int .u64 p0, .int .u64 p1, .int .u64 p2, .int .u64 p3] ∧ 2 ^ (t + 0) % m = p) := ⟨hpM, ep, by rw [Nat.add_zero, hT.out, hp]⟩
  clear hT hp ep hpM ht3 ht k5 k6 k7 k0 k1 k2 k3 k4
  obtain ⟨l, c0, c1, c2, c3, c4⟩ := k8
  have l1 : b < W.heap.size + 1 := by omega
  have n0 : ¬ b = W.heap.size := by omega
  have hz1 : 256 - (t : Int) = ((256 - t : Nat) : Int) := by omega
  have hz2 : (t : Int) ≤ 255 := by omega
  go_enter Try.func32, Try.ntmps32
  go_wp2_with fail
  refine (cB.out _).mono ?_
  rintro e w1 ⟨rfl, g1⟩
  have B1 : Hid (Below W.heap.size W w1) := Below.trans (by (repeat (first | exact Below.refl _ _ | refine Below.drew ?_ | refine Below.alloc ?_ (by first | omega | (simp <;> omega)) _ | refine Below.setCell ?_ (by first | omega | (simp <;> omega)) _)); done) (g1.mono (by simp))
  have Z1 : Hid (Blk w1 W.heap.size 0 0 0 0) := Blk.below (by (repeat (first | exact Blk.new_at _ _ _ _ _ _ _ (by simp) | refine Blk.drew ?_ | refine Blk.alloc ?_ _)); done) g1
  clear g1 l c0 c1 c2 c3 c4 l1 n0
  go_wp2_with fail
  refine (cL.out _).mono ?_
  rintro e w2 ⟨rfl, g2⟩
  have B2 : Hid (Below W.heap.size W w2) := B1.out.trans (g2.mono B1.out.size)
  have Z2 : Hid (Blk w2 W.heap.size 0 0 0 0) := Z1.out.below g2
  clear g2 Z1 B1
  go_wp2_with fail
  go_loopw [16] (fun y wr => ∃ i : Nat, y = .int .i64 (i : Int) ∧ i ≤ 256 - t ∧ Hid (Pw W wr w2.heap.size (2 ^ (t + i) % m))) (fun y _ => 256 - (intOf y).toNat)
  case atStart =>
    refine ⟨0, rfl, by omega, ?_⟩
    rw [HP.out.2.2]
    exact ⟨HP.out.1, p0, p1, p2, p3, HP.out.2.1, Blk.new w2 p0 p1 p2 p3 _, Z2.out.alloc _, Z2.out.lt, B2.out.alloc B2.out.size _⟩
  case round =>
    obtain ⟨i, rfl, hi, H⟩ := hrel
    by_cases hlt : i < 256 - t
    · have hlt' : (i : Int) < 256 - (t : Int) := by omega
      obtain ⟨hxM, v0, v1, v2, v3, ev, bV, bZ, hg, bB⟩ := H.out
      have hyM : 2 ^ (t + (i + 1)) % m < M4 := Nat.lt_trans (Nat.mod_lt _ (by omega)) h3
      obtain ⟨y0, y1, y2, y3, -, -, -, -, ey, -⟩ := four_open _ hyM
      have cA : Hid (Calls Try.prog 33 #[.pointer (some ⟨b, 0, none⟩), .agg #[.int .u64 v0, .int .u64 v1, .int .u64 v2, .int .u64 v3], .agg #[.int .u64 v0, .int .u64 v1, .int .u64 v2, .int .u64 v3]] wr fun e w' => e = .returned (.agg #[.int .u64 y0, .int .u64 y1, .int .u64 y2, .int .u64 y3]) ∧ Below wr.heap.size wr w') := by
        have := addR_ring wr b m (2 ^ (t + i) % m) (2 ^ (t + i) % m) (HM.out.below bB) (Nat.mod_lt _ (by omega)) (Nat.mod_lt _ (by omega))
        rwa [twice_mod, ev, ey] at this
      have NX : Hid (∀ w', Below wr.heap.size wr w' → Pw W ((((w'.setCell ⟨w2.heap.size, 0, none⟩ (.int .u64 y0)).setCell ⟨w2.heap.size, 1, none⟩ (.int .u64 y1)).setCell ⟨w2.heap.size, 2, none⟩ (.int .u64 y2)).setCell ⟨w2.heap.size, 3, none⟩ (.int .u64 y3)) w2.heap.size (2 ^ (t + (i + 1)) % m)) := by
        intro w' g
        have hs := bB.size
        refine ⟨hyM, y0, y1, y2, y3, ey, (bV.below g).set _ _ _ _, ((((bZ.below g).other _ _ _ (by omega)).other _ _ _ (by omega)).other _ _ _ (by omega)).other _ _ _ (by omega), hg, ?_⟩
        have := bB.trans (g.mono hs)
        exact (((this.setCell (by simp; omega) _).setCell (by simp; omega) _).setCell (by simp; omega) _).setCell (by simp; omega) _
      have BV : Hid (Blk wr w2.heap.size v0 v1 v2 v3) := bV
      obtain ⟨lv, a0, a1, a2, a3, af⟩ := bV
      clear ev ey hxM bZ hg bB H HP
      go_wp2_with fail
      refine cA.out.mono ?_
      rintro e w' ⟨rfl, g⟩
      obtain ⟨lv', a0', a1', a2', a3', af'⟩ := BV.out.below g
      have NX' := NX.out w' g
      have NX2 : Hid (Pw W ((((w'.setCell ⟨w2.heap.size, 0, none⟩ (.int .u64 y0)).setCell ⟨w2.heap.size, 1, none⟩ (.int .u64 y1)).setCell ⟨w2.heap.size, 2, none⟩ (.int .u64 y2)).setCell ⟨w2.heap.size, 3, none⟩ (.int .u64 y3)) w2.heap.size (2 ^ (t + (i + 1)) % m)) := NX'
      clear NX' NX g
      go_wp2_with fail
      go_roundw
      case rel => exact ⟨i + 1, by go_num, by omega, NX2⟩
      case measure => simp [intOf]; omega
    · have hlt' : ¬ (i : Int) < 256 - (t : Int) := by omega
      have e : t + i = 256 := by omega
      obtain ⟨hxM, v0, v1, v2, v3, ev, bV, bZ, hg, bB⟩ := H.out
      rw [e, ← M4_pow, EZ.out] at ev
      simp only [Value.agg.injEq, Array.mk.injEq, List.cons.injEq, Value.int.injEq, true_and, and_true] at ev
      obtain ⟨rfl, rfl, rfl, rfl⟩ := ev
      have BB : Hid (Below W.heap.size W wr) := bB
      obtain ⟨lv, a0, a1, a2, a3, af⟩ := bV
      obtain ⟨i0, i1, i2, i3, i4, i5⟩ := bZ
      clear e hxM H HP bB
      go_wp2_with fail
      refine bodyPost_ret (v := .agg #[.int .u64 z0, .int .u64 z1, .int .u64 z2, .int .u64 z3]) (by simp [results, Try.results32, go_sem, i1, i2, i3, i4]) rfl ⟨rfl, ?_⟩
      have gs := BB.out.size
      repeat (first | exact BB.out | refine Below.setCell ?_ (by first | omega | (simp <;> omega)) _)

end Go.Proofs.Ytkaekgjpjnnjpaa
