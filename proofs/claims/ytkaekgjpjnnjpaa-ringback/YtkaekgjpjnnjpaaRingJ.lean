/-
  The contract of ring's New: for an odd number above 2 it returns a ring, else none and ErrArg; no memory that was there is changed. Conditions: as each theorem says.
-/
import Derived.Test.YtkaekgjpjnnjpaaRingI
namespace Go.Proofs.Ytkaekgjpjnnjpaa
open Go.RowKit
set_option linter.unusedVariables false

theorem four_ne_one (m : Nat) (hm : m < M4) (h : m ≠ 1) (m0 m1 m2 m3 : Int) (e : four m = .agg #[.int .u64 m0, .int .u64 m1, .int .u64 m2, .int .u64 m3]) : ¬ (m0 = 1 ∧ m1 = 0 ∧ m2 = 0 ∧ m3 = 0) := by
  rintro ⟨rfl, rfl, rfl, rfl⟩
  rw [← four_one] at e
  exact h (four_inj hm one_lt_M4 e)
theorem low_bit (m : Nat) (hm : m < M4) (m0 m1 m2 m3 : Int) (h0 : Wd m0) (e : (m : Int) = m0 + 18446744073709551616 * m1 + 340282366920938463463374607431768211456 * m2 + 6277101735386680763835789423207666416102355444464034512896 * m3) : bits .and .u64 m0 1 = ((m % 2 : Nat) : Int) := by
  obtain ⟨k, rfl⟩ := Int.eq_ofNat_of_zero_le h0.1
  rw [and1 k (by have := h0.2; omega)]
  omega

set_option maxHeartbeats 1000000 in
theorem new_even (W : World) (m : Nat) (hm : m < M4) (h : m % 2 = 0) :
    Calls Try.prog 8 #[four m] W fun e w' => e = .returned (.tuple #[.pointer none, .int .i64 2]) ∧ Below W.heap.size W w' := by
  obtain ⟨m0, m1, m2, m3, h0, -, -, -, em, hv⟩ := four_open m hm
  have hb := low_bit m hm m0 m1 m2 m3 h0 hv
  rw [h] at hb
  replace hb : bits .and .u64 m0 1 = 0 := hb
  rw [em]
  clear em hv
  go_enter Try.func8, Try.ntmps8
  go_wp2_with fail
  go_ret2
  exact ⟨rfl, (by (repeat (first | exact Below.refl _ _ | refine Below.drew ?_ | refine Below.alloc ?_ (by first | omega | (simp <;> omega)) _ | refine Below.setCell ?_ (by first | omega | (simp <;> omega)) _)); done)⟩
set_option maxHeartbeats 1000000 in
theorem new_one (W : World) :
    Calls Try.prog 8 #[four 1] W fun e w' => e = .returned (.tuple #[.pointer none, .int .i64 2]) ∧ Below W.heap.size W w' := by
  have hb : bits .and .u64 1 1 = 1 := and1 1 (by omega)
  have e4 := eql4
  rw [four_one]
  go_enter Try.func8, Try.ntmps8
  go_wp2_with fail
  go_ret2
  exact ⟨rfl, (by (repeat (first | exact Below.refl _ _ | refine Below.drew ?_ | refine Below.alloc ?_ (by first | omega | (simp <;> omega)) _ | refine Below.setCell ?_ (by first | omega | (simp <;> omega)) _)); done)⟩
theorem new_none (W : World) (m : Nat) (hm : m < M4) (h : m % 2 = 0 ∨ m = 1) :
    Calls Try.prog 8 #[four m] W fun e w' => e = .returned (.tuple #[.pointer none, .int .i64 2]) ∧ Below W.heap.size W w' := by
  rcases h with h | rfl
  · exact new_even W m hm h
  · exact new_one W

/-- A ring whose square is still being made. -/
def Rs (W wr : World) (m0 m1 m2 m3 f o0 o1 o2 o3 : Int) (x : Nat) : Prop := x < M4 ∧ ∃ s0 s1 s2 s3 : Int, four x = .agg #[.int .u64 s0, .int .u64 s1, .int .u64 s2, .int .u64 s3] ∧ Rw wr (W.heap.size + 1) m0 m1 m2 m3 f o0 o1 o2 o3 s0 s1 s2 s3 ∧ Below W.heap.size W wr

theorem square_next (m i : Nat) (ho : m % 2 = 1) (hm : 1 < m) : red m ((2 ^ 2 ^ i * M4 % m) * (2 ^ 2 ^ i * M4 % m)) = 2 ^ 2 ^ (i + 1) * M4 % m := by
  rw [red_mul_left, red_mul_right, ← Nat.mul_assoc, red_up m _ ho hm]
  congr 1
  rw [Nat.mul_right_comm, ← Nat.pow_add, Nat.pow_succ 2 i, Nat.mul_two]
theorem square_first (m : Nat) : (M4 % m + M4 % m) % m = 2 ^ 2 ^ 0 * M4 % m := by
  rw [← Nat.add_mod]; congr 1

set_option maxHeartbeats 4000000 in
set_option maxRecDepth 100000 in
theorem new_any (W : World) (m : Nat) (hm : m < M4) (h1 : m % 2 = 1) (h2 : 1 < m) :
    Calls Try.prog 8 #[four m] W fun e w' => e = .returned (.tuple #[.pointer (some ⟨W.heap.size + 1, 0, none⟩), .int .i64 0]) ∧ Rg w' (W.heap.size + 1) m ∧ Below W.heap.size W w' := by
  obtain ⟨m0, m1, m2, m3, h0, g1, g2, g3, em, hv⟩ := four_open m hm
  have hb := low_bit m hm m0 m1 m2 m3 h0 hv
  rw [h1] at hb
  replace hb : bits .and .u64 m0 1 = 1 := hb
  have hne := four_ne_one m hm (by omega) m0 m1 m2 m3 em
  have e4 := eql_diff4 m0 m1 m2 m3 1 0 0 0 hne
  obtain ⟨f, hf, hf2, cF⟩ : ∃ f : Nat, f < 18446744073709551616 ∧ m0.toNat * f % 18446744073709551616 = 18446744073709551615 ∧ Hid (∀ w : World, Calls Try.prog 31 #[.int .u64 m0] w fun e w' => e = .returned (.int .u64 (f : Int)) ∧ w' = w) := by
    obtain ⟨k, rfl⟩ := Int.eq_ofNat_of_zero_le h0.1
    exact factor_any k (by have := h0.2; omega) (by omega)
  have MD : Hid (∀ (V : World) (o0 o1 o2 o3 s0 s1 s2 s3 : Int), Rw V (W.heap.size + 1) m0 m1 m2 m3 (f : Int) o0 o1 o2 o3 s0 s1 s2 s3 → Md V (W.heap.size + 1) m) := fun V o0 o1 o2 o3 s0 s1 s2 s3 h => ⟨h1, h2, hm, m0, m1, m2, m3, f, h0, g1, g2, g3, hf, em, hv, hf2, h.five⟩
  have hoM : M4 % m < M4 := Nat.lt_trans (Nat.mod_lt _ (by omega)) hm
  obtain ⟨o0, o1, o2, o3, -, -, -, -, eo, -⟩ := four_open _ hoM
  have hxM : 2 ^ 2 ^ 0 * M4 % m < M4 := Nat.lt_trans (Nat.mod_lt _ (by omega)) hm
  obtain ⟨x0, x1, x2, x3, -, -, -, -, ex, -⟩ := four_open _ hxM
  have EO : Hid (M4 % m < M4 ∧ four (M4 % m) = .agg #[.int .u64 o0, .int .u64 o1, .int .u64 o2, .int .u64 o3]) := ⟨hoM, eo⟩
  have EX : Hid (2 ^ 2 ^ 0 * M4 % m < M4 ∧ four (2 ^ 2 ^ 0 * M4 % m) = .agg #[.int .u64 x0, .int .u64 x1, .int .u64 x2, .int .u64 x3]) := ⟨hxM, ex⟩
  rw [em]
  have HM : Hid (m < M4) := hm
  clear em hv hf hf2 hxM hoM hne g1 g2 g3 h0 hm eo ex
  go_enter Try.func8, Try.ntmps8
  go_wp2_with fail
  go_cut [4] (fun s V => s = .pointer (some ⟨W.heap.size + 1, 0, none⟩) ∧ Hid (Rw V (W.heap.size + 1) m0 m1 m2 m3 (f : Int) 0 0 0 0 0 0 0 0 ∧ Below W.heap.size W V))
  case first =>
    go_region_with (go_at_call 31; refine (cF.out _).mono ?_; rintro e w1 ⟨rfl, hw⟩; rw [hw]; clear hw w1)
    all_goals
      go_wp2_with fail
      go_meet
      exact ⟨rfl, Rw.drew (Rw.new_at _ _ _ _ _ _ _ _ _ _ _ _ _ _ _ _ (by simp)), (by (repeat (first | exact Below.refl _ _ | refine Below.drew ?_ | refine Below.alloc ?_ (by first | omega | (simp <;> omega)) _ | refine Below.setCell ?_ (by first | omega | (simp <;> omega)) _)); done)⟩
  case rest =>
  obtain ⟨rfl, H⟩ := hcut
  have C1 : Hid (Calls Try.prog 32 #[.pointer (some ⟨W.heap.size + 1, 0, none⟩)] wc fun e w' => e = .returned (.agg #[.int .u64 o0, .int .u64 o1, .int .u64 o2, .int .u64 o3]) ∧ Below wc.heap.size wc w') := by
    have := one_any wc (W.heap.size + 1) m (MD.out _ _ _ _ _ _ _ _ _ H.out.1); rwa [EO.out.2] at this
  go_wp2_with fail
  refine C1.out.mono ?_
  rintro e w1 ⟨rfl, g1⟩
  have B1 : Hid (Below W.heap.size W w1) := H.out.2.trans (g1.mono H.out.2.size)
  have R1 : Hid (Rw w1 (W.heap.size + 1) m0 m1 m2 m3 (f : Int) 0 0 0 0 0 0 0 0) := H.out.1.below g1
  clear g1 C1 H
  obtain ⟨l, d0, d1, d2, d3, d4, d5, d6, d7, d8, d9, d10, d11, d12, fr⟩ := R1.out
  go_wp2_with fail
  refine wp_cut (fun V => Rw V (W.heap.size + 1) m0 m1 m2 m3 (f : Int) o0 o1 o2 o3 0 0 0 0 ∧ Below W.heap.size W V) ⟨R1.out.set5 _ _ _ _, by repeat (first | exact B1.out | refine Below.setCell ?_ (by first | omega | (simp <;> omega)) _)⟩ ?_
  clear l d0 d1 d2 d3 d4 d5 d6 d7 d8 d9 d10 d11 d12 fr R1 B1 w1
  rintro U ⟨hR, hB⟩
  have R2 : Hid (Rw U (W.heap.size + 1) m0 m1 m2 m3 (f : Int) o0 o1 o2 o3 0 0 0 0) := hR
  have B2 : Hid (Below W.heap.size W U) := hB
  obtain ⟨l, d0, d1, d2, d3, d4, d5, d6, d7, d8, d9, d10, d11, d12, fr⟩ := hR
  clear hB
  have C2 : Hid (Calls Try.prog 33 #[.pointer (some ⟨W.heap.size + 1, 0, none⟩), .agg #[.int .u64 o0, .int .u64 o1, .int .u64 o2, .int .u64 o3], .agg #[.int .u64 o0, .int .u64 o1, .int .u64 o2, .int .u64 o3]] U.drew fun e w' => e = .returned (.agg #[.int .u64 x0, .int .u64 x1, .int .u64 x2, .int .u64 x3]) ∧ Below U.drew.heap.size U.drew w') := by
    have := addR_ring U.drew (W.heap.size + 1) m (M4 % m) (M4 % m) (MD.out _ _ _ _ _ _ _ _ _ R2.out.drew) (Nat.mod_lt _ (by omega)) (Nat.mod_lt _ (by omega)); rwa [square_first, EO.out.2, EX.out.2] at this
  go_cut [43] (fun s V => Hid (Rs W V m0 m1 m2 m3 (f : Int) o0 o1 o2 o3 (2 ^ 2 ^ 0 * M4 % m)))
  case first =>
    go_region_with (go_at_call 33; refine (C2.out).mono ?_; rintro e w1 ⟨rfl, g1⟩; obtain ⟨l', i0, i1, i2, i3, i4, i5, i6, i7, i8, i9, i10, i11, i12, fr'⟩ := R2.out.drew.below g1)
    all_goals
      have B3 : Hid (Below W.heap.size W w1) := B2.out.drew.trans (g1.mono B2.out.size)
      have R3 : Hid (Rw w1 (W.heap.size + 1) m0 m1 m2 m3 (f : Int) o0 o1 o2 o3 0 0 0 0) := R2.out.drew.below g1
      clear g1 R2 B2 C2
      go_wp2_with fail
      go_meet
      exact ⟨EX.out.1, x0, x1, x2, x3, EX.out.2, R3.out.set9 _ _ _ _, by repeat (first | exact B3.out | refine Below.setCell ?_ (by first | omega | (simp <;> omega)) _)⟩
  case rest =>
  clear l d0 d1 d2 d3 d4 d5 d6 d7 d8 d9 d10 d11 d12 fr R2 B2 C2
  go_wp2_with fail
  go_loopw [47] (fun y wr => ∃ i : Nat, y = .int .i64 (i : Int) ∧ i ≤ 8 ∧ Hid (Rs W wr m0 m1 m2 m3 (f : Int) o0 o1 o2 o3 (2 ^ 2 ^ i * M4 % m))) (fun y _ => 8 - (intOf y).toNat)
  case atStart => exact ⟨0, rfl, by omega, hcut⟩
  case round =>
    obtain ⟨i, rfl, hi, H⟩ := hrel
    by_cases hlt : i < 8
    · have hlt' : (i : Int) < 8 := by omega
      obtain ⟨hsM, s0, s1, s2, s3, es, hR, hB⟩ := H.out
      have hyM : 2 ^ 2 ^ (i + 1) * M4 % m < M4 := Nat.lt_trans (Nat.mod_lt _ (by omega)) (Hid.out HM)
      obtain ⟨y0, y1, y2, y3, -, -, -, -, ey, -⟩ := four_open _ hyM
      have cM : Hid (Calls Try.prog 34 #[.pointer (some ⟨W.heap.size + 1, 0, none⟩), .agg #[.int .u64 s0, .int .u64 s1, .int .u64 s2, .int .u64 s3], .agg #[.int .u64 s0, .int .u64 s1, .int .u64 s2, .int .u64 s3]] wr.drew fun e w' => e = .returned (.agg #[.int .u64 y0, .int .u64 y1, .int .u64 y2, .int .u64 y3]) ∧ Below wr.drew.heap.size wr.drew w') := by
        have := mulR_raw wr.drew (W.heap.size + 1) m (2 ^ 2 ^ i * M4 % m) (2 ^ 2 ^ i * M4 % m) (MD.out _ _ _ _ _ _ _ _ _ hR.drew) hsM hsM (Or.inl (Nat.mod_lt _ (by omega)))
        rwa [square_next m i h1 h2, es, ey] at this
      have NX : Hid (∀ w', Below wr.drew.heap.size wr.drew w' → Rw w' (W.heap.size + 1) m0 m1 m2 m3 (f : Int) o0 o1 o2 o3 s0 s1 s2 s3 ∧ Hid (Rs W ((((w'.setCell ⟨W.heap.size + 1, 9, none⟩ (.int .u64 y0)).setCell ⟨W.heap.size + 1, 10, none⟩ (.int .u64 y1)).setCell ⟨W.heap.size + 1, 11, none⟩ (.int .u64 y2)).setCell ⟨W.heap.size + 1, 12, none⟩ (.int .u64 y3)) m0 m1 m2 m3 (f : Int) o0 o1 o2 o3 (2 ^ 2 ^ (i + 1) * M4 % m))) := by
        intro w' g
        have R4 := hR.drew.below g
        have B4 : Below W.heap.size W w' := hB.drew.trans (g.mono hB.size)
        exact ⟨R4, hyM, y0, y1, y2, y3, ey, R4.set9 _ _ _ _, by repeat (first | exact B4 | refine Below.setCell ?_ (by first | omega | (simp <;> omega)) _)⟩
      obtain ⟨l, d0, d1, d2, d3, d4, d5, d6, d7, d8, d9, d10, d11, d12, fr⟩ := hR
      clear es ey hsM hyM hB H
      go_wp2_with fail
      go_region_with (go_at_call 34; refine (cM.out).mono ?_; rintro e w1 ⟨rfl, g1⟩; obtain ⟨⟨l', i0, i1, i2, i3, i4, i5, i6, i7, i8, i9, i10, i11, i12, fr'⟩, NX2⟩ := NX.out w1 g1)
      all_goals
        clear g1 NX cM
        go_wp2_with fail
        go_roundw
        case rel => exact ⟨i + 1, by go_num, by omega, NX2⟩
        case measure => simp [intOf]; omega
    · obtain rfl : i = 8 := by omega
      go_wp2_with fail
      go_ret2
      obtain ⟨hsM, s0, s1, s2, s3, es, hR, hB⟩ := H.out
      rw [show 2 ^ 2 ^ 8 = M4 by unfold M4; decide] at es hsM
      exact ⟨rfl, ⟨MD.out _ _ _ _ _ _ _ _ _ hR, ⟨EO.out.1, o0, o1, o2, o3, EO.out.2, hR.one⟩, ⟨hsM, s0, s1, s2, s3, es, hR.square⟩⟩, hB⟩

end Go.Proofs.Ytkaekgjpjnnjpaa
