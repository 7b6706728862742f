/-
  The contracts of ring's sub and reduce. Conditions: as each theorem says.
-/
import Derived.Test.YtkaekgjpjnnjpaaRingE
namespace Go.Proofs.Ytkaekgjpjnnjpaa
open Go.RowKit
set_option linter.unusedVariables false

theorem sub_pick (x y m : Nat) (hx : x < m) (hy : y < m) (hm : m < M4) :
    (bits .and .u64 (bor x y) 1 = 1 ∧ (x + m - y) % m = ((x + M4 - y) % M4 + m) % M4) ∨ (bits .and .u64 (bor x y) 1 = 0 ∧ (x + m - y) % m = (x + M4 - y) % M4) := by
  unfold bor
  by_cases h : x < y
  · rw [if_pos h]
    refine Or.inl ⟨by decide, ?_⟩
    rw [Nat.mod_eq_of_lt (by omega), Nat.mod_eq_of_lt (show x + M4 - y < M4 by omega), show x + M4 - y + m = x + m - y + M4 by omega, Nat.add_mod_right, Nat.mod_eq_of_lt (by omega)]
  · rw [if_neg h]
    refine Or.inr ⟨by decide, ?_⟩
    rw [show x + m - y = x - y + m by omega, Nat.add_mod_right, Nat.mod_eq_of_lt (by omega), show x + M4 - y = x - y + M4 by omega, Nat.add_mod_right, Nat.mod_eq_of_lt (by omega)]

set_option maxHeartbeats 1000000 in
theorem subR_ring (W : World) (b m x y : Nat) (hM : Md W b m) (hx : x < m) (hy : y < m) :
    Calls Try.prog 44 #[.pointer (some ⟨b, 0, none⟩), four x, four y] W fun e w' => e = .returned (four ((x + m - y) % m)) ∧ Below W.heap.size W w' := by
  have HM : Hid (Md W b m) := hM
  obtain ⟨h1, h2, h3, m0, m1, m2, m3, f, k0, k1, k2, k3, k4, k5, k6, k7, k8⟩ := hM
  have hxM : x < M4 := Nat.lt_trans hx h3
  have hyM : y < M4 := Nat.lt_trans hy h3
  have hp := sub_pick x y m hx hy h3
  obtain ⟨z, hz⟩ : ∃ z, (x + m - y) % m = z := ⟨_, rfl⟩
  obtain ⟨r, hr⟩ : ∃ r, (x + M4 - y) % M4 = r := ⟨_, rfl⟩
  obtain ⟨c, hc⟩ : ∃ c, bor x y = c := ⟨_, rfl⟩
  rw [hz, hr, hc] at hp
  obtain ⟨k, hk⟩ : ∃ k, (r + m) % M4 = k := ⟨_, rfl⟩
  obtain ⟨o, ho⟩ : ∃ o : Int, (((r + m) / M4 : Nat) : Int) = o := ⟨_, rfl⟩
  rw [hk] at hp
  have hrM : r < M4 := by rw [← hr]; exact Nat.mod_lt _ M4_pos
  have hkM : k < M4 := by rw [← hk]; exact Nat.mod_lt _ M4_pos
  have hzM : z < M4 := by rw [← hz]; exact Nat.lt_trans (Nat.mod_lt _ (by omega)) h3
  obtain ⟨x0, x1, x2, x3, -, -, -, -, ex, -⟩ := four_open x hxM
  obtain ⟨y0, y1, y2, y3, -, -, -, -, ey, -⟩ := four_open y hyM
  obtain ⟨z0, z1, z2, z3, -, -, -, -, ez, -⟩ := four_open z hzM
  obtain ⟨r0, r1, r2, r3, -, -, -, -, er, -⟩ := four_open r hrM
  obtain ⟨q0, q1, q2, q3, -, -, -, -, ek, -⟩ := four_open k hkM
  have cS : Hid (∀ w, Calls Try.prog 49 #[.agg #[.int .u64 x0, .int .u64 x1, .int .u64 x2, .int .u64 x3], .agg #[.int .u64 y0, .int .u64 y1, .int .u64 y2, .int .u64 y3]] w fun e w' => e = .returned (.tuple #[.agg #[.int .u64 r0, .int .u64 r1, .int .u64 r2, .int .u64 r3], .int .u64 c]) ∧ Below w.heap.size w w') := by
    intro w; have := sub_any x y hxM hyM w; rwa [hr, hc, ex, ey, er] at this
  have cA : Hid (∀ w, Calls Try.prog 53 #[.agg #[.int .u64 r0, .int .u64 r1, .int .u64 r2, .int .u64 r3], .agg #[.int .u64 m0, .int .u64 m1, .int .u64 m2, .int .u64 m3]] w fun e w' => e = .returned (.tuple #[.agg #[.int .u64 q0, .int .u64 q1, .int .u64 q2, .int .u64 q3], .int .u64 o]) ∧ Below w.heap.size w w') := by
    intro w; have := add_any r m hrM h3 w; rwa [hk, ho, er, k5, ek] at this
  have cL : Hid (∀ w, Calls Try.prog 62 #[.int .u64 c, .agg #[.int .u64 q0, .int .u64 q1, .int .u64 q2, .int .u64 q3], .agg #[.int .u64 r0, .int .u64 r1, .int .u64 r2, .int .u64 r3]] w fun e w' => e = .returned (.agg #[.int .u64 z0, .int .u64 z1, .int .u64 z2, .int .u64 z3]) ∧ Below w.heap.size w w') := by
    intro w; have := select_any c k r z hkM hrM hp w; rwa [ek, er, ez] at this
  rw [hz, ex, ey, ez]
  clear ex ey ez er ek hp hz hr hc hk ho k5 k6 k7 hrM hkM hzM hxM hyM hx hy
  have HB : Hid (Below W.heap.size W ((((W.alloc (.cells #[.int .u64 x0, .int .u64 x1, .int .u64 x2, .int .u64 x3] 24)).alloc (.cells #[.int .u64 y0, .int .u64 y1, .int .u64 y2, .int .u64 y3] 24)).alloc (.cells #[.int .u64 0, .int .u64 0, .int .u64 0, .int .u64 0] 24)))) := (by (repeat (first | exact Below.refl _ _ | refine Below.drew ?_ | refine Below.alloc ?_ (by first | omega | (simp <;> omega)) _ | refine Below.setCell ?_ (by first | omega | (simp <;> omega)) _)); done)
  have HX : Hid (Blk ((((W.alloc (.cells #[.int .u64 x0, .int .u64 x1, .int .u64 x2, .int .u64 x3] 24)).alloc (.cells #[.int .u64 y0, .int .u64 y1, .int .u64 y2, .int .u64 y3] 24)).alloc (.cells #[.int .u64 0, .int .u64 0, .int .u64 0, .int .u64 0] 24))) (W.heap.size + 1 + 1) 0 0 0 0) := (by (repeat (first | exact Blk.new_at _ _ _ _ _ _ _ (by simp) | refine Blk.drew ?_ | refine Blk.alloc ?_ _)); done)
  go_enter Try.func44, Try.ntmps44
  go_wp2_with fail
  refine (cS.out _).mono ?_
  rintro e w1 ⟨rfl, g1⟩
  have B1 : Hid (Below W.heap.size W w1) := HB.out.trans (g1.mono HB.out.size)
  have X1 : Hid (Blk w1 (W.heap.size + 1 + 1) 0 0 0 0) := HX.out.below g1
  obtain ⟨l, c0, c1, c2, c3, c4⟩ := k8.below B1.out
  have gs1 := B1.out.size
  have l0 : b < W.heap.size := k8.lt
  have l1 : b < w1.heap.size + 1 := by omega
  have l2 : b < w1.heap.size + 1 + 1 := by omega
  have n0 : ¬ b = w1.heap.size := by omega
  have n1 : ¬ b = w1.heap.size + 1 := by omega
  clear g1 HB HX k8 gs1 l0
  go_wp2_with fail
  go_cut [9, 10] (fun s u V => ∃ g, s = .pointer (some ⟨g, 0, none⟩) ∧ Hid (Blk V g q0 q1 q2 q3 ∧ Blk V w1.heap.size r0 r1 r2 r3 ∧ Blk V (W.heap.size + 1 + 1) 0 0 0 0 ∧ Below w1.heap.size w1 V))
  case first =>
    have bR : Hid (Blk (w1.alloc (.cells #[.int .u64 r0, .int .u64 r1, .int .u64 r2, .int .u64 r3] 24)) w1.heap.size r0 r1 r2 r3) := Blk.new w1 r0 r1 r2 r3 _
    have bX : Hid (Blk (w1.alloc (.cells #[.int .u64 r0, .int .u64 r1, .int .u64 r2, .int .u64 r3] 24)) (W.heap.size + 1 + 1) 0 0 0 0) := X1.out.alloc _
    go_region_with (go_at_call 53; refine (cA.out _).mono ?_; rintro e w2 ⟨rfl, g2⟩; first
      | (have bZ : Blk w2 (w1.heap.size + 1) 0 0 0 0 := Blk.below (Blk.drew (Blk.new_at _ _ _ _ _ _ _ (by simp))) g2
         obtain ⟨i0, i1, i2, i3, i4, i5⟩ := bZ)
      | skip)
    all_goals
      go_wp2_with fail
      go_meet
      refine ⟨_, rfl, ?_⟩
      have gs := g2.size
      simp at gs
      first
        | exact ⟨Blk.new _ _ _ _ _ _, (bR.out.drew.below g2).alloc _, (bX.out.drew.below g2).alloc _, by repeat (first | exact Below.refl _ _ | refine Below.drew ?_ | refine Below.alloc ?_ (by first | omega | (simp <;> omega)) _ | refine Below.trans ?_ (g2.mono (by first | omega | (simp <;> omega))))⟩
        | (have bZ : Blk w2 (w1.heap.size + 1) 0 0 0 0 := ⟨i0, i1, i2, i3, i4, i5⟩
           have hX := X1.out.lt
           refine ⟨bZ.set _ _ _ _, ((((bR.out.alloc _).drew.below g2).other _ _ _ (by omega)).other _ _ _ (by omega) |>.other _ _ _ (by omega)).other _ _ _ (by omega), ((((bX.out.alloc _).drew.below g2).other _ _ _ (by omega)).other _ _ _ (by omega) |>.other _ _ _ (by omega)).other _ _ _ (by omega), ?_⟩
           repeat (first | exact Below.refl _ _ | refine Below.drew ?_ | refine Below.setCell ?_ (by first | omega | (simp <;> omega)) _ | refine Below.alloc ?_ (by first | omega | (simp <;> omega)) _ | refine Below.trans ?_ (g2.mono (by first | omega | (simp <;> omega)))))
  case rest =>
  obtain ⟨g, rfl, H⟩ := hcut
  obtain ⟨l1, ca0, ca1, ca2, ca3, -⟩ := H.out.1
  obtain ⟨l2, cb0, cb1, cb2, cb3, -⟩ := H.out.2.1
  go_wp2_with fail
  refine (cL.out _).mono ?_
  rintro e w3 ⟨rfl, g3⟩
  obtain ⟨l3, cc0, cc1, cc2, cc3, cf⟩ := H.out.2.2.1.below g3
  go_wp2_with fail
  refine bodyPost_ret (v := .agg #[.int .u64 z0, .int .u64 z1, .int .u64 z2, .int .u64 z3]) (by simp [results, Try.results44, go_sem, cc0, cc1, cc2, cc3]) rfl ⟨rfl, ?_⟩
  have gs := H.out.2.2.2.size
  have gs2 := g3.size
  have gs1 := B1.out.size
  have HZ := H.out.2.2.2
  repeat (first | exact B1.out | refine Below.setCell ?_ (by first | omega | (simp <;> omega)) _ | refine Below.trans ?_ (g3.mono (by first | omega | (simp <;> omega))) | refine Below.trans ?_ (HZ.mono (by first | omega | (simp <;> omega))))

end Go.Proofs.Ytkaekgjpjnnjpaa
