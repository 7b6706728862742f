/-
  A ring's block of memory; the contracts of ring's within, add, sub. Conditions: as each theorem says.
-/
import Derived.Test.YtkaekgjpjnnjpaaRingA
import Derived.Test.YtkaekgjpjnnjpaaExt
import Derived.Test.YtkaekgjpjnnjpaaLimbSum
import Derived.Test.YtkaekgjpjnnjpaaLimbSel
import Derived.Test.YtkaekgjpjnnjpaaRefF
import Derived.Deep.DeepCutAuto
namespace Go.Proofs.Ytkaekgjpjnnjpaa
open Go.RowKit
set_option linter.unusedVariables false

/-- The words of a modulus and its factor, in memory. -/
structure Five (W : World) (b : Nat) (m0 m1 m2 m3 f : Int) : Prop where
  lt : b < W.heap.size
  c0 : W.cell? ⟨b, 0, none⟩ = some (.int .u64 m0)
  c1 : W.cell? ⟨b, 1, none⟩ = some (.int .u64 m1)
  c2 : W.cell? ⟨b, 2, none⟩ = some (.int .u64 m2)
  c3 : W.cell? ⟨b, 3, none⟩ = some (.int .u64 m3)
  c4 : W.cell? ⟨b, 4, none⟩ = some (.int .u64 f)
theorem Five.below {W W' : World} {b : Nat} {m0 m1 m2 m3 f : Int} (h : Five W b m0 m1 m2 m3 f) (hb : Below W.heap.size W W') : Five W' b m0 m1 m2 m3 f :=
  ⟨Nat.lt_of_lt_of_le h.lt hb.size, by rw [hb.cell (p := ⟨b, 0, none⟩) h.lt]; exact h.c0, by rw [hb.cell (p := ⟨b, 1, none⟩) h.lt]; exact h.c1, by rw [hb.cell (p := ⟨b, 2, none⟩) h.lt]; exact h.c2, by rw [hb.cell (p := ⟨b, 3, none⟩) h.lt]; exact h.c3, by rw [hb.cell (p := ⟨b, 4, none⟩) h.lt]; exact h.c4⟩

/-- Block g holds these four words, and may be written. -/
structure Blk (W : World) (g : Nat) (v0 v1 v2 v3 : Int) : Prop where
  lt : g < W.heap.size
  c0 : W.cell? ⟨g, 0, none⟩ = some (.int .u64 v0)
  c1 : W.cell? ⟨g, 1, none⟩ = some (.int .u64 v1)
  c2 : W.cell? ⟨g, 2, none⟩ = some (.int .u64 v2)
  c3 : W.cell? ⟨g, 3, none⟩ = some (.int .u64 v3)
  fr : ∀ j, W.frozen? ⟨g, j, none⟩ = false
theorem Blk.below {W W' : World} {b : Nat} {v0 v1 v2 v3 : Int} (h : Blk W b v0 v1 v2 v3) (hb : Below W.heap.size W W') : Blk W' b v0 v1 v2 v3 :=
  ⟨Nat.lt_of_lt_of_le h.lt hb.size, (hb.cell (p := ⟨b, 0, none⟩) h.lt).trans h.c0, (hb.cell (p := ⟨b, 1, none⟩) h.lt).trans h.c1, (hb.cell (p := ⟨b, 2, none⟩) h.lt).trans h.c2, (hb.cell (p := ⟨b, 3, none⟩) h.lt).trans h.c3, fun j => (hb.frozen (p := ⟨b, j, none⟩) h.lt).trans (h.fr j)⟩
theorem Blk.alloc {W : World} {b : Nat} {v0 v1 v2 v3 : Int} (h : Blk W b v0 v1 v2 v3) (o : Obj) : Blk (W.alloc o) b v0 v1 v2 v3 := h.below (Below.alloc (Below.refl _ _) (Nat.le_refl _) o)
theorem Blk.drew {W : World} {b : Nat} {v0 v1 v2 v3 : Int} (h : Blk W b v0 v1 v2 v3) : Blk W.drew b v0 v1 v2 v3 := h.below (Below.refl _ _).drew
theorem Blk.new (W : World) (v0 v1 v2 v3 : Int) (t : TypeId) : Blk (W.alloc (.cells #[.int .u64 v0, .int .u64 v1, .int .u64 v2, .int .u64 v3] t)) W.heap.size v0 v1 v2 v3 :=
  ⟨by simp, by simp, by simp, by simp, by simp, fun j => by simp [go_sem]⟩
theorem Blk.other {W : World} {b : Nat} {v0 v1 v2 v3 : Int} (h : Blk W b v0 v1 v2 v3) (g i : Nat) (v : Value) (hg : g ≠ b) : Blk (W.setCell ⟨g, i, none⟩ v) b v0 v1 v2 v3 :=
  ⟨by simpa using h.lt, by rw [World.cell?_setCell_other _ _ _ _ (fun e => hg (congrArg Addr.block e))]; exact h.c0, by rw [World.cell?_setCell_other _ _ _ _ (fun e => hg (congrArg Addr.block e))]; exact h.c1, by rw [World.cell?_setCell_other _ _ _ _ (fun e => hg (congrArg Addr.block e))]; exact h.c2, by rw [World.cell?_setCell_other _ _ _ _ (fun e => hg (congrArg Addr.block e))]; exact h.c3, fun j => by simpa using h.fr j⟩
theorem Blk.set {W : World} {b : Nat} {v0 v1 v2 v3 : Int} (h : Blk W b v0 v1 v2 v3) (x0 x1 x2 x3 : Int) : Blk ((((W.setCell ⟨b, 0, none⟩ (.int .u64 x0)).setCell ⟨b, 1, none⟩ (.int .u64 x1)).setCell ⟨b, 2, none⟩ (.int .u64 x2)).setCell ⟨b, 3, none⟩ (.int .u64 x3)) b x0 x1 x2 x3 := by
  obtain ⟨l, c0, c1, c2, c3, fr⟩ := h
  refine ⟨by simpa using l, ?_, ?_, ?_, ?_, fun j => by simpa using fr j⟩ <;> simp [go_sem, c0, c1, c2, c3]
theorem Blk.box {W : World} {b : Nat} {v0 v1 v2 v3 : Int} (h : Blk W b v0 v1 v2 v3) : Box W b v0 v1 v2 v3 := ⟨h.lt, h.c0, h.c1, h.c2, h.c3⟩

/-- A modulus in memory: odd, above 2, with its factor. -/
def Md (W : World) (b m : Nat) : Prop := m % 2 = 1 ∧ 1 < m ∧ m < M4 ∧ ∃ (m0 m1 m2 m3 : Int) (f : Nat), Wd m0 ∧ Wd m1 ∧ Wd m2 ∧ Wd m3 ∧ f < 18446744073709551616 ∧ four m = .agg #[.int .u64 m0, .int .u64 m1, .int .u64 m2, .int .u64 m3] ∧
  (m : Int) = m0 + 18446744073709551616 * m1 + 340282366920938463463374607431768211456 * m2 + 6277101735386680763835789423207666416102355444464034512896 * m3 ∧ m0.toNat * f % 18446744073709551616 = 18446744073709551615 ∧ Five W b m0 m1 m2 m3 (f : Int)
theorem Md.below {W W' : World} {b m : Nat} (h : Md W b m) (hb : Below W.heap.size W W') : Md W' b m := by
  obtain ⟨h1, h2, h3, m0, m1, m2, m3, f, k0, k1, k2, k3, k4, k5, k6, k7, k8⟩ := h
  exact ⟨h1, h2, h3, m0, m1, m2, m3, f, k0, k1, k2, k3, k4, k5, k6, k7, k8.below hb⟩

theorem within_pick (a c m : Nat) (ha : a < M4) (hm : m < M4) (hc : c ≤ 1) (h : a + c * M4 < 2 * m) :
    (bits .and .u64 (bits .or .u64 (c : Int) (bits .xor .u64 (bor a m) 1)) 1 = 1 ∧ (a + c * M4) % m = (a + M4 - m) % M4) ∨
    (bits .and .u64 (bits .or .u64 (c : Int) (bits .xor .u64 (bor a m) 1)) 1 = 0 ∧ (a + c * M4) % m = a) := by
  unfold bor
  rcases (show c = 0 ∨ c = 1 by omega) with rfl | rfl
  · by_cases hl : a < m
    · rw [if_pos hl]
      refine Or.inr ⟨by decide, ?_⟩
      rw [Nat.zero_mul, Nat.add_zero, Nat.mod_eq_of_lt hl]
    · rw [if_neg hl]
      refine Or.inl ⟨by decide, ?_⟩
      rw [Nat.zero_mul, Nat.add_zero, Nat.mod_eq_sub_mod (by omega), Nat.mod_eq_of_lt (by omega), show a + M4 - m = a - m + M4 by omega, Nat.add_mod_right, Nat.mod_eq_of_lt (by omega)]
  · refine Or.inl ⟨?_, ?_⟩
    · split <;> decide
    · rw [Nat.one_mul] at h ⊢
      rw [Nat.mod_eq_sub_mod (by omega), Nat.mod_eq_of_lt (by omega), Nat.mod_eq_of_lt (by omega)]

set_option maxHeartbeats 1000000 in
theorem within_any (W : World) (b m a c : Nat) (hM : Md W b m) (ha : a < M4) (hc : c ≤ 1) (h : a + c * M4 < 2 * m) :
    Calls Try.prog 52 #[.pointer (some ⟨b, 0, none⟩), four a, .int .u64 (c : Int)] W fun e w' => e = .returned (four ((a + c * M4) % m)) ∧ Below W.heap.size W w' := by
  obtain ⟨h1, h2, h3, m0, m1, m2, m3, f, k0, k1, k2, k3, k4, k5, k6, k7, k8⟩ := hM
  obtain ⟨a0, a1, a2, a3, -, -, -, -, ea, -⟩ := four_open a ha
  have cS : Hid (∀ w, Calls Try.prog 49 #[.agg #[.int .u64 a0, .int .u64 a1, .int .u64 a2, .int .u64 a3], .agg #[.int .u64 m0, .int .u64 m1, .int .u64 m2, .int .u64 m3]] w fun e w' => e = .returned (.tuple #[four ((a + M4 - m) % M4), .int .u64 (bor a m)]) ∧ Below w.heap.size w w') := by
    intro w; have := sub_any a m ha h3 w; rwa [ea, k5] at this
  obtain ⟨z, hz⟩ : ∃ z, (a + c * M4) % m = z := ⟨_, rfl⟩
  obtain ⟨x, hx⟩ : ∃ x, (a + M4 - m) % M4 = x := ⟨_, rfl⟩
  obtain ⟨t, ht⟩ : ∃ t, bor a m = t := ⟨_, rfl⟩
  have hp := within_pick a c m ha h3 hc h
  rw [hz, hx, ht] at hp
  rw [hx, ht] at cS
  have hxM : x < M4 := by rw [← hx]; exact Nat.mod_lt _ M4_pos
  have hzM : z < M4 := by rw [← hz]; exact Nat.lt_trans (Nat.mod_lt _ (by omega)) h3
  rw [hz]
  obtain ⟨z0, z1, z2, z3, -, -, -, -, ez, -⟩ := four_open z hzM
  obtain ⟨x0, x1, x2, x3, -, -, -, -, ex, -⟩ := four_open x hxM
  have cL : Hid (∀ w, Calls Try.prog 62 #[.int .u64 (bits .or .u64 (c : Int) (bits .xor .u64 t 1)), .agg #[.int .u64 x0, .int .u64 x1, .int .u64 x2, .int .u64 x3], .agg #[.int .u64 a0, .int .u64 a1, .int .u64 a2, .int .u64 a3]] w fun e w' => e = .returned (.agg #[.int .u64 z0, .int .u64 z1, .int .u64 z2, .int .u64 z3]) ∧ Below w.heap.size w w') := by
    intro w; have := select_any (bits .or .u64 (c : Int) (bits .xor .u64 t 1)) x a z hxM ha hp w; rwa [ea, ex, ez] at this
  rw [ex] at cS
  rw [ea, ez]
  clear ea ex ez hp hz hx ht k5 k6 k7
  obtain ⟨l, c0, c1, c2, c3, c4⟩ := k8
  have l1 : b < W.heap.size + 1 := by omega
  have l2 : b < W.heap.size + 1 + 1 := by omega
  have n0 : ¬ b = W.heap.size := by omega
  have n1 : ¬ b = W.heap.size + 1 := by omega
  have n2 : ¬ b = W.heap.size + 1 + 1 := by omega
  go_enter Try.func52, Try.ntmps52
  go_wp2_with fail
  have bR : Hid (Blk ((W.alloc (.cells #[.int .u64 a0, .int .u64 a1, .int .u64 a2, .int .u64 a3] 24)).alloc (.cells #[.int .u64 0, .int .u64 0, .int .u64 0, .int .u64 0] 24)) (W.heap.size + 1) 0 0 0 0) := by have := Blk.new (W.alloc (.cells #[.int .u64 a0, .int .u64 a1, .int .u64 a2, .int .u64 a3] 24)) 0 0 0 0 24; simp at this; exact this
  have bA : Hid (Blk ((W.alloc (.cells #[.int .u64 a0, .int .u64 a1, .int .u64 a2, .int .u64 a3] 24)).alloc (.cells #[.int .u64 0, .int .u64 0, .int .u64 0, .int .u64 0] 24)) W.heap.size a0 a1 a2 a3) := (Blk.new W a0 a1 a2 a3 24).alloc _
  go_cut [7, 8] (fun s u V => ∃ g, s = .pointer (some ⟨g, 0, none⟩) ∧ u = .int .u64 t ∧ Hid (Blk V g x0 x1 x2 x3 ∧ Blk V W.heap.size a0 a1 a2 a3 ∧ Blk V (W.heap.size + 1) 0 0 0 0 ∧ Below W.heap.size W V))
  case first =>
    go_region_with (go_at_call 49; refine (cS.out _).mono ?_; rintro e w1 ⟨rfl, g1⟩; first
      | (have bZ : Blk w1 (W.heap.size + 1 + 1) 0 0 0 0 := by
          refine Blk.below ?_ g1
          refine Blk.drew ?_
          have := Blk.new ((W.alloc (.cells #[.int .u64 a0, .int .u64 a1, .int .u64 a2, .int .u64 a3] 24)).alloc (.cells #[.int .u64 0, .int .u64 0, .int .u64 0, .int .u64 0] 24)) 0 0 0 0 24
          simp at this
          exact this
         obtain ⟨z0, z1, z2, z3, z4, z5⟩ := bZ)
      | skip)
    all_goals
      go_wp2_with fail
      go_meet
      refine ⟨_, rfl, rfl, ?_⟩
      have gs := g1.size
      simp at gs
      first
        | exact ⟨Blk.new _ _ _ _ _ _, (bA.out.drew.below g1).alloc _, (bR.out.drew.below g1).alloc _, by repeat (first | exact Below.refl _ _ | refine Below.drew ?_ | refine Below.alloc ?_ (by first | omega | (simp <;> omega)) _ | refine Below.trans ?_ (g1.mono (by first | omega | (simp <;> omega))))⟩
        | (have bZ : Blk w1 (W.heap.size + 1 + 1) 0 0 0 0 := ⟨z0, z1, z2, z3, z4, z5⟩
           refine ⟨bZ.set _ _ _ _, ((((bA.out.alloc _).drew.below g1).other _ _ _ (by omega)).other _ _ _ (by omega) |>.other _ _ _ (by omega)).other _ _ _ (by omega), ((((bR.out.alloc _).drew.below g1).other _ _ _ (by omega)).other _ _ _ (by omega) |>.other _ _ _ (by omega)).other _ _ _ (by omega), ?_⟩
           repeat (first | exact Below.refl _ _ | refine Below.drew ?_ | refine Below.setCell ?_ (by first | omega | (simp <;> omega)) _ | refine Below.alloc ?_ (by first | omega | (simp <;> omega)) _ | refine Below.trans ?_ (g1.mono (by first | omega | (simp <;> omega)))))
  case rest =>
  obtain ⟨g, rfl, rfl, H⟩ := hcut
  obtain ⟨l1, ca0, ca1, ca2, ca3, -⟩ := H.out.1
  obtain ⟨l2, cb0, cb1, cb2, cb3, -⟩ := H.out.2.1
  go_wp2_with fail
  refine (cL.out _).mono ?_
  rintro e w2 ⟨rfl, g2⟩
  obtain ⟨l3, cc0, cc1, cc2, cc3, cf⟩ := H.out.2.2.1.below g2
  go_wp2_with fail
  refine bodyPost_ret (v := .agg #[.int .u64 z0, .int .u64 z1, .int .u64 z2, .int .u64 z3]) (by simp [results, Try.results52, go_sem, cc0, cc1, cc2, cc3]) rfl ⟨rfl, ?_⟩
  have gs := H.out.2.2.2.size
  have gs2 := g2.size
  repeat (first | exact H.out.2.2.2 | refine Below.setCell ?_ (by first | omega | (simp <;> omega)) _ | refine Below.trans ?_ (g2.mono gs))

end Go.Proofs.Ytkaekgjpjnnjpaa
