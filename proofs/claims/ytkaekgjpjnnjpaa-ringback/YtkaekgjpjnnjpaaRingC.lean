/-
  The contract of ring's add: for a modulus in memory and two residues it returns their sum modulo m, and changes no memory that was there. Conditions: as the theorem says.
-/
import Derived.Test.YtkaekgjpjnnjpaaRingB
namespace Go.Proofs.Ytkaekgjpjnnjpaa
open Go.RowKit
set_option linter.unusedVariables false

set_option maxHeartbeats 1000000 in
theorem addR_ring (W : World) (b m x y : Nat) (hM : Md W b m) (hx : x < m) (hy : y < m) :
    Calls Try.prog 33 #[.pointer (some ⟨b, 0, none⟩), four x, four y] W fun e w' => e = .returned (four ((x + y) % m)) ∧ Below W.heap.size W w' := by
  have HM : Hid (Md W b m) := hM
  obtain ⟨h1, h2, h3, -⟩ := hM
  have hxM : x < M4 := Nat.lt_trans hx h3
  have hyM : y < M4 := Nat.lt_trans hy h3
  obtain ⟨s, hs⟩ : ∃ s, (x + y) % M4 = s := ⟨_, rfl⟩
  obtain ⟨c, hc⟩ : ∃ c, (x + y) / M4 = c := ⟨_, rfl⟩
  have hsum : s + c * M4 = x + y := by rw [← hs, ← hc, Nat.mul_comm]; exact Nat.mod_add_div _ _
  have hsM : s < M4 := by rw [← hs]; exact Nat.mod_lt _ M4_pos
  have hc1 : c ≤ 1 := by rw [← hc]; unfold M4 at *; omega
  have hzM : (x + y) % m < M4 := Nat.lt_trans (Nat.mod_lt _ (by omega)) h3
  obtain ⟨x0, x1, x2, x3, -, -, -, -, ex, -⟩ := four_open x hxM
  obtain ⟨y0, y1, y2, y3, -, -, -, -, ey, -⟩ := four_open y hyM
  obtain ⟨s0, s1, s2, s3, -, -, -, -, es, -⟩ := four_open s hsM
  obtain ⟨z0, z1, z2, z3, -, -, -, -, ez, -⟩ := four_open _ hzM
  have cA : Hid (∀ w, Calls Try.prog 53 #[.agg #[.int .u64 x0, .int .u64 x1, .int .u64 x2, .int .u64 x3], .agg #[.int .u64 y0, .int .u64 y1, .int .u64 y2, .int .u64 y3]] w fun e w' => e = .returned (.tuple #[.agg #[.int .u64 s0, .int .u64 s1, .int .u64 s2, .int .u64 s3], .int .u64 (c : Int)]) ∧ Below w.heap.size w w') := by
    intro w; have := add_any x y hxM hyM w; rwa [hs, hc, ex, ey, es] at this
  have cW : Hid (∀ w, Below W.heap.size W w → Calls Try.prog 52 #[.pointer (some ⟨b, 0, none⟩), .agg #[.int .u64 s0, .int .u64 s1, .int .u64 s2, .int .u64 s3], .int .u64 (c : Int)] w fun e w' => e = .returned (.agg #[.int .u64 z0, .int .u64 z1, .int .u64 z2, .int .u64 z3]) ∧ Below w.heap.size w w') := by
    intro w hw; have := within_any w b m s c (HM.out.below hw) hsM hc1 (by omega); rwa [hsum, es, ez] at this
  rw [ex, ey, ez]
  clear ex ey es ez hs hc hsum hsM hc1 hzM HM
  have bR : Hid (Blk (((W.alloc (.cells #[.int .u64 x0, .int .u64 x1, .int .u64 x2, .int .u64 x3] 24)).alloc (.cells #[.int .u64 y0, .int .u64 y1, .int .u64 y2, .int .u64 y3] 24)).alloc (.cells #[.int .u64 0, .int .u64 0, .int .u64 0, .int .u64 0] 24)) (W.heap.size + 1 + 1) 0 0 0 0) := by
    have hb := Blk.new ((W.alloc (.cells #[.int .u64 x0, .int .u64 x1, .int .u64 x2, .int .u64 x3] 24)).alloc (.cells #[.int .u64 y0, .int .u64 y1, .int .u64 y2, .int .u64 y3] 24)) 0 0 0 0 24
    simp only [World.size_alloc] at hb
    exact hb
  have bB : Hid (Below W.heap.size W (((W.alloc (.cells #[.int .u64 x0, .int .u64 x1, .int .u64 x2, .int .u64 x3] 24)).alloc (.cells #[.int .u64 y0, .int .u64 y1, .int .u64 y2, .int .u64 y3] 24)).alloc (.cells #[.int .u64 0, .int .u64 0, .int .u64 0, .int .u64 0] 24))) := by
    repeat (first | exact Below.refl _ _ | refine Below.alloc ?_ (by first | omega | (simp <;> omega)) _)
  go_enter Try.func33, Try.ntmps33
  go_wp2_with fail
  refine (cA.out _).mono ?_
  rintro e w1 ⟨rfl, g1⟩
  have BR := Hid.out bR |>.below g1
  have BB : Below W.heap.size W w1 := bB.out.trans (g1.mono bB.out.size)
  have HR : Hid (Blk w1 (W.heap.size + 1 + 1) 0 0 0 0) := BR
  have HB : Hid (Below W.heap.size W w1) := BB
  clear BR BB g1 bR bB
  go_wp2_with fail
  refine (cW.out _ HB.out).mono ?_
  rintro e w2 ⟨rfl, g2⟩
  obtain ⟨l3, cc0, cc1, cc2, cc3, cf⟩ := HR.out.below g2
  go_wp2_with fail
  refine bodyPost_ret (v := .agg #[.int .u64 z0, .int .u64 z1, .int .u64 z2, .int .u64 z3]) (by simp [results, Try.results33, go_sem, cc0, cc1, cc2, cc3]) rfl ⟨rfl, ?_⟩
  have gs := HB.out.size
  have gs2 := g2.size
  repeat (first | exact HB.out | refine Below.setCell ?_ (by first | omega | (simp <;> omega)) _ | refine Below.trans ?_ (g2.mono gs))

end Go.Proofs.Ytkaekgjpjnnjpaa
