/-
  The contract of the law's awake: the chapter's examples hold. Conditions: none.
-/
import Derived.Test.YtdlocljnmaeikaaNatG
namespace Go.Proofs.Ytdlocljnmaeikaa
open Go.RowKit
set_option linter.unusedVariables false

theorem SK.lit2 (w : World) (d0 d1 : Nat) : SK .u64 (w.alloc (.cells #[.int .u64 (d0 : Int), .int .u64 (d1 : Int)] 37)) (.slice (some ⟨w.heap.size, 0, none⟩) 2 2) [d0, d1] := by
  refine ⟨some ⟨w.heap.size, 0, none⟩, 2, rfl, by simp, fun h => by simp at h, fun j hj => ⟨w.heap.size, 0, rfl, by simp, ?_⟩⟩
  have : j = 0 ∨ j = 1 := by simp at hj; omega
  rcases this with rfl | rfl <;> simp

set_option maxHeartbeats 2000000 in
theorem awakeN_any (w : World) : Calls Try.prog 8 #[] w fun e w' => e = .returned (.bool true) ∧ Below w.heap.size w w' := by
  have cP : Hid (∀ w, Calls Try.prog 28 #[.int .u64 10, .int .i64 20] w fun e w' => ∃ v, e = .returned (.tuple #[v, .int .i64 0]) ∧ Can w' v 100000000000000000000 ∧ Below w.heap.size w w') := by
    intro w
    have := power_any 10 20 w (by omega) (by omega) (by omega) (by rw [show nbits 10 = 4 from by decide]; omega)
    rwa [show (10 : Nat) ^ 20 = 100000000000000000000 from by decide] at this
  go_enter Try.func8, Try.ntmps8
  go_wp2_with fail
  refine (cP.out _).mono ?_
  rintro e w1 ⟨v1, rfl, h1, g1⟩
  obtain ⟨a, n, c, rfl⟩ := h1.shape
  have H1 : Hid (Can w1 (.slice a n c) 100000000000000000000) := h1
  have G1 : Hid (Below w.heap.size w w1) := g1
  clear h1 g1 cP
  go_wp2_with fail
  refine (bytesN_any [300] _ _ (SK.lit1 w1 300) (fun j => by rcases j with _ | j <;> simp) (by simp)).mono ?_
  rintro e w2 ⟨v2, rfl, h2, g2⟩
  have e2 : beB (valW [300]) ((nbits (valW [300]) + 7) / 8) = [1, 44] := by
    rw [show valW [300] = 300 from rfl, show nbits 300 = 9 from by decide]; decide
  rw [e2] at h2
  obtain ⟨b, d, rfl, -, -, hc⟩ := h2
  obtain ⟨bb, bo, rfl, hb, hc0⟩ := hc 0 (by simp)
  obtain ⟨bb', bo', hbe, -, hc1⟩ := hc 1 (by simp)
  simp only [Option.some.injEq, Addr.mk.injEq, and_true] at hbe
  obtain ⟨rfl, rfl⟩ := hbe
  simp only [List.getD_cons_zero, List.getD_cons_succ, Nat.add_zero] at hc0 hc1
  have G2 : Hid (Below w1.heap.size w1 w2) := ((Below.refl _ _).alloc (Nat.le_refl _) _).trans (g2.mono (by simp))
  have H2 : Hid (Can w2 (.slice a n c) 100000000000000000000) := H1.out.below G2.out
  have C0 : Hid (w2.cell? ⟨bb, bo, none⟩ = some (.int .u8 1)) := hc0
  have C1 : Hid (w2.cell? ⟨bb, bo + 1, none⟩ = some (.int .u8 44)) := hc1
  have HB : Hid (bb < w2.heap.size) := hb
  clear g2 e2 hc hc0 hc1 hb
  go_wp2_with fail
  refine (same_can 100000000000000000000 _ _ _ (H2.out.below ((Below.refl _ _).alloc (Nat.le_refl _) _)) ⟨[7766279631452241920, 5], SK.lit2 w2 _ _, fun j => by rcases j with _ | _ | j <;> simp, Or.inr (by simp), by simp [valW]⟩ 2 (by decide) (by decide)).mono ?_
  rintro e w3 ⟨rfl, g3⟩
  have G3 : Hid (Below w2.heap.size w2 w3) := ((Below.refl _ _).alloc (Nat.le_refl _) _).trans (g3.mono (by simp))
  have c0 : w3.cell? ⟨bb, bo, none⟩ = some (.int .u8 1) := (G3.out.cell (p := ⟨bb, bo, none⟩) HB.out).trans C0.out
  have c1 : w3.cell? ⟨bb, bo + 1, none⟩ = some (.int .u8 44) := (G3.out.cell (p := ⟨bb, bo + 1, none⟩) HB.out).trans C1.out
  clear g3
  go_wp2_with fail
  go_ret
  exact ⟨rfl, G1.out.trans ((G2.out.mono G1.out.size).trans (G3.out.mono (Nat.le_trans G1.out.size G2.out.size)))⟩

end Go.Proofs.Ytdlocljnmaeikaa
