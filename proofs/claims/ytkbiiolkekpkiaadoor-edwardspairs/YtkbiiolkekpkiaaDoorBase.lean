/-
  The ground of the proofs over this seat: a loop unrolled a known number of times, and the laws of the calls of math/bits.Add64 and Sub64 at this program's numbers. Its conditions: none beyond those written.
-/
import Derived.Test.YtkbiiolkekpkiaaDoorRows
import Derived.WalkKit
import Derived.WalkSpells
import Derived.WalkLawsBesides
import Derived.BigQuiet
import Derived.BigRegion
import Derived.Deep.RegionHeld3
import Derived.Deep.QuietTactic
import Derived.Laws.Externs
import Derived.Shelf.Spec.BitsCarry
import Derived.Below
import Derived.Test.YtkbiiolkekpkiaaDoorShelf
import Derived.Test.YtkbiiolkekpkiaaDoorFour
namespace Go.Proofs.YtkbiiolkekpkiaaDoor
open Go.RowKit

theorem hold {P : Prop} (h : P) : Hid P := h
theorem ret_int {k : IntKind} {a b : Int} (h : a = b) : Ending.returned (.int k a) = .returned (.int k b) := by rw [h]

/-! ### A loop that is gone round at most n times -/
def unr (P : Program) (c : Code) (Q : Exit → Act → World → Prop) : Nat → Act → World → Prop
  | 0, _, _ => False
  | n + 1, a, w => c.wp P (Exit.then (unr P c Q n) Q) a w

theorem unr_key {P : Program} {c : Code} {Q : Exit → Act → World → Prop} (b : Frame) (k : List Item) (cs : List Frame) : ∀ (n : Nat) (a : Act) (w : World), unr P c Q n a w →
    ∃ e a' w', Q e a' w' ∧ Arrives P (lone (b.at a (.code c :: .inLoop c :: k)) cs w) b k cs e a' w' := by
  intro n
  induction n with
  | zero => intro a w h; exact h.elim
  | succ n ih =>
    intro a w h
    obtain ⟨e, a₁, w₁, hq, harr⟩ := h b (.inLoop c :: k) cs
    cases e with
    | normal =>
      obtain ⟨e₂, a₂, w₂, hq₂, harr₂⟩ := ih a₁ w₁ hq
      exact ⟨e₂, a₂, w₂, hq₂, .of_steps (Steps.trans harr (.one step_inLoop)) harr₂⟩
    | exit id => exact ⟨_, a₁, w₁, hq, .pass (x := .inLoop c) rfl (fun _ _ => .inl (by simp)) harr⟩
    | goto l => exact ⟨_, a₁, w₁, hq, .pass (x := .inLoop c) rfl (fun _ _ => .inl (by simp)) harr⟩
    | ret => exact ⟨_, a₁, w₁, hq, .pass (x := .inLoop c) rfl (fun _ _ => .inl (by simp)) harr⟩
    | panic ch => exact ⟨_, a₁, w₁, hq, .pass (x := .inLoop c) rfl (fun _ _ => .inl (by simp)) harr⟩
    | outgrown => exact ⟨_, a₁, w₁, hq, .pass (x := .inLoop c) rfl (fun _ _ => .inl (by simp)) harr⟩

theorem wp_unr {P : Program} {c : Code} {Q : Exit → Act → World → Prop} {a : Act} {w : World} (n : Nat) (h : unr P c Q n a w) : (Code.loop c).wp P Q a w := by
  intro b k cs
  obtain ⟨e, a', w', hq, harr⟩ := unr_key b k cs n a w h
  exact ⟨e, a', w', hq, .of_steps (.one step_loop) harr⟩

theorem unr_succ {P : Program} {c : Code} {Q : Exit → Act → World → Prop} {a : Act} {w : World} {n : Nat} (h : c.wp P (Exit.then (unr P c Q n) Q) a w) : unr P c Q (n + 1) a w := h

theorem unr_cut {P : Program} {c : Code} {Q : Exit → Act → World → Prop} {n : Nat} {a : Act} {w : World} (F : World → Prop) (h : F w) (k : ∀ w', F w' → unr P c Q n a w') : unr P c Q n a w := k w h

/-! ### math/bits.Add64, Sub64 -/
theorem add64 (x y c : Int) (hx : 0 ≤ x) (hy : 0 ≤ y) (hc0 : 0 ≤ c) (hc : c ≤ 1) (w : World) : (callFunc 89 #[.int .u64 x, .int .u64 y, .int .u64 c]).run Tryd.prog w =
    .ok (.value (.tuple #[.int .u64 ((x + y + c) % 18446744073709551616), .int .u64 ((x + y + c) / 18446744073709551616)])) w := by
  rw [run_callFunc_extern Tryd.func89 (by kernel_rfl) (by kernel_rfl) (by kernel_rfl) (e := add64Entry) (by kernel_rfl), run_add64 x y c hx hy hc0 hc]
  rfl

theorem add_step (x y c : Int) (hx : Wd x) (hy : Wd y) (hc : 0 ≤ c ∧ c ≤ 1) : ∃ s d : Int, Wd s ∧ (0 ≤ d ∧ d ≤ 1) ∧ Hid (x + y + c = s + 18446744073709551616 * d) ∧
    ∀ w : World, (callFunc 89 #[.int .u64 x, .int .u64 y, .int .u64 c]).run Tryd.prog w = .ok (.value (.tuple #[.int .u64 s, .int .u64 d])) w :=
  have ⟨x0, x1⟩ := hx; have ⟨y0, y1⟩ := hy; ⟨_, _, ⟨by omega, by omega⟩, ⟨by omega, by omega⟩, by unfold Hid; omega, fun w => add64 x y c hx.1 hy.1 hc.1 hc.2 w⟩
/-- One step of a difference. -/
theorem mul_step (x y : Int) (hx : Wd x) (hy : Wd y) : ∃ h l : Int, Wd l ∧ (0 ≤ h ∧ h ≤ 18446744073709551614) ∧ Hid (x * y = l + 18446744073709551616 * h) ∧
    ∀ w : World, Calls Tryd.prog 88 #[.int .u64 x, .int .u64 y] w fun e w' => e = .returned (.tuple #[.int .u64 h, .int .u64 l]) ∧ w' = w := by
  have hb := words_mul x y hx hy
  obtain ⟨x0, x1⟩ := hx
  obtain ⟨y0, y1⟩ := hy
  obtain ⟨x, rfl⟩ := Int.eq_ofNat_of_zero_le x0
  obtain ⟨y, rfl⟩ := Int.eq_ofNat_of_zero_le y0
  have e : (x : Int) * (y : Int) = ((x * y : Nat) : Int) := (Int.natCast_mul x y).symm
  have c := fun w => mul64_any x y (by omega) (by omega) w
  rw [e] at hb
  refine ⟨_, _, ?_, ?_, ?_, c⟩
  · unfold Wd; omega
  · omega
  · unfold Hid; rw [e]; omega

end Go.Proofs.YtkbiiolkekpkiaaDoor
