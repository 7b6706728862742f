/-
  The ground of the proofs over this seat: a loop unrolled a known number of times, and the laws of the calls of math/bits.Add64 and Sub64 at this program's numbers. Its conditions: none beyond those written.
-/
import Derived.Test.YtlpmbhneffdcfaaDoorRows
import Derived.WalkKit
import Derived.WalkSpells
import Derived.WalkLawsBesides
import Derived.BigQuiet
import Derived.BigRegion
import Derived.Deep.RegionHeld3
import Derived.Deep.QuietTactic
import Derived.Laws.Externs
import Derived.Shelf.Spec.BitsCarry
import Derived.Below
import Derived.Test.YtlpmbhneffdcfaaDoorShelf
import Derived.Test.YtlpmbhneffdcfaaDoorFour
namespace Go.Proofs.YtlpmbhneffdcfaaDoor
open Go.RowKit

theorem ret_int {k : IntKind} {a b : Int} (h : a = b) : Ending.returned (.int k a) = .returned (.int k b) := by rw [h]

/-! ### A loop that is gone round at most n times -/
def unr (P : Program) (c : Code) (Q : Exit → Act → World → Prop) : Nat → Act → World → Prop
  | 0, _, _ => False
  | n + 1, a, w => c.wp P (Exit.then (unr P c Q n) Q) a w

theorem unr_key {P : Program} {c : Code} {Q : Exit → Act → World → Prop} (b : Frame) (k : List Item) (cs : List Frame) : ∀ (n : Nat) (a : Act) (w : World), unr P c Q n a w →
    ∃ e a' w', Q e a' w' ∧ Arrives P (lone (b.at a (.code c :: .inLoop c :: k)) cs w) b k cs e a' w' := by
  intro n
  induction n with
  | zero => intro a w h; exact h.elim
  | succ n ih =>
    intro a w h
    obtain ⟨e, a₁, w₁, hq, harr⟩ := h b (.inLoop c :: k) cs
    cases e with
    | normal =>
      obtain ⟨e₂, a₂, w₂, hq₂, harr₂⟩ := ih a₁ w₁ hq
      exact ⟨e₂, a₂, w₂, hq₂, .of_steps (Steps.trans harr (.one step_inLoop)) harr₂⟩
    | exit id => exact ⟨_, a₁, w₁, hq, .pass (x := .inLoop c) rfl (fun _ _ => .inl (by simp)) harr⟩
    | goto l => exact ⟨_, a₁, w₁, hq, .pass (x := .inLoop c) rfl (fun _ _ => .inl (by simp)) harr⟩
    | ret => exact ⟨_, a₁, w₁, hq, .pass (x := .inLoop c) rfl (fun _ _ => .inl (by simp)) harr⟩
    | panic ch => exact ⟨_, a₁, w₁, hq, .pass (x := .inLoop c) rfl (fun _ _ => .inl (by simp)) harr⟩
    | outgrown => exact ⟨_, a₁, w₁, hq, .pass (x := .inLoop c) rfl (fun _ _ => .inl (by simp)) harr⟩

theorem wp_unr {P : Program} {c : Code} {Q : Exit → Act → World → Prop} {a : Act} {w : World} (n : Nat) (h : unr P c Q n a w) : (Code.loop c).wp P Q a w := by
  intro b k cs
  obtain ⟨e, a', w', hq, harr⟩ := unr_key b k cs n a w h
  exact ⟨e, a', w', hq, .of_steps (.one step_loop) harr⟩

theorem unr_succ {P : Program} {c : Code} {Q : Exit → Act → World → Prop} {a : Act} {w : World} {n : Nat} (h : c.wp P (Exit.then (unr P c Q n) Q) a w) : unr P c Q (n + 1) a w := h

theorem unr_cut {P : Program} {c : Code} {Q : Exit → Act → World → Prop} {n : Nat} {a : Act} {w : World} (F : World → Prop) (h : F w) (k : ∀ w', F w' → unr P c Q n a w') : unr P c Q n a w := k w h

/-! ### math/bits.Add64, Sub64 -/
theorem sub64 (x y b : Int) (hx : 0 ≤ x) (hy : 0 ≤ y) (hy' : y < 18446744073709551616) (hb0 : 0 ≤ b) (hb : b ≤ 1) (w : World) : (callFunc 57 #[.int .u64 x, .int .u64 y, .int .u64 b]).run Tryd.prog w =
    .ok (.value (.tuple #[.int .u64 ((x - y - b) % 18446744073709551616), .int .u64 (if x < y + b then 1 else 0)])) w := by
  obtain ⟨x, rfl⟩ := Int.eq_ofNat_of_zero_le hx
  obtain ⟨y, rfl⟩ := Int.eq_ofNat_of_zero_le hy
  obtain ⟨b, rfl⟩ := Int.eq_ofNat_of_zero_le hb0
  have e1 : (((x + 18446744073709551616 - y - b) % 18446744073709551616 : Nat) : Int) = ((x : Int) - y - b) % 18446744073709551616 := by omega
  have e2 : ((if x < y + b then 1 else 0 : Nat) : Int) = if (x : Int) < y + b then 1 else 0 := by split <;> split <;> omega
  rw [← e1, ← e2, run_callFunc_extern Tryd.func57 (by kernel_rfl) (by kernel_rfl) (by kernel_rfl) (e := sub64Entry) (by kernel_rfl), run_sub64 x y b (by omega)]
  rfl

/-- One step of a difference. -/
theorem sub_step (x y c : Int) (hx : Wd x) (hy : Wd y) (hc : 0 ≤ c ∧ c ≤ 1) : ∃ s d : Int, Wd s ∧ (0 ≤ d ∧ d ≤ 1) ∧ Hid (x - y - c = s - 18446744073709551616 * d) ∧
    ∀ w : World, (callFunc 57 #[.int .u64 x, .int .u64 y, .int .u64 c]).run Tryd.prog w = .ok (.value (.tuple #[.int .u64 s, .int .u64 d])) w :=
  have ⟨x0, x1⟩ := hx; have ⟨y0, y1⟩ := hy; ⟨_, _, ⟨by omega, by omega⟩, ⟨by split <;> omega, by split <;> omega⟩, by unfold Hid; split <;> omega, fun w => sub64 x y c hx.1 hy.1 hy.2 hc.1 hc.2 w⟩

/-- One step of a product: the two words as numbers of their own. -/
theorem mul_step (x y : Int) (hx : Wd x) (hy : Wd y) : ∃ h l : Int, Wd l ∧ (0 ≤ h ∧ h ≤ 18446744073709551614) ∧ Hid (x * y = l + 18446744073709551616 * h) ∧
    ∀ w : World, Calls Tryd.prog 56 #[.int .u64 x, .int .u64 y] w fun e w' => e = .returned (.tuple #[.int .u64 h, .int .u64 l]) ∧ w' = w := by
  have hb := words_mul x y hx hy
  obtain ⟨x0, x1⟩ := hx
  obtain ⟨y0, y1⟩ := hy
  obtain ⟨x, rfl⟩ := Int.eq_ofNat_of_zero_le x0
  obtain ⟨y, rfl⟩ := Int.eq_ofNat_of_zero_le y0
  have e : (x : Int) * (y : Int) = ((x * y : Nat) : Int) := (Int.natCast_mul x y).symm
  have c := fun w => mul64_any x y (by omega) (by omega) w
  rw [e] at hb
  refine ⟨_, _, ?_, ?_, ?_, c⟩
  · unfold Wd; omega
  · omega
  · unfold Hid; rw [e]; omega

/-! ### An element of an array of four words, by value -/
theorem idx4_0 (k : IntKind) (v0 v1 v2 v3 : Int) (w : World) : (Instr.index 24 (.agg #[.int k v0, .int k v1, .int k v2, .int k v3]) (.int .i64 0)).run Tryd.prog w = .ok (.int k v0) w := by
  simp [Instr.index, run_underlying Tryd.underlying24, asIntOf, go_sem]
theorem idx4_1 (k : IntKind) (v0 v1 v2 v3 : Int) (w : World) : (Instr.index 24 (.agg #[.int k v0, .int k v1, .int k v2, .int k v3]) (.int .i64 1)).run Tryd.prog w = .ok (.int k v1) w := by
  simp [Instr.index, run_underlying Tryd.underlying24, asIntOf, go_sem]
theorem idx4_2 (k : IntKind) (v0 v1 v2 v3 : Int) (w : World) : (Instr.index 24 (.agg #[.int k v0, .int k v1, .int k v2, .int k v3]) (.int .i64 2)).run Tryd.prog w = .ok (.int k v2) w := by
  simp [Instr.index, run_underlying Tryd.underlying24, asIntOf, go_sem]
theorem idx4_3 (k : IntKind) (v0 v1 v2 v3 : Int) (w : World) : (Instr.index 24 (.agg #[.int k v0, .int k v1, .int k v2, .int k v3]) (.int .i64 3)).run Tryd.prog w = .ok (.int k v3) w := by
  simp [Instr.index, run_underlying Tryd.underlying24, asIntOf, go_sem]

end Go.Proofs.YtlpmbhneffdcfaaDoor
