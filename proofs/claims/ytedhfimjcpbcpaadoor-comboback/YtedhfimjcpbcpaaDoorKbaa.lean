/-
  A number below 2^256 as the value of an array of four words, the lowest first, and back. No program is spoken of here.
-/
import Derived.WalkKit
import Derived.Test.YtedhfimjcpbcpaaDoorRows
import Derived.ProofKit
import Derived.Laws.IdiomArrays
import Derived.OpenShut
import Derived.ShutString
import Derived.ChangeOld
import Derived.Below
import Derived.Shelf.Strconv.Itoa0
import Derived.Shelf.Bits.Mul64
import Derived.Test.YtedhfimjcpbcpaaDoorProg
import Derived.WalkSpells
import Derived.WalkLawsBesides
import Derived.BigQuiet
import Derived.BigRegion
import Derived.Deep.RegionHeld3
import Derived.Deep.QuietTactic
import Derived.Laws.Externs
import Derived.Shelf.Spec.BitsCarry
import Derived.Lib.BitFns
import Derived.Laws.Bits64b
namespace Go.Proofs.YtedhfimjcpbcpaaDoor

/-- The four words of a number. -/
def four (x : Nat) : Value := .agg #[.int .u64 ((x % 18446744073709551616 : Nat) : Int), .int .u64 ((x / 18446744073709551616 % 18446744073709551616 : Nat) : Int),
  .int .u64 ((x / 340282366920938463463374607431768211456 % 18446744073709551616 : Nat) : Int), .int .u64 ((x / 6277101735386680763835789423207666416102355444464034512896 % 18446744073709551616 : Nat) : Int)]

/-- A word. -/
def Wd (x : Int) : Prop := 0 ≤ x ∧ x < 18446744073709551616

/-- 2^256. -/
def M4 : Nat := 115792089237316195423570985008687907853269984665640564039457584007913129639936

theorem four_open (x : Nat) (hx : x < M4) : ∃ a0 a1 a2 a3 : Int, Wd a0 ∧ Wd a1 ∧ Wd a2 ∧ Wd a3 ∧ four x = .agg #[.int .u64 a0, .int .u64 a1, .int .u64 a2, .int .u64 a3] ∧
    (x : Int) = a0 + 18446744073709551616 * a1 + 340282366920938463463374607431768211456 * a2 + 6277101735386680763835789423207666416102355444464034512896 * a3 := by
  unfold M4 at hx
  unfold Wd
  exact ⟨_, _, _, _, by omega, by omega, by omega, by omega, rfl, by omega⟩

theorem four_eq (x : Nat) (a0 a1 a2 a3 : Int) (h0 : Wd a0) (h1 : Wd a1) (h2 : Wd a2) (h3 : Wd a3)
    (h : (x : Int) = a0 + 18446744073709551616 * a1 + 340282366920938463463374607431768211456 * a2 + 6277101735386680763835789423207666416102355444464034512896 * a3) :
    four x = .agg #[.int .u64 a0, .int .u64 a1, .int .u64 a2, .int .u64 a3] := by
  unfold Wd at *
  unfold four
  have e0 : ((x % 18446744073709551616 : Nat) : Int) = a0 := by omega
  have e1 : ((x / 18446744073709551616 % 18446744073709551616 : Nat) : Int) = a1 := by omega
  have e2 : ((x / 340282366920938463463374607431768211456 % 18446744073709551616 : Nat) : Int) = a2 := by omega
  have e3 : ((x / 6277101735386680763835789423207666416102355444464034512896 % 18446744073709551616 : Nat) : Int) = a3 := by omega
  rw [e0, e1, e2, e3]

theorem four_inj {x y : Nat} (hx : x < M4) (hy : y < M4) (h : four x = four y) : x = y := by
  unfold M4 at hx hy
  unfold four at h
  simp only [Value.agg.injEq, Array.mk.injEq, List.cons.injEq, Value.int.injEq, true_and, and_true] at h
  omega

/-- The words of the four that are given. -/
theorem four_of (a0 a1 a2 a3 : Int) (h0 : Wd a0) (h1 : Wd a1) (h2 : Wd a2) (h3 : Wd a3) : ∃ x : Nat, x < M4 ∧ four x = .agg #[.int .u64 a0, .int .u64 a1, .int .u64 a2, .int .u64 a3] := by
  refine ⟨(a0 + 18446744073709551616 * a1 + 340282366920938463463374607431768211456 * a2 + 6277101735386680763835789423207666416102355444464034512896 * a3).toNat, ?_, ?_⟩
  · unfold Wd at *; unfold M4; omega
  · refine four_eq _ _ _ _ _ h0 h1 h2 h3 ?_
    unfold Wd at *; omega

theorem addV (x y : Nat) (a0 a1 a2 a3 b0 b1 b2 b3 s0 s1 s2 s3 c0 c1 c2 c3 : Int) (hs0 : Wd s0) (hs1 : Wd s1) (hs2 : Wd s2) (hs3 : Wd s3)
    (hx : (x : Int) = a0 + 18446744073709551616 * a1 + 340282366920938463463374607431768211456 * a2 + 6277101735386680763835789423207666416102355444464034512896 * a3)
    (hy : (y : Int) = b0 + 18446744073709551616 * b1 + 340282366920938463463374607431768211456 * b2 + 6277101735386680763835789423207666416102355444464034512896 * b3)
    (E0 : a0 + b0 + 0 = s0 + 18446744073709551616 * c0) (E1 : a1 + b1 + c0 = s1 + 18446744073709551616 * c1) (E2 : a2 + b2 + c1 = s2 + 18446744073709551616 * c2) (E3 : a3 + b3 + c2 = s3 + 18446744073709551616 * c3) :
    four ((x + y) % M4) = .agg #[.int .u64 s0, .int .u64 s1, .int .u64 s2, .int .u64 s3] ∧ (((x + y) / M4 : Nat) : Int) = c3 := by
  have h : ((x + y : Nat) : Int) = (s0 + 18446744073709551616 * s1 + 340282366920938463463374607431768211456 * s2 + 6277101735386680763835789423207666416102355444464034512896 * s3) + 115792089237316195423570985008687907853269984665640564039457584007913129639936 * c3 := by omega
  clear hx hy E0 E1 E2 E3
  generalize x + y = z at *
  unfold M4
  unfold Wd at *
  refine ⟨four_eq _ _ _ _ _ hs0 hs1 hs2 hs3 ?_, ?_⟩ <;> omega

/-- What is borrowed. -/
def bor (x y : Nat) : Int := if x < y then 1 else 0

theorem subV (x y : Nat) (hy' : y < M4) (a0 a1 a2 a3 b0 b1 b2 b3 s0 s1 s2 s3 c0 c1 c2 c3 : Int) (hs0 : Wd s0) (hs1 : Wd s1) (hs2 : Wd s2) (hs3 : Wd s3) (hc3 : 0 ≤ c3 ∧ c3 ≤ 1)
    (hx : (x : Int) = a0 + 18446744073709551616 * a1 + 340282366920938463463374607431768211456 * a2 + 6277101735386680763835789423207666416102355444464034512896 * a3)
    (hy : (y : Int) = b0 + 18446744073709551616 * b1 + 340282366920938463463374607431768211456 * b2 + 6277101735386680763835789423207666416102355444464034512896 * b3)
    (E0 : a0 - b0 - 0 = s0 - 18446744073709551616 * c0) (E1 : a1 - b1 - c0 = s1 - 18446744073709551616 * c1) (E2 : a2 - b2 - c1 = s2 - 18446744073709551616 * c2) (E3 : a3 - b3 - c2 = s3 - 18446744073709551616 * c3) :
    four ((x + M4 - y) % M4) = .agg #[.int .u64 s0, .int .u64 s1, .int .u64 s2, .int .u64 s3] ∧ bor x y = c3 := by
  have h : (x : Int) - y = (s0 + 18446744073709551616 * s1 + 340282366920938463463374607431768211456 * s2 + 6277101735386680763835789423207666416102355444464034512896 * s3) - 115792089237316195423570985008687907853269984665640564039457584007913129639936 * c3 := by omega
  clear hx hy E0 E1 E2 E3
  unfold M4 at *
  unfold Wd at *
  have h2 : ((x + 115792089237316195423570985008687907853269984665640564039457584007913129639936 - y : Nat) : Int) = (s0 + 18446744073709551616 * s1 + 340282366920938463463374607431768211456 * s2 + 6277101735386680763835789423207666416102355444464034512896 * s3) + 115792089237316195423570985008687907853269984665640564039457584007913129639936 * (1 - c3) := by omega
  refine ⟨four_eq _ _ _ _ _ hs0 hs1 hs2 hs3 ?_, ?_⟩
  · generalize x + 115792089237316195423570985008687907853269984665640564039457584007913129639936 - y = z at *
    clear h
    omega
  · unfold bor; split <;> omega

/-- A product of two words, as two words of their own. -/
theorem words_mul (x y : Int) (hx : Wd x) (hy : Wd y) : 0 ≤ x * y ∧ x * y ≤ 340282366920938463426481119284349108225 := by
  obtain ⟨x0, x1⟩ := hx
  obtain ⟨y0, y1⟩ := hy
  refine ⟨Int.mul_nonneg x0 y0, ?_⟩
  have := Int.mul_le_mul (show x ≤ 18446744073709551615 by omega) (show y ≤ 18446744073709551615 by omega) y0 (by omega)
  simpa using this

end Go.Proofs.YtedhfimjcpbcpaaDoor

/-
  How an argument that is an array of four words is opened: it is the four words of a number below 2^256. Conditions: none beyond those written.
-/
namespace Go.Proofs.YtedhfimjcpbcpaaDoor
open Go.ChangeShapes Go.WideShapes Go.ChangeAt Go.RowKit
set_option linter.unusedVariables false

theorem own : ownKnob Tryd.prog.godebug = none := by kernel_rfl
theorem laidOut : laidOutB Tryd.prog = true := by kernel_rfl

theorem arr4 {α : Type} {cs : Array α} (h : cs.size = 4) : ∃ c0 c1 c2 c3, cs = #[c0, c1, c2, c3] := by
  obtain ⟨l⟩ := cs
  match l, h with
  | [c0, c1, c2, c3], _ => exact ⟨c0, c1, c2, c3, rfl⟩

theorem wd_of_wf {x : Int} (h : (Lit.int .u64 x).wf = true) : Wd x := by
  simp [Lit.wf, IntKind.min, IntKind.max, IntKind.signed, IntKind.bits] at h
  exact ⟨by omega, by omega⟩

set_option maxRecDepth 100000 in
theorem open_four {H : Type} {enc : TypeId × Value → H} {W : World} {b base : Nat} {r : Reach} {spare : Nat → Bool} {held : Bool} {v : Value} {d : DataW H} {p : List MemPlace}
    (hv : Value.okWide Tryd.prog W r base 25 v) (h : DataW.Trod enc Tryd.prog W b spare held 25 v d p) : ∃ x : Nat, x < M4 ∧ v = four x := by
  unfold Value.okWide at hv
  rw [Tryd.underlying25] at hv
  obtain ⟨cs, rfl, hsz, _⟩ := hv
  obtain ⟨c0, c1, c2, c3, rfl⟩ := arr4 (hsz.trans (by kernel_rfl))
  obtain ⟨fuel, hf⟩ := h
  obtain ⟨y0, y1, y2, y3, n, _, h0, h1, h2, h3⟩ := trod_array4 Tryd.underlying25 (by kernel_rfl) (by simpa [Value.cells] using hf)
  obtain ⟨a0, e0, _, w0⟩ := DataW.trod_int Tryd.underlying23 h0
  obtain ⟨a1, e1, _, w1⟩ := DataW.trod_int Tryd.underlying23 h1
  obtain ⟨a2, e2, _, w2⟩ := DataW.trod_int Tryd.underlying23 h2
  obtain ⟨a3, e3, _, w3⟩ := DataW.trod_int Tryd.underlying23 h3
  simp only [List.cons.injEq, and_true] at e0 e1 e2 e3
  obtain ⟨x, hx, ex⟩ := four_of a0 a1 a2 a3 (wd_of_wf w0) (wd_of_wf w1) (wd_of_wf w2) (wd_of_wf w3)
  exact ⟨x, hx, by rw [ex, e0, e1, e2, e3]⟩

end Go.Proofs.YtedhfimjcpbcpaaDoor

/-
  The library's contracts of Len64 and Mul64 laid at this program: each returns the number of bits, or the two words of the product, and leaves the world as it was. Conditions: both arguments are words.
-/
namespace Go.Proofs.YtedhfimjcpbcpaaDoor
open Go.Shelf
def lays129_ren : Go.Shelf.Ren := ⟨fun | 129 => 117 | n => n, fun | 53 => 23 | 3 => 3 | 4 => 4 | 46 => 123 | 5 => 5 | 9 => 9 | n => n, fun | n => n⟩
theorem lays129 : Go.Proofs.Lays.n129 Tryd.prog lays129_ren := {
  mixed := by kernel_rfl
  f129 := Tryd.func117.trans (congrArg some (by kernel_rfl))
  t3 := Tryd.underlying3
  a3 := Tryd.isAgg3
  z3 := Tryd.sizeOf3
  v3 := Tryd.zeroValue3
  t4 := Tryd.underlying4
  a4 := Tryd.isAgg4
  z4 := Tryd.sizeOf4
  v4 := Tryd.zeroValue4
  t5 := Tryd.underlying5
  a5 := Tryd.isAgg5
  z5 := Tryd.sizeOf5
  v5 := Tryd.zeroValue5
  t9 := Tryd.underlying9
  a9 := Tryd.isAgg9
  z9 := Tryd.sizeOf9
  v9 := Tryd.zeroValue9
  t46 := Tryd.underlying123
  a46 := Tryd.isAgg123
  z46 := Tryd.sizeOf123
  v46 := Tryd.zeroValue123
  t53 := Tryd.underlying23
  a53 := Tryd.isAgg23
  z53 := Tryd.sizeOf23
  v53 := Tryd.zeroValue23 }
theorem len64_any (x : Int) (w : World) (h0 : 0 ≤ x) (h1 : x ≤ 18446744073709551615) :
    Calls Tryd.prog 117 #[.int .u64 x] w fun e w' => e = .returned (.int .i64 (Lib.bitLen x.toNat)) ∧ w' = w := Any.bits_Len64 lays129 x w h0 h1
def lays264_ren : Go.Shelf.Ren := ⟨fun | 264 => 114 | n => n, fun | 53 => 23 | 46 => 123 | n => n, fun | n => n⟩
theorem lays264 : Go.Proofs.Lays.n264 Tryd.prog lays264_ren := {
  mixed := by kernel_rfl
  f264 := Tryd.func114.trans (congrArg some (by kernel_rfl))
  t46 := Tryd.underlying123
  a46 := Tryd.isAgg123
  z46 := Tryd.sizeOf123
  v46 := Tryd.zeroValue123
  t53 := Tryd.underlying23
  a53 := Tryd.isAgg23
  z53 := Tryd.sizeOf23
  v53 := Tryd.zeroValue23 }
theorem mul64_any (x y : Nat) (hx : x < 18446744073709551616) (hy : y < 18446744073709551616) (w : World) :
    Calls Tryd.prog 114 #[.int .u64 x, .int .u64 y] w fun e w' => e = .returned (.tuple #[.int .u64 ((x * y / 18446744073709551616 : Nat) : Int), .int .u64 ((x * y % 18446744073709551616 : Nat) : Int)]) ∧ w' = w := Any.bits_Mul64 lays264 x y hx hy w
end Go.Proofs.YtedhfimjcpbcpaaDoor

/-
  The ground of the proofs over this seat: a loop unrolled a known number of times, and the laws of the calls of math/bits.Add64 and Sub64 at this program's numbers. Its conditions: none beyond those written.
-/
namespace Go.Proofs.YtedhfimjcpbcpaaDoor
open Go.RowKit

theorem hold {P : Prop} (h : P) : Hid P := h
theorem ret_int {k : IntKind} {a b : Int} (h : a = b) : Ending.returned (.int k a) = .returned (.int k b) := by rw [h]

/-! ### A loop that is gone round at most n times -/
def unr (P : Program) (c : Code) (Q : Exit → Act → World → Prop) : Nat → Act → World → Prop
  | 0, _, _ => False
  | n + 1, a, w => c.wp P (Exit.then (unr P c Q n) Q) a w

theorem unr_key {P : Program} {c : Code} {Q : Exit → Act → World → Prop} (b : Frame) (k : List Item) (cs : List Frame) : ∀ (n : Nat) (a : Act) (w : World), unr P c Q n a w →
    ∃ e a' w', Q e a' w' ∧ Arrives P (lone (b.at a (.code c :: .inLoop c :: k)) cs w) b k cs e a' w' := by
  intro n
  induction n with
  | zero => intro a w h; exact h.elim
  | succ n ih =>
    intro a w h
    obtain ⟨e, a₁, w₁, hq, harr⟩ := h b (.inLoop c :: k) cs
    cases e with
    | normal =>
      obtain ⟨e₂, a₂, w₂, hq₂, harr₂⟩ := ih a₁ w₁ hq
      exact ⟨e₂, a₂, w₂, hq₂, .of_steps (Steps.trans harr (.one step_inLoop)) harr₂⟩
    | exit id => exact ⟨_, a₁, w₁, hq, .pass (x := .inLoop c) rfl (fun _ _ => .inl (by simp)) harr⟩
    | goto l => exact ⟨_, a₁, w₁, hq, .pass (x := .inLoop c) rfl (fun _ _ => .inl (by simp)) harr⟩
    | ret => exact ⟨_, a₁, w₁, hq, .pass (x := .inLoop c) rfl (fun _ _ => .inl (by simp)) harr⟩
    | panic ch => exact ⟨_, a₁, w₁, hq, .pass (x := .inLoop c) rfl (fun _ _ => .inl (by simp)) harr⟩
    | outgrown => exact ⟨_, a₁, w₁, hq, .pass (x := .inLoop c) rfl (fun _ _ => .inl (by simp)) harr⟩

theorem wp_unr {P : Program} {c : Code} {Q : Exit → Act → World → Prop} {a : Act} {w : World} (n : Nat) (h : unr P c Q n a w) : (Code.loop c).wp P Q a w := by
  intro b k cs
  obtain ⟨e, a', w', hq, harr⟩ := unr_key b k cs n a w h
  exact ⟨e, a', w', hq, .of_steps (.one step_loop) harr⟩

theorem unr_succ {P : Program} {c : Code} {Q : Exit → Act → World → Prop} {a : Act} {w : World} {n : Nat} (h : c.wp P (Exit.then (unr P c Q n) Q) a w) : unr P c Q (n + 1) a w := h

/-! ### math/bits.Add64, Sub64 -/
theorem add64 (x y c : Int) (hx : 0 ≤ x) (hy : 0 ≤ y) (hc0 : 0 ≤ c) (hc : c ≤ 1) (w : World) : (callFunc 69 #[.int .u64 x, .int .u64 y, .int .u64 c]).run Tryd.prog w =
    .ok (.value (.tuple #[.int .u64 ((x + y + c) % 18446744073709551616), .int .u64 ((x + y + c) / 18446744073709551616)])) w := by
  rw [run_callFunc_extern Tryd.func69 (by kernel_rfl) (by kernel_rfl) (by kernel_rfl) (e := add64Entry) (by kernel_rfl), run_add64 x y c hx hy hc0 hc]
  rfl

theorem sub64 (x y b : Int) (hx : 0 ≤ x) (hy : 0 ≤ y) (hy' : y < 18446744073709551616) (hb0 : 0 ≤ b) (hb : b ≤ 1) (w : World) : (callFunc 121 #[.int .u64 x, .int .u64 y, .int .u64 b]).run Tryd.prog w =
    .ok (.value (.tuple #[.int .u64 ((x - y - b) % 18446744073709551616), .int .u64 (if x < y + b then 1 else 0)])) w := by
  obtain ⟨x, rfl⟩ := Int.eq_ofNat_of_zero_le hx
  obtain ⟨y, rfl⟩ := Int.eq_ofNat_of_zero_le hy
  obtain ⟨b, rfl⟩ := Int.eq_ofNat_of_zero_le hb0
  have e1 : (((x + 18446744073709551616 - y - b) % 18446744073709551616 : Nat) : Int) = ((x : Int) - y - b) % 18446744073709551616 := by omega
  have e2 : ((if x < y + b then 1 else 0 : Nat) : Int) = if (x : Int) < y + b then 1 else 0 := by split <;> split <;> omega
  rw [← e1, ← e2, run_callFunc_extern Tryd.func121 (by kernel_rfl) (by kernel_rfl) (by kernel_rfl) (e := sub64Entry) (by kernel_rfl), run_sub64 x y b (by omega)]
  rfl

/-- One step of a sum: the word and the carry as numbers of their own. -/
theorem add_step (x y c : Int) (hx : Wd x) (hy : Wd y) (hc : 0 ≤ c ∧ c ≤ 1) : ∃ s d : Int, Wd s ∧ (0 ≤ d ∧ d ≤ 1) ∧ Hid (x + y + c = s + 18446744073709551616 * d) ∧
    ∀ w : World, (callFunc 69 #[.int .u64 x, .int .u64 y, .int .u64 c]).run Tryd.prog w = .ok (.value (.tuple #[.int .u64 s, .int .u64 d])) w :=
  have ⟨x0, x1⟩ := hx; have ⟨y0, y1⟩ := hy; ⟨_, _, ⟨by omega, by omega⟩, ⟨by omega, by omega⟩, by unfold Hid; omega, fun w => add64 x y c hx.1 hy.1 hc.1 hc.2 w⟩
/-- One step of a difference. -/
theorem sub_step (x y c : Int) (hx : Wd x) (hy : Wd y) (hc : 0 ≤ c ∧ c ≤ 1) : ∃ s d : Int, Wd s ∧ (0 ≤ d ∧ d ≤ 1) ∧ Hid (x - y - c = s - 18446744073709551616 * d) ∧
    ∀ w : World, (callFunc 121 #[.int .u64 x, .int .u64 y, .int .u64 c]).run Tryd.prog w = .ok (.value (.tuple #[.int .u64 s, .int .u64 d])) w :=
  have ⟨x0, x1⟩ := hx; have ⟨y0, y1⟩ := hy; ⟨_, _, ⟨by omega, by omega⟩, ⟨by split <;> omega, by split <;> omega⟩, by unfold Hid; split <;> omega, fun w => sub64 x y c hx.1 hy.1 hy.2 hc.1 hc.2 w⟩

/-- One step of a product: the two words as numbers of their own. -/
theorem mul_step (x y : Int) (hx : Wd x) (hy : Wd y) : ∃ h l : Int, Wd l ∧ (0 ≤ h ∧ h ≤ 18446744073709551614) ∧ Hid (x * y = l + 18446744073709551616 * h) ∧
    ∀ w : World, Calls Tryd.prog 114 #[.int .u64 x, .int .u64 y] w fun e w' => e = .returned (.tuple #[.int .u64 h, .int .u64 l]) ∧ w' = w := by
  have hb := words_mul x y hx hy
  obtain ⟨x0, x1⟩ := hx
  obtain ⟨y0, y1⟩ := hy
  obtain ⟨x, rfl⟩ := Int.eq_ofNat_of_zero_le x0
  obtain ⟨y, rfl⟩ := Int.eq_ofNat_of_zero_le y0
  have e : (x : Int) * (y : Int) = ((x * y : Nat) : Int) := (Int.natCast_mul x y).symm
  have c := fun w => mul64_any x y (by omega) (by omega) w
  rw [e] at hb
  refine ⟨_, _, ?_, ?_, ?_, c⟩
  · unfold Wd; omega
  · omega
  · unfold Hid; rw [e]; omega

/-! ### An element of an array of four words, by value -/
theorem idx4_0 (k : IntKind) (v0 v1 v2 v3 : Int) (w : World) : (Instr.index 25 (.agg #[.int k v0, .int k v1, .int k v2, .int k v3]) (.int .i64 0)).run Tryd.prog w = .ok (.int k v0) w := by
  simp [Instr.index, run_underlying Tryd.underlying25, asIntOf, go_sem]
theorem idx4_1 (k : IntKind) (v0 v1 v2 v3 : Int) (w : World) : (Instr.index 25 (.agg #[.int k v0, .int k v1, .int k v2, .int k v3]) (.int .i64 1)).run Tryd.prog w = .ok (.int k v1) w := by
  simp [Instr.index, run_underlying Tryd.underlying25, asIntOf, go_sem]
theorem idx4_2 (k : IntKind) (v0 v1 v2 v3 : Int) (w : World) : (Instr.index 25 (.agg #[.int k v0, .int k v1, .int k v2, .int k v3]) (.int .i64 2)).run Tryd.prog w = .ok (.int k v2) w := by
  simp [Instr.index, run_underlying Tryd.underlying25, asIntOf, go_sem]
theorem idx4_3 (k : IntKind) (v0 v1 v2 v3 : Int) (w : World) : (Instr.index 25 (.agg #[.int k v0, .int k v1, .int k v2, .int k v3]) (.int .i64 3)).run Tryd.prog w = .ok (.int k v3) w := by
  simp [Instr.index, run_underlying Tryd.underlying25, asIntOf, go_sem]

end Go.Proofs.YtedhfimjcpbcpaaDoor

/-
  Numbers as digits of 24 bits, the lowest first: their values, and how such digits lie in memory as a slice of ints. Conditions: none beyond those written.
-/
namespace Go.Proofs.YtedhfimjcpbcpaaDoor
open Go.RowKit
set_option linter.unusedVariables false

def valD : List Nat → Nat
  | [] => 0
  | d :: l => d + 16777216 * valD l
/-- Each digit is one. -/
def Dg (l : List Nat) : Prop := ∀ j, l.getD j 0 < 16777216
/-- No nought at the end. -/
def Nz (l : List Nat) : Prop := l = [] ∨ l.getD (l.length - 1) 0 ≠ 0

theorem getD_snoc (l : List Nat) (d j : Nat) : (l ++ [d]).getD j 0 = if j < l.length then l.getD j 0 else if j = l.length then d else 0 := by
  simp only [List.getD_eq_getElem?_getD]
  by_cases h : j < l.length
  · rw [if_pos h, List.getElem?_append_left h]
  · rw [if_neg h, List.getElem?_append_right (by omega)]
    by_cases e : j = l.length
    · subst e; simp
    · rw [if_neg e]
      rw [List.getElem?_eq_none (by simp; omega)]
      rfl
theorem Dg.snoc {l : List Nat} {d : Nat} (h : Dg l) (hd : d < 16777216) : Dg (l ++ [d]) := by
  intro j
  rw [getD_snoc]
  split
  · exact h j
  · split <;> omega
theorem Dg.nil : Dg [] := fun j => by simp
theorem Nz.snoc {l : List Nat} {d : Nat} (hd : d ≠ 0) : Nz (l ++ [d]) := by
  right
  rw [getD_snoc]
  simp [hd]
theorem valD_snoc : ∀ (l : List Nat) (d : Nat), valD (l ++ [d]) = valD l + 16777216 ^ l.length * d
  | [], d => by simp [valD]
  | x :: l, d => by
    simp only [List.cons_append, valD, valD_snoc l d, List.length_cons, Nat.pow_succ]
    rw [Nat.mul_add, Nat.add_assoc, ← Nat.mul_assoc, Nat.mul_comm 16777216 (16777216 ^ l.length)]
theorem valD_take (l : List Nat) : ∀ (i : Nat), valD (l.take (i + 1)) = valD (l.take i) + 16777216 ^ i * l.getD i 0 := by
  intro i
  by_cases h : i < l.length
  · rw [List.take_succ_eq_append_getElem h, valD_snoc, List.length_take, Nat.min_eq_left (by omega)]
    simp [List.getD_eq_getElem?_getD, h]
  · rw [List.take_of_length_le (by omega), List.take_of_length_le (by omega)]
    simp [List.getD_eq_getElem?_getD, List.getElem?_eq_none (show l.length ≤ i by omega)]
theorem valD_take_all (l : List Nat) (i : Nat) (h : l.length ≤ i) : valD (l.take i) = valD l := by rw [List.take_of_length_le h]
theorem valD_lt : ∀ (l : List Nat), Dg l → valD l < 16777216 ^ l.length
  | [], _ => by simp [valD]
  | d :: l, h => by
    have h0 := h 0
    have ih := valD_lt l (fun j => h (j + 1))
    simp only [List.getD_cons_zero] at h0
    simp only [valD, List.length_cons, Nat.pow_succ]
    omega
/-- The values of the digits. -/
def dv (l : List Nat) : List Value := l.map fun (d : Nat) => Value.int .i64 (d : Int)
theorem dv_length (l : List Nat) : (dv l).length = l.length := by simp [dv]
theorem dv_get (l : List Nat) (j : Nat) (h : j < l.length) : (dv l)[j]? = some (.int .i64 (l.getD j 0 : Int)) := by
  simp [dv, List.getD_eq_getElem?_getD, h]

/-- The slice v leads to the digits l. -/
def Sl (w : World) (v : Value) (l : List Nat) : Prop :=
  ∃ a cap, v = .slice a l.length cap ∧ l.length ≤ cap ∧ (a = none → l = [] ∧ cap = 0) ∧ ∀ j, j < l.length → ∃ b o, a = some ⟨b, o, none⟩ ∧ b < w.heap.size ∧ w.cell? ⟨b, o + j, none⟩ = some (.int .i64 (l.getD j 0 : Int))
theorem Sl.below {w w' : World} {v : Value} {l : List Nat} (h : Sl w v l) (hb : Below w.heap.size w w') : Sl w' v l := by
  obtain ⟨a, cap, h1, h2, h4, h3⟩ := h
  refine ⟨a, cap, h1, h2, h4, fun j hj => ?_⟩
  obtain ⟨b, o, e1, e2, e3⟩ := h3 j hj
  exact ⟨b, o, e1, Nat.lt_of_lt_of_le e2 hb.size, (hb.cell (p := ⟨b, o + j, none⟩) e2).trans e3⟩
theorem Sl.nil (w : World) : Sl w (.slice none 0 0) [] := ⟨none, 0, rfl, Nat.le_refl _, fun _ => ⟨rfl, rfl⟩, fun j hj => by simp at hj⟩

/-- The slice v leads to the digits of the number N, without noughts at the end. -/
def Num (w : World) (v : Value) (N : Nat) : Prop := ∃ l, Sl w v l ∧ Dg l ∧ Nz l ∧ valD l = N
theorem Num.below {w w' : World} {v : Value} {N : Nat} (h : Num w v N) (hb : Below w.heap.size w w') : Num w' v N := by
  obtain ⟨l, h1, h2, h3, h4⟩ := h
  exact ⟨l, h1.below hb, h2, h3, h4⟩

/-- The call's own slice, with the digits l. -/
def Own (base : Nat) (w : World) (v : Value) (l : List Nat) : Prop := w.ownsRow base 3 1 v l.length (dv l)
theorem Own.nil (base : Nat) (w : World) : Own base w (.slice none 0 0) [] := World.ownsRow_nil _ _ _ _
theorem Own.alloc {base : Nat} {w : World} {v : Value} {l : List Nat} (h : Own base w v l) (o : Obj) : Own base (w.alloc o) v l := World.ownsRow.alloc h o
theorem Own.sl {base : Nat} {w : World} {v : Value} {l : List Nat} (h : Own base w v l) : Sl w v l := by
  obtain ⟨h1, h2⟩ := h
  rcases h2 with ⟨e, e0⟩ | ⟨g, cap, cur, e, hg, hh, hn, hm, hc, ht⟩
  · have : l = [] := List.eq_nil_of_length_eq_zero e0
    subst this
    rw [e]
    exact Sl.nil w
  · refine ⟨some ⟨g, 0, none⟩, cap, e, hn, fun h => by simp at h, fun j hj => ⟨g, 0, rfl, ?_, ?_⟩⟩
    · rcases Nat.lt_or_ge g w.heap.size with h' | h'
      · exact h'
      · rw [Array.getElem?_eq_none h'] at hh; cases hh
    · have hj' : j < cur.size := by omega
      have : (cur.toList.take (l.length * 1))[j]? = some (.int .i64 (l.getD j 0 : Int)) := by rw [ht]; exact dv_get l j hj
      rw [List.getElem?_take, if_pos (by omega)] at this
      simp only [World.cell?, hh, Nat.zero_add]
      simpa using this

theorem info_int : (Tryd.prog.info? 3).map (fun i => (i.zero, i.size, i.bytes)) = some (some (.int .i64 0), 1, 8) := by kernel_rfl

/-- 'out = append(out, d)' on the call's own slice. -/
theorem wpList_app1 {ops : Array Oper} {rest : List Oper} {o : Oper} {a : Act} {Q : Exit → Act → World → Prop} {wr : World} (hgd : o.guard = none) (s x : Operand)
    (ho : o.op = .call { callee := .builtin .append, args := #[s, x], argTypes := #[35, 35] })
    (base : Nat) (v : Value) (l : List Nat) (d : Nat) (z : Int) (hz : z = (d : Int)) (hs : a.eval s = v) (hown : Own base wr v l)
    (hx : a.eval x = .slice (some ⟨wr.heap.size, 0, none⟩) 1 1) (hlen : l.length ≤ 1000000) (hbase : base ≤ wr.heap.size)
    (h : ∀ v' w', Own base w' v' (l ++ [d]) → Below base wr w' → wpList Tryd.prog ops Q rest (a.put o.dst v') w') :
    wpList Tryd.prog ops Q (o :: rest) a (wr.alloc (.cells #[.int .i64 z] 3)) := by
  subst hz
  obtain ⟨i0, hi, hz0, hz1, hz2⟩ := info_parts info_int
  refine wpList_append_own _ hgd s x 35 ho base 3 i0 (.int .i64 0) 1 8 Tryd.underlying35 hi hz0 hz1 hz2 rfl (by decide) v _ _ hs (hown.alloc _) ⟨wr.heap.size, 0, none⟩ 1 1 [.int .i64 (d : Int)] hx rfl ?_ ?_ ?_ ?_ ?_ ?_
  · intro j u hj
    match j, hj with
    | 0, hj => simp at hj; subst hj; simp [Addr.add]
  · intro u hu; simp at hu; subst hu; rfl
  · unfold maxLen; omega
  · omega
  · simp; omega
  · intro v' w' h1 h2 _
    refine h v' w' ?_ ?_
    · unfold Own
      have e : dv (l ++ [d]) = dv l ++ [.int .i64 (d : Int)] := by simp [dv]
      rw [e]
      simpa using h1
    · refine Below.grown (Below.alloc (Below.refl _ _) hbase _) h2 (by simp; omega) ?_
      intro k hk
      rcases hown.2 with ⟨e, _⟩ | ⟨g, cap, cur, e, hg, _⟩
      · rw [e] at hk; simp [Value.ownBlock] at hk
      · rw [e] at hk; simp [Value.ownBlock] at hk; omega

end Go.Proofs.YtedhfimjcpbcpaaDoor

/-
  The contracts of the document's own Pow2, Trim and Int over digits of 24 bits: powers of two, digits without noughts at the end, the digits of a number. Conditions: as each theorem says.
-/
namespace Go.Proofs.YtedhfimjcpbcpaaDoor
open Go.RowKit
set_option linter.unusedVariables false

set_option maxHeartbeats 400000 in
theorem pow2_any (n : Nat) (hn : n ≤ 61) (w : World) : Calls Tryd.prog 86 #[.int .i64 (n : Int)] w fun e w' => e = .returned (.int .i64 ((2 ^ n : Nat) : Int)) ∧ w' = w := by
  have hn' : (n : Int) ≤ 61 := by omega
  go_enter Tryd.func86, Tryd.ntmps86
  go_wp2
  go_loop [3, 4] (fun x i => ∃ k : Nat, k ≤ n ∧ i = .int .i64 k ∧ ∃ p : Nat, Hid (p = 2 ^ k) ∧ x = .int .i64 (p : Int)) (fun _ i => n - (intOf i).toNat)
  case atStart => exact ⟨0, Nat.zero_le _, rfl, 1, rfl, rfl⟩
  case round =>
    obtain ⟨k, hk, rfl, p, hp, rfl⟩ := hrel
    by_cases hlt : k < n
    · have hlt' : (k : Int) < n := by omega
      have hb : (p : Int) ≤ 1152921504606846976 := by
        have : p ≤ 2 ^ 60 := by rw [hp.out]; exact Nat.pow_le_pow_right (by omega) (by omega)
        omega
      go_wp2
      go_round
      case rel => exact ⟨k + 1, by omega, by go_num, 2 * p, by unfold Hid at *; rw [hp, Nat.pow_succ, Nat.mul_comm], by go_num⟩
      case measure => simp [intOf]; omega
    · obtain rfl : k = n := by omega
      go_wp2
      go_ret
      exact ⟨ret_int (by rw [hp.out]; simp), rfl⟩

set_option maxHeartbeats 400000 in
theorem trim_any (l : List Nat) (v : Value) (w : World) (h : Sl w v l) (hl : l.length ≤ 1000000) (hd : Dg l) :
    Calls Tryd.prog 87 #[v] w fun e w' => ∃ v', e = .returned v' ∧ Num w v' (valD l) ∧ w' = w := by
  obtain ⟨a, cap, rfl, hcap, hnil, hc⟩ := h
  have Hc : Hid _ := hc
  clear hc
  go_enter Tryd.func87, Tryd.ntmps87
  go_wp2
  go_loop [3] (fun x => ∃ n : Nat, n ≤ l.length ∧ x = .int .i64 n ∧ Hid (valD (l.take n) = valD l)) (fun x => (intOf x).toNat)
  case atStart => exact ⟨l.length, Nat.le_refl _, rfl, by unfold Hid; rw [List.take_length]⟩
  case round =>
    obtain ⟨n, hn, rfl, hv⟩ := hrel
    cases n with
    | zero =>
      have hv' : valD l = 0 := by rw [← hv.out]; rfl
      have H : Hid (Num w (.slice a 0 cap) (valD l)) := ⟨[], ⟨a, cap, rfl, Nat.zero_le _, fun h => ⟨rfl, (hnil h).2⟩, fun j hj => by simp at hj⟩, Dg.nil, Or.inl rfl, hv'.symm⟩
      clear hv'
      go_wp2
      go_ret
      exact ⟨_, rfl, H.out, rfl⟩
    | succ n =>
      obtain ⟨b, o, rfl, hb, hcell⟩ := Hc.out n (by omega)
      obtain ⟨d, hd'⟩ : ∃ d, Hid (l.getD n 0 = d) := ⟨_, rfl⟩
      rw [hd'.out] at hcell
      have hn' : (n : Int) + 1 ≤ l.length := by omega
      by_cases hz : d = 0
      · subst hz
        go_wp2
        go_round
        case rel =>
          refine ⟨n, by omega, by go_num, ?_⟩
          have := valD_take l n
          rw [hd'.out] at this
          unfold Hid at *
          omega
        case measure => simp [intOf]
      · have hz' : ((d : Int) == 0) = false := by simp [hz]
        have H : Hid (Num w (.slice (some ⟨b, o, none⟩) (n + 1) cap) (valD l)) := by
          have e : (l.take (n + 1)).length = n + 1 := by rw [List.length_take]; omega
          have g : ∀ j, j < n + 1 → (l.take (n + 1)).getD j 0 = l.getD j 0 := fun j hj => by
            simp [List.getD_eq_getElem?_getD, hj]
          refine ⟨l.take (n + 1), ⟨some ⟨b, o, none⟩, cap, by rw [e], by omega, fun h => (by simp at h), fun j hj => ?_⟩, fun j => ?_, Or.inr ?_, hv.out⟩
          · obtain ⟨b', o', e1, e2, e3⟩ := Hc.out j (by omega)
            rw [g j (by omega)]
            exact ⟨b', o', e1, e2, e3⟩
          · by_cases hj : j < n + 1
            · rw [g j hj]; exact hd j
            · rw [List.getD_eq_getElem?_getD, List.getElem?_eq_none (by omega)]; decide
          · rw [e, show n + 1 - 1 = n by omega, g n (by omega), hd'.out]; exact hz
        clear hz
        go_wp2
        go_ret
        exact ⟨_, rfl, H.out, rfl⟩

set_option maxHeartbeats 1000000 in
/-- The digits of a number that fits an int. -/
theorem int_any (n : Nat) (hn : n ≤ 9223372036854775807) (w : World) : Calls Tryd.prog 64 #[.int .i64 (n : Int)] w fun e w' => ∃ v, e = .returned v ∧ Num w' v n ∧ Below w.heap.size w w' := by
  go_enter Tryd.func64, Tryd.ntmps64
  go_wp2
  go_loopw [0, 3] (fun x v wr => ∃ (m : Nat) (l : List Nat), x = .int .i64 m ∧ Own w.heap.size wr v l ∧ Below w.heap.size w wr ∧ Hid (Dg l ∧ l.length ≤ 3 ∧ valD l + 16777216 ^ l.length * m = n ∧ (m = 0 → Nz l))) (fun x _ _ => (intOf x).toNat)
  case atStart => exact ⟨n, [], rfl, Own.nil _ _, Below.refl _ _, Dg.nil, by simp, by simp [valD], fun _ => Or.inl rfl⟩
  case round =>
    obtain ⟨m, l, rfl, hown, hbel, h1, h2, h3, h4⟩ := hrel
    have hmn : m ≤ n := by
      have : 1 * m ≤ 16777216 ^ l.length * m := Nat.mul_le_mul_right _ (Nat.pos_of_ne_zero (by simp))
      omega
    have hm' : (m : Int) ≤ 9223372036854775807 := by omega
    by_cases hm : 0 < m
    · have hl : l.length ≤ 2 := by
        rcases Nat.lt_or_ge l.length 3 with h | h
        · omega
        · have e : l.length = 3 := by omega
          rw [e] at h3
          omega
      have hpos : (0 : Int) < m := by omega
      have R : Hid (Dg (l ++ [m % 16777216]) ∧ (l ++ [m % 16777216]).length ≤ 3 ∧ valD (l ++ [m % 16777216]) + 16777216 ^ (l ++ [m % 16777216]).length * (m / 16777216) = n ∧ (m / 16777216 = 0 → Nz (l ++ [m % 16777216]))) := by
        refine ⟨h1.snoc (Nat.mod_lt _ (by omega)), by simp; omega, ?_, fun hz => Nz.snoc (by omega)⟩
        rw [valD_snoc, List.length_append, List.length_singleton, Nat.pow_succ, Nat.mul_assoc, Nat.add_assoc, ← Nat.mul_add, Nat.mod_add_div]
        exact h3
      have hsz := hbel.size
      have Hb : Hid (Below w.heap.size w wr) := hbel
      have Ho : Hid (Own w.heap.size wr u3 l) := hown
      have Hl : Hid _ := hl
      clear h1 h2 h3 h4 hown hbel
      go_wp2_with (at_builtin; refine wpList_app1 rfl _ _ rfl w.heap.size u3 l (m % 16777216) _ (by omega) rfl Ho.out rfl (by omega) hsz ?_; intro v' w1 hown' hb')
      go_roundw
      case rel => exact ⟨m / 16777216, _, by go_num, hown', Hb.out.trans hb', R⟩
      case measure => simp [intOf]; omega
    · obtain rfl : m = 0 := by omega
      have R : Hid _ := (⟨l, hown.sl, h1, h4 rfl, by simpa using h3⟩ : Num wr u3 n)
      clear h1 h2 h3 h4
      go_wp2
      go_ret
      exact ⟨_, rfl, R.out, hbel⟩

end Go.Proofs.YtedhfimjcpbcpaaDoor

/-
  The contract of the document's own Add over digits of 24 bits: the digits of the sum. Conditions: as the theorem says.
-/
namespace Go.Proofs.YtedhfimjcpbcpaaDoor
open Go.RowKit
set_option linter.unusedVariables false

theorem addD_step (la lb o : List Nat) (i c x y : Nat) (hi : o.length = i) (hx : la.getD i 0 = x) (hy : lb.getD i 0 = y) (h : valD o + 16777216 ^ i * c = valD (la.take i) + valD (lb.take i)) :
    valD (o ++ [(c + x + y) % 16777216]) + 16777216 ^ (i + 1) * ((c + x + y) / 16777216) = valD (la.take (i + 1)) + valD (lb.take (i + 1)) := by
  rw [valD_snoc, valD_take, valD_take, hi, hx, hy, Nat.pow_succ, Nat.mul_assoc, Nat.add_assoc, ← Nat.mul_add, Nat.mod_add_div, Nat.mul_add, Nat.mul_add]
  omega
theorem getD_ge (l : List Nat) (i : Nat) (h : l.length ≤ i) : l.getD i 0 = 0 := by
  rw [List.getD_eq_getElem?_getD, List.getElem?_eq_none h]; rfl

/-- A sum's state behind i rounds. -/
def AddAt (la lb : List Nat) (i c : Nat) (o : List Nat) : Prop :=
  o.length = i ∧ Dg o ∧ c ≤ 1 ∧ i ≤ max la.length lb.length + 1 ∧ valD o + 16777216 ^ i * c = valD (la.take i) + valD (lb.take i)
theorem AddAt.step {la lb : List Nat} {i c : Nat} {o : List Nat} (h : AddAt la lb i c o) (x y : Nat) (hx : la.getD i 0 = x) (hy : lb.getD i 0 = y) (hda : Dg la) (hdb : Dg lb) (hi : i ≤ max la.length lb.length) :
    AddAt la lb (i + 1) ((c + x + y) / 16777216) (o ++ [(c + x + y) % 16777216]) := by
  obtain ⟨h1, h2, h3, h4, h5⟩ := h
  have := hda i
  have := hdb i
  refine ⟨by simp [h1], h2.snoc (Nat.mod_lt _ (by omega)), ?_, by omega, addD_step la lb o i c x y h1 hx hy h5⟩
  omega

set_option maxHeartbeats 4000000 in
theorem addR_any (la lb : List Nat) (va vb : Value) (w : World) (ha : Sl w va la) (hb : Sl w vb lb) (hda : Dg la) (hdb : Dg lb) (hla : la.length ≤ 100000) (hlb : lb.length ≤ 100000) :
    Calls Tryd.prog 58 #[va, vb] w fun e w' => ∃ v, e = .returned v ∧ Num w' v (valD la + valD lb) ∧ Below w.heap.size w w' := by
  obtain ⟨a, capa, rfl, hcapa, hnila, hca⟩ := ha
  obtain ⟨b, capb, rfl, hcapb, hnilb, hcb⟩ := hb
  have Hca : Hid _ := hca
  have Hcb : Hid _ := hcb
  have Hda : Hid (Dg la) := hda
  have Hdb : Hid (Dg lb) := hdb
  clear hca hcb hda hdb hnila hnilb
  have hla' : (la.length : Int) ≤ 100000 := by omega
  have hlb' : (lb.length : Int) ≤ 100000 := by omega
  go_enter Tryd.func58, Tryd.ntmps58
  go_wp2
  go_loopw [5, 6, 7] (fun v x y wr => ∃ (i c : Nat) (o : List Nat), y = .int .i64 i ∧ x = .int .i64 c ∧ Own w.heap.size wr v o ∧ Below w.heap.size w wr ∧ Hid (AddAt la lb i c o)) (fun _ x y _ => 2 * (max la.length lb.length - (intOf y).toNat) + (intOf x).toNat)
  case atStart => exact ⟨0, 0, [], rfl, rfl, Own.nil _ _, Below.refl _ _, rfl, Dg.nil, by omega, by omega, by simp [valD]⟩
  case round =>
    obtain ⟨i, c, o, rfl, rfl, hown, hbel, H⟩ := hrel
    have hol : o.length = i := H.out.1
    have hc1 : (c : Int) ≤ 1 := by have := H.out.2.2.1; omega
    have hi1 : (i : Int) ≤ 100001 := by have := H.out.2.2.2.1; omega
    have hsz := hbel.size
    have Hb : Hid (Below w.heap.size w wr) := hbel
    have Ho : Hid (Own w.heap.size wr u5 o) := hown
    have Hol : Hid (o.length = i) := hol
    have hlen : o.length ≤ 1000000 := by omega
    clear hown hbel hol
    obtain ⟨x, hx⟩ : ∃ x, Hid (la.getD i 0 = x) := ⟨_, rfl⟩
    obtain ⟨y, hy⟩ : ∃ y, Hid (lb.getD i 0 = y) := ⟨_, rfl⟩
    have hx1 : (x : Int) ≤ 16777215 := by have := Hda.out i; rw [hx.out] at this; omega
    have hy1 : (y : Int) ≤ 16777215 := by have := Hdb.out i; rw [hy.out] at this; omega
    by_cases hia : i < la.length
    · have hia' : (i : Int) < la.length := by omega
      have R : Hid _ := H.out.step x y hx.out hy.out Hda.out Hdb.out (by omega)
      obtain ⟨ba, oa, rfl, hba, hcella⟩ := Hca.out i hia
      rw [hx.out] at hcella
      have hcella' : wr.cell? ⟨ba, oa + i, none⟩ = some (.int .i64 (x : Int)) := (Hb.out.cell (p := ⟨ba, oa + i, none⟩) hba).trans hcella
      clear hcella
      by_cases hib : i < lb.length
      · have hib' : (i : Int) < lb.length := by omega
        obtain ⟨bb, ob, rfl, hbb, hcellb⟩ := Hcb.out i hib
        rw [hy.out] at hcellb
        have hcellb' : wr.cell? ⟨bb, ob + i, none⟩ = some (.int .i64 (y : Int)) := (Hb.out.cell (p := ⟨bb, ob + i, none⟩) hbb).trans hcellb
        clear hcellb
        go_wp2_with (at_builtin; refine wpList_app1 rfl _ _ rfl w.heap.size u5 o ((c + x + y) % 16777216) _ (by omega) rfl Ho.out rfl hlen hsz ?_; intro v' w1 hown' hb')
        go_roundw
        case rel => exact ⟨i + 1, (c + x + y) / 16777216, _, by go_num, by go_num, hown', Hb.out.trans hb', R⟩
        case measure => simp [intOf]; omega
      · have hib' : (lb.length : Int) ≤ i := by omega
        have hy0 : y = 0 := by rw [← hy.out]; exact getD_ge lb i (by omega)
        subst hy0
        go_wp2_with (at_builtin; refine wpList_app1 rfl _ _ rfl w.heap.size u5 o ((c + x + 0) % 16777216) _ (by omega) rfl Ho.out rfl hlen hsz ?_; intro v' w1 hown' hb')
        go_roundw
        case rel => exact ⟨i + 1, (c + x + 0) / 16777216, _, by go_num, by go_num, hown', Hb.out.trans hb', R⟩
        case measure => simp [intOf]; omega
    · have hia' : (la.length : Int) ≤ i := by omega
      have hx0 : x = 0 := by rw [← hx.out]; exact getD_ge la i (by omega)
      subst hx0
      by_cases hib : i < lb.length
      · have hib' : (i : Int) < lb.length := by omega
        have R : Hid _ := H.out.step 0 y hx.out hy.out Hda.out Hdb.out (by omega)
        obtain ⟨bb, ob, rfl, hbb, hcellb⟩ := Hcb.out i hib
        rw [hy.out] at hcellb
        have hcellb' : wr.cell? ⟨bb, ob + i, none⟩ = some (.int .i64 (y : Int)) := (Hb.out.cell (p := ⟨bb, ob + i, none⟩) hbb).trans hcellb
        clear hcellb
        go_wp2_with (at_builtin; refine wpList_app1 rfl _ _ rfl w.heap.size u5 o ((c + 0 + y) % 16777216) _ (by omega) rfl Ho.out rfl hlen hsz ?_; intro v' w1 hown' hb')
        go_roundw
        case rel => exact ⟨i + 1, (c + 0 + y) / 16777216, _, by go_num, by go_num, hown', Hb.out.trans hb', R⟩
        case measure => simp [intOf]; omega
      · have hib' : (lb.length : Int) ≤ i := by omega
        have hy0 : y = 0 := by rw [← hy.out]; exact getD_ge lb i (by omega)
        subst hy0
        have hv : c = 0 → valD o = valD la + valD lb := fun e => by
          have := H.out.2.2.2.2
          rw [e, valD_take_all la i (by omega), valD_take_all lb i (by omega)] at this
          simpa using this
        have hdo := H.out.2.1
        by_cases hc0 : c = 0
        · subst hc0
          have hv0 : Hid _ := hv rfl
          have Hdo : Hid _ := hdo
          clear hv hdo
          go_wp2_with (go_at_call 87; refine (trim_any o u5 _ Ho.out.sl hlen Hdo.out).mono ?_; rintro e w' ⟨v', rfl, hN, rfl⟩)
          go_ret
          exact ⟨_, rfl, by rw [← hv0.out]; exact hN, Hb.out⟩
        · have hc2 : c = 1 := by have := H.out.2.2.1; omega
          subst hc2
          have hmx : i ≤ max la.length lb.length := by
            have h5 := H.out.2.2.2.2
            have h4 := H.out.2.2.2.1
            rcases Nat.lt_or_ge (max la.length lb.length) i with h | h
            · exfalso
              have l1 := valD_lt la Hda.out
              have l2 := valD_lt lb Hdb.out
              rw [valD_take_all la i (by omega), valD_take_all lb i (by omega)] at h5
              have e : i = max la.length lb.length + 1 := by omega
              have p1 : 16777216 ^ la.length ≤ 16777216 ^ (max la.length lb.length) := Nat.pow_le_pow_right (by omega) (by omega)
              have p2 : 16777216 ^ lb.length ≤ 16777216 ^ (max la.length lb.length) := Nat.pow_le_pow_right (by omega) (by omega)
              rw [e, Nat.pow_succ] at h5
              omega
            · exact h
          have R : Hid _ := H.out.step 0 0 hx.out hy.out Hda.out Hdb.out hmx
          have Hmx : Hid _ := hmx
          clear hv hdo hc0 hmx
          go_wp2_with (at_builtin; refine wpList_app1 rfl _ _ rfl w.heap.size u5 o ((1 + 0 + 0) % 16777216) _ (by omega) rfl Ho.out rfl hlen hsz ?_; intro v' w1 hown' hb')
          go_roundw
          case rel => exact ⟨i + 1, (1 + 0 + 0) / 16777216, _, by go_num, by go_num, hown', Hb.out.trans hb', R⟩
          case measure => simp [intOf]; omega

end Go.Proofs.YtedhfimjcpbcpaaDoor

/-
  A row of memory that a call has made, cell by cell; and the plain arithmetic of the document's own Mul over digits of 24 bits. Conditions: none beyond those written.
-/
namespace Go.Proofs.YtedhfimjcpbcpaaDoor
open Go.RowKit
set_option linter.unusedVariables false

/-- Block g, one of the call's own, holds the numbers l. -/
structure Row (k : IntKind) (base g : Nat) (l : List Nat) (W : World) : Prop where
  cell : ∀ j, j < l.length → W.cell? ⟨g, j, none⟩ = some (.int k (l.getD j 0 : Int))
  free : ∀ j, W.frozen? ⟨g, j, none⟩ = false
  lt : g < W.heap.size
  ge : base ≤ g
theorem Row.drew {k : IntKind} {base g : Nat} {l : List Nat} {W : World} (h : Row k base g l W) : Row k base g l W.drew := ⟨h.cell, h.free, h.lt, h.ge⟩
theorem getD_set (l : List Nat) (i j v : Nat) (hi : i < l.length) : (l.set i v).getD j 0 = if j = i then v else l.getD j 0 := by
  simp only [List.getD_eq_getElem?_getD, List.getElem?_set]
  by_cases e : j = i
  · subst e; simp [hi]
  · rw [if_neg (fun q => e q.symm), if_neg e]
theorem Row.set {k : IntKind} {base g : Nat} {l : List Nat} {W : World} (h : Row k base g l W) (i v : Nat) (hi : i < l.length) : Row k base g (l.set i v) (W.setCell ⟨g, i, none⟩ (.int k (v : Int))) := by
  refine ⟨fun j hj => ?_, fun j => ?_, by simpa using h.lt, h.ge⟩
  · rw [List.length_set] at hj
    rw [getD_set l i j v hi]
    by_cases e : j = i
    · subst e
      rw [World.cell?_setCell_same _ _ _ (h.cell j hj), if_pos rfl]
    · rw [World.cell?_setCell_other _ _ _ _ (fun q => e (by simpa using (congrArg Addr.off q).symm)), h.cell j hj, if_neg e]
  · rw [← h.free j]; simp
theorem Row.below {k : IntKind} {base g : Nat} {l : List Nat} {W W' : World} (h : Row k base g l W) (hb : Below W.heap.size W W') : Row k base g l W' :=
  ⟨fun j hj => (hb.cell (p := ⟨g, j, none⟩) h.lt).trans (h.cell j hj), fun j => (hb.frozen (p := ⟨g, j, none⟩) h.lt).trans (h.free j), Nat.lt_of_lt_of_le h.lt hb.size, h.ge⟩
theorem Row.made {k : IntKind} (W : World) (n : Nat) (t : TypeId) : Row k W.heap.size W.heap.size (List.replicate n 0) (W.alloc (.cells (madeCells #[.int k 0] n) t)) := by
  refine ⟨fun j hj => ?_, fun j => by simp [go_sem], by simp, Nat.le_refl _⟩
  simp at hj
  rw [World.cell?_alloc_at (w := W) _ _ _ _ rfl]
  simp [madeCells, hj, List.getD_eq_getElem?_getD, Nat.mod_one]
theorem Row.sl {base g : Nat} {l : List Nat} {W : World} (h : Row .i64 base g l W) : Sl W (.slice (some ⟨g, 0, none⟩) l.length l.length) l :=
  ⟨some ⟨g, 0, none⟩, l.length, rfl, Nat.le_refl _, fun h => by simp at h, fun j hj => ⟨g, 0, rfl, h.lt, by rw [Nat.zero_add]; exact h.cell j hj⟩⟩

theorem valD_set : ∀ (l : List Nat) (p d : Nat), p < l.length → valD (l.set p d) + 16777216 ^ p * l.getD p 0 = valD l + 16777216 ^ p * d
  | [], p, d, h => by simp at h
  | x :: l, 0, d, h => by simp [valD]; omega
  | x :: l, p + 1, d, h => by
    have ih := valD_set l p d (by simpa using h)
    simp only [List.set_cons_succ, valD, List.getD_cons_succ, Nat.pow_succ]
    rw [Nat.mul_comm (16777216 ^ p) 16777216, Nat.mul_assoc, Nat.mul_assoc]
    omega
theorem valD_zeros : ∀ (n : Nat), valD (List.replicate n 0) = 0
  | 0 => rfl
  | n + 1 => by simp only [List.replicate_succ, valD, valD_zeros n]
theorem Dg.set {l : List Nat} {p d : Nat} (h : Dg l) (hp : p < l.length) (hd : d < 16777216) : Dg (l.set p d) := fun j => by
  rw [getD_set l p j d hp]; split
  · exact hd
  · exact h j

/-- A product's state, i rows and j digits of the next one done, c carried. -/
def MulAt (la lb : List Nat) (i j c : Nat) (o : List Nat) : Prop :=
  o.length = la.length + lb.length + 1 ∧ Dg o ∧ c < 16777216 ∧ (∀ p, i + lb.length ≤ p → o.getD p 0 = 0) ∧
    valD o + 16777216 ^ (i + j) * c = valD (la.take i) * valD lb + 16777216 ^ i * (la.getD i 0 * valD (lb.take j))
theorem MulAt.step {la lb : List Nat} {i j c : Nat} {o : List Nat} (h : MulAt la lb i j c o) (hi : i < la.length) (hj : j < lb.length) (hda : Dg la) (hdb : Dg lb) (q x y : Nat)
    (hq : o.getD (i + j) 0 = q) (hx : la.getD i 0 = x) (hy : lb.getD j 0 = y) :
    MulAt la lb i (j + 1) ((c + q + x * y) / 16777216) (o.set (i + j) ((c + q + x * y) % 16777216)) := by
  obtain ⟨h1, h2, h3, h4, h5⟩ := h
  have hql : q < 16777216 := by rw [← hq]; exact h2 _
  have hxl : x ≤ 16777215 := by rw [← hx]; have := hda i; omega
  have hyl : y ≤ 16777215 := by rw [← hy]; have := hdb j; omega
  have hxy : x * y ≤ 281474943156225 := by have := Nat.mul_le_mul hxl hyl; omega
  refine ⟨by rw [List.length_set]; exact h1, h2.set (by omega) (Nat.mod_lt _ (by omega)), by omega, fun p hp => ?_, ?_⟩
  · rw [getD_set _ _ _ _ (by omega), if_neg (by omega)]; exact h4 p hp
  · have e := valD_set o (i + j) ((c + q + x * y) % 16777216) (by omega)
    rw [hq] at e
    rw [hx] at h5 ⊢
    rw [valD_take lb j, hy, Nat.mul_add x, Nat.mul_add (16777216 ^ i), ← Nat.add_assoc (valD (la.take i) * valD lb), ← h5]
    have e2 : 16777216 ^ i * (x * (16777216 ^ j * y)) = 16777216 ^ (i + j) * (x * y) := by rw [Nat.pow_add, Nat.mul_left_comm x, Nat.mul_assoc]
    rw [e2, ← Nat.add_assoc i j 1, Nat.pow_succ, Nat.mul_assoc]
    generalize 16777216 ^ (i + j) = P at *
    have e3 : P * ((c + q + x * y) % 16777216) + P * (16777216 * ((c + q + x * y) / 16777216)) = P * c + P * q + P * (x * y) := by
      rw [← Nat.mul_add, Nat.mod_add_div, Nat.mul_add, Nat.mul_add]
    omega
theorem MulAt.row {la lb : List Nat} {i c : Nat} {o : List Nat} (h : MulAt la lb i lb.length c o) (hi : i < la.length) : o.getD (i + lb.length) 0 = 0 ∧ MulAt la lb (i + 1) 0 0 (o.set (i + lb.length) c) := by
  obtain ⟨h1, h2, h3, h4, h5⟩ := h
  have hz := h4 (i + lb.length) (Nat.le_refl _)
  refine ⟨hz, by rw [List.length_set]; exact h1, h2.set (by omega) h3, by omega, fun p hp => ?_, ?_⟩
  · rw [getD_set _ _ _ _ (by omega), if_neg (by omega)]; exact h4 p (by omega)
  · have e := valD_set o (i + lb.length) c (by omega)
    rw [hz, Nat.mul_zero, Nat.add_zero] at e
    rw [List.take_length] at h5
    rw [valD_take la i, Nat.add_mul, Nat.mul_assoc, e, h5, Nat.mul_zero, Nat.add_zero, List.take_zero, show valD [] = 0 from rfl, Nat.mul_zero, Nat.mul_zero, Nat.add_zero]
theorem MulAt.start (la lb : List Nat) : MulAt la lb 0 0 0 (List.replicate (la.length + lb.length + 1) 0) := by
  refine ⟨by simp, fun j => ?_, by omega, fun p _ => ?_, by rw [valD_zeros, List.take_zero, List.take_zero, show valD [] = 0 from rfl, Nat.mul_zero, Nat.zero_mul, Nat.mul_zero, Nat.mul_zero]⟩
  · rw [List.getD_eq_getElem?_getD, List.getElem?_replicate]; split <;> simp
  · rw [List.getD_eq_getElem?_getD, List.getElem?_replicate]; split <;> simp
theorem MulAt.done {la lb o : List Nat} {c : Nat} (h : MulAt la lb la.length 0 c o) (hc : c = 0) : valD o = valD la * valD lb := by
  obtain ⟨h1, h2, h3, h4, h5⟩ := h
  subst hc
  rw [List.take_length, List.take_zero, show valD [] = 0 from rfl, Nat.mul_zero, Nat.mul_zero, Nat.mul_zero, Nat.add_zero, Nat.add_zero] at h5
  exact h5

end Go.Proofs.YtedhfimjcpbcpaaDoor

/-
  The contracts of the document's own Mul and Small over digits of 24 bits: the digits of the product. Conditions: as each theorem says.
-/
namespace Go.Proofs.YtedhfimjcpbcpaaDoor
open Go.RowKit
set_option linter.unusedVariables false

theorem make_ints (n : Nat) (hn : n ≤ 1000000) (z : Int) (hz : z = (n : Int)) (w : World) : (Instr.makeSlice 35 (.int .i64 z) (.int .i64 z)).run Tryd.prog w = .ok (.slice (some ⟨w.heap.size, 0, none⟩) n n) (w.alloc (.cells (madeCells #[.int .i64 0] n) 3)) := by
  subst hz
  obtain ⟨i0, hi, hz0, hz1, hz2⟩ := info_parts info_int
  have h := run_make (P := Tryd.prog) w 35 3 i0 (.int .i64 0) Tryd.underlying35 hi hz0 .i64 .i64 n n (by omega) (by omega) (by rw [hz2]; omega) (by omega)
  rw [h, hz1]
  simp [Value.cells]

set_option maxHeartbeats 4000000 in
theorem mulR_any (la lb : List Nat) (va vb : Value) (w : World) (ha : Sl w va la) (hb : Sl w vb lb) (hda : Dg la) (hdb : Dg lb) (hla : la.length ≤ 100000) (hlb : lb.length ≤ 100000) :
    Calls Tryd.prog 90 #[va, vb] w fun e w' => ∃ v, e = .returned v ∧ Num w' v (valD la * valD lb) ∧ Below w.heap.size w w' := by
  obtain ⟨a, capa, rfl, hcapa, hnila, hca⟩ := ha
  obtain ⟨b, capb, rfl, hcapb, hnilb, hcb⟩ := hb
  have Hca : Hid _ := hca
  have Hcb : Hid _ := hcb
  have Hda : Hid (Dg la) := hda
  have Hdb : Hid (Dg lb) := hdb
  clear hca hcb hda hdb hnila hnilb
  have hla' : (la.length : Int) ≤ 100000 := by omega
  have hlb' : (lb.length : Int) ≤ 100000 := by omega
  obtain ⟨n, hn⟩ : ∃ n, Hid (n = la.length + lb.length + 1) := ⟨_, rfl⟩
  have hn1 : (n : Int) = la.length + lb.length + 1 := by have := hn.out; omega
  have hn2 : n ≤ 1000000 := by omega
  have hmk := fun w => make_ints n hn2 ((la.length : Int) + (lb.length : Int) + 1) (by omega) w
  have Hn1 : Hid _ := hn1
  clear hn1
  go_enter Tryd.func90, Tryd.ntmps90
  go_wp2
  clear hmk
  have hnl : (la.length : Int) + (lb.length : Int) < (n : Int) := by have := Hn1.out; omega
  go_loopw [6] (fun y W => ∃ (i : Nat) (o : List Nat), y = .int .i64 i ∧ i ≤ la.length ∧ Row .i64 w.heap.size w.heap.size o W ∧ Below w.heap.size w W ∧ Hid (MulAt la lb i 0 0 o)) (fun y _ => la.length - (intOf y).toNat)
  case atStart =>
    refine ⟨0, _, rfl, Nat.zero_le _, Row.made w n _, (Below.refl _ _).alloc (Nat.le_refl _) _, ?_⟩
    rw [hn.out]; exact MulAt.start la lb
  case round =>
    obtain ⟨i, o, rfl, hi, hrow, hbel, H⟩ := hrel
    have hol : o.length = n := by rw [H.out.1, hn.out]
    have Hol : Hid (o.length = n) := hol
    by_cases hlt : i < la.length
    · have hlt' : (i : Int) < la.length := by omega
      have Hr : Hid (Row .i64 w.heap.size w.heap.size o wr) := hrow
      have Hb : Hid (Below w.heap.size w wr) := hbel
      clear hrow hbel hol
      go_wp2
      go_loopw [7, 8] (fun z y W => ∃ (j c : Nat) (o : List Nat), y = .int .i64 j ∧ z = .int .i64 c ∧ j ≤ lb.length ∧ Row .i64 w.heap.size w.heap.size o W ∧ Below w.heap.size w W ∧ Hid (MulAt la lb i j c o)) (fun _ y _ => lb.length - (intOf y).toNat)
      case atStart => exact ⟨0, 0, o, rfl, rfl, Nat.zero_le _, Hr.out, Hb.out, H⟩
      case round =>
        clear H Hr Hb Hol
        obtain ⟨j, c, o, rfl, rfl, hj, hrow, hbel, H⟩ := hrel
        have hol : o.length = n := by rw [H.out.1, hn.out]
        have hc1 : (c : Int) ≤ 16777215 := by have := H.out.2.2.1; omega
        by_cases hjl : j < lb.length
        · have hjl' : (j : Int) < lb.length := by omega
          obtain ⟨ba, oa, rfl, hba, hcella⟩ := Hca.out i hlt
          obtain ⟨bb, ob, rfl, hbb, hcellb⟩ := Hcb.out j hjl
          obtain ⟨x, hx⟩ : ∃ x, Hid (la.getD i 0 = x) := ⟨_, rfl⟩
          obtain ⟨y, hy⟩ : ∃ y, Hid (lb.getD j 0 = y) := ⟨_, rfl⟩
          obtain ⟨q, hq⟩ : ∃ q, Hid (o.getD (i + j) 0 = q) := ⟨_, rfl⟩
          have hx1 : x ≤ 16777215 := by have := Hda.out i; rw [hx.out] at this; omega
          have hy1 : y ≤ 16777215 := by have := Hdb.out j; rw [hy.out] at this; omega
          have hq1 : (q : Int) ≤ 16777215 := by have := H.out.2.1 (i + j); rw [hq.out] at this; omega
          have hxy : (x : Int) * (y : Int) ≤ 281474943156225 := by have := Nat.mul_le_mul hx1 hy1; rw [← Int.natCast_mul]; omega
          have hxy0 : 0 ≤ (x : Int) * (y : Int) := Int.mul_nonneg (by omega) (by omega)
          rw [hx.out] at hcella
          rw [hy.out] at hcellb
          have ca : wr.cell? ⟨ba, oa + i, none⟩ = some (.int .i64 (x : Int)) := (hbel.cell (p := ⟨ba, oa + i, none⟩) hba).trans hcella
          have cb : wr.cell? ⟨bb, ob + j, none⟩ = some (.int .i64 (y : Int)) := (hbel.cell (p := ⟨bb, ob + j, none⟩) hbb).trans hcellb
          have co := hrow.cell (i + j) (by omega)
          rw [hq.out] at co
          have fo := hrow.free (i + j)
          have R : Hid _ := H.out.step hlt hjl Hda.out Hdb.out q x y hq.out hx.out hy.out
          have Hr : Hid (Row .i64 w.heap.size w.heap.size o wr) := hrow
          have Hb : Hid (Below w.heap.size w wr) := hbel
          have hij : (i : Int) + (j : Int) < (n : Int) := by omega
          clear hcella hcellb hrow hbel hol
          go_wp2
          go_region
          go_wp2
          go_roundw
          case rel =>
            have ev : (((c + q + x * y) % 16777216 : Nat) : Int) = ((c : Int) + q + x * y) % 16777216 := by simp
            have ew : (((c + q + x * y) / 16777216 : Nat) : Int) = ((c : Int) + q + x * y) / 16777216 := by simp
            refine ⟨j + 1, (c + q + x * y) / 16777216, _, by go_num, by rw [ew], by omega, ?_, ?_, R⟩
            · rw [← ev]; exact (Hr.out.set (i + j) _ (by have := H.out.1; omega)).drew
            · exact (Hb.out.setCell (Nat.le_refl _) _).drew
          case measure => simp [intOf]; omega
        · obtain rfl : j = lb.length := by omega
          obtain ⟨hz, R⟩ := H.out.row hlt
          have R' : Hid _ := R
          have co := hrow.cell (i + lb.length) (by omega)
          rw [hz] at co
          have fo := hrow.free (i + lb.length)
          have Hr : Hid (Row .i64 w.heap.size w.heap.size o wr) := hrow
          have Hb : Hid (Below w.heap.size w wr) := hbel
          have hij : (i : Int) + (lb.length : Int) < (n : Int) := by omega
          clear hrow hbel hol R hz
          go_wp2
          go_roundw
          case rel =>
            refine ⟨i + 1, _, by go_num, by omega, ?_, ?_, R'⟩
            · exact Hr.out.set (i + lb.length) _ (by have := H.out.1; omega)
            · exact Hb.out.setCell (Nat.le_refl _) _
          case measure => simp [intOf]; omega
    · obtain rfl : i = la.length := by omega
      have hv := H.out.done rfl
      have hsl := hrow.sl
      rw [hol] at hsl
      have Hs : Hid (Sl wr (.slice (some ⟨w.heap.size, 0, none⟩) n n) o) := hsl
      have Hv : Hid _ := hv
      have Hd : Hid (Dg o) := H.out.2.1
      clear hv hsl hol hrow
      go_wp2_with (go_at_call 87; refine (trim_any o _ _ Hs.out (by rw [Hol.out]; exact hn2) Hd.out).mono ?_; rintro e w' ⟨v', rfl, hN, rfl⟩)
      go_ret
      exact ⟨_, rfl, by rw [← Hv.out]; exact hN, hbel⟩

set_option maxHeartbeats 1000000 in
theorem small_any (la : List Nat) (va : Value) (n : Nat) (w : World) (ha : Sl w va la) (hda : Dg la) (hla : la.length ≤ 100000) (hn : n ≤ 9223372036854775807) :
    Calls Tryd.prog 63 #[va, .int .i64 (n : Int)] w fun e w' => ∃ v, e = .returned v ∧ Num w' v (valD la * n) ∧ Below w.heap.size w w' := by
  have Ha : Hid (Sl w va la) := ha
  have Hda : Hid (Dg la) := hda
  obtain ⟨a, capa, rfl, -, -, -⟩ := ha
  clear hda
  go_enter Tryd.func63, Tryd.ntmps63
  go_wp2_with fail
  refine (int_any n hn _).mono ?_
  rintro e w1 ⟨v1, rfl, hN, b1⟩
  obtain ⟨l1, s1, d1, z1, rfl⟩ := hN
  have hl1 : l1.length ≤ 100000 := by
    rcases Nat.lt_or_ge l1.length 4 with h | h
    · omega
    · exfalso
      rcases z1 with e | e
      · rw [e] at h; simp at h
      · have := valD_take l1 (l1.length - 1)
        rw [show l1.length - 1 + 1 = l1.length by omega, List.take_length] at this
        have hp : 16777216 ^ 3 ≤ 16777216 ^ (l1.length - 1) := Nat.pow_le_pow_right (by omega) (by omega)
        have hm : 16777216 ^ (l1.length - 1) * 1 ≤ 16777216 ^ (l1.length - 1) * l1.getD (l1.length - 1) 0 := Nat.mul_le_mul_left _ (by omega)
        have h3 : (16777216 : Nat) ^ 3 = 4722366482869645213696 := by decide
        omega
  have S1 : Hid (Sl w1 v1 l1) := s1
  have D1 : Hid (Dg l1) := d1
  have B1 : Hid (Below w.heap.size w w1) := b1
  obtain ⟨a1, cap1, rfl, -, -, -⟩ := s1
  clear d1 z1 b1
  go_wp2_with fail
  refine (mulR_any la l1 _ _ _ (Ha.out.below B1.out) S1.out Hda.out D1.out hla hl1).mono ?_
  rintro e w2 ⟨v2, rfl, hN2, b2⟩
  have Hq : Hid (Num w2 v2 (valD la * valD l1)) := hN2
  have hq : ∃ a c d, v2 = .slice a c d := by obtain ⟨l, ⟨a, c, e, _⟩, _⟩ := hN2; exact ⟨a, _, c, e⟩
  obtain ⟨a, c, d, rfl⟩ := hq
  go_wp2
  go_ret
  exact ⟨_, rfl, Hq.out, B1.out.trans (b2.mono B1.out.size)⟩

end Go.Proofs.YtedhfimjcpbcpaaDoor

/-
  The contracts of the document's own Shift and Power over digits of 24 bits: a number times a power of two. Conditions: as each theorem says.
-/
namespace Go.Proofs.YtedhfimjcpbcpaaDoor
open Go.RowKit
set_option linter.unusedVariables false

theorem Own.made (base : Nat) (w : World) (n : Nat) (hb : base ≤ w.heap.size) (hn : n ≤ 1000000) : Own base (w.alloc (.cells (madeCells #[.int .i64 0] n) 3)) (.slice (some ⟨w.heap.size, 0, none⟩) n n) (List.replicate n 0) := by
  refine ⟨by simp [dv], Or.inr ⟨w.heap.size, n, madeCells #[.int .i64 0] n, by simp, hb, ?_, by simp, by unfold maxLen; omega, by simp [madeCells], ?_⟩⟩
  · show (w.heap.push _)[w.heap.size]? = _
    simp
  · apply List.ext_getElem?
    intro j
    simp only [List.length_replicate, Nat.mul_one, dv, List.map_replicate]
    rw [List.getElem?_take, List.getElem?_replicate]
    by_cases hj : j < n
    · rw [if_pos hj, if_pos hj]; simp [madeCells, hj, Nat.mod_one]
    · rw [if_neg hj, if_neg hj]

/-- 'out = append(out, m...)' on the call's own slice, the digits m lying anywhere. -/
theorem wpList_appL {ops : Array Oper} {rest : List Oper} {o : Oper} {a : Act} {Q : Exit → Act → World → Prop} {wr : World} (hgd : o.guard = none) (s x : Operand)
    (ho : o.op = .call { callee := .builtin .append, args := #[s, x], argTypes := #[35, 35] })
    (base : Nat) (v : Value) (l m : List Nat) (b off cap : Nat) (hs : a.eval s = v) (hown : Own base wr v l)
    (hx : a.eval x = .slice (some ⟨b, off, none⟩) m.length cap) (hm : ∀ j, j < m.length → wr.cell? ⟨b, off + j, none⟩ = some (.int .i64 (m.getD j 0 : Int))) (hlen : l.length ≤ 1000000) (hlen2 : m.length ≤ 1000000) (hbase : base ≤ wr.heap.size)
    (h : ∀ v' w', Own base w' v' (l ++ m) → Below base wr w' → wpList Tryd.prog ops Q rest (a.put o.dst v') w') :
    wpList Tryd.prog ops Q (o :: rest) a wr := by
  obtain ⟨i0, hi, hz0, hz1, hz2⟩ := info_parts info_int
  refine wpList_append_own _ hgd s x 35 ho base 3 i0 (.int .i64 0) 1 8 Tryd.underlying35 hi hz0 hz1 hz2 rfl (by decide) v _ _ hs hown ⟨b, off, none⟩ m.length cap (dv m) hx (by simp [dv]) ?_ ?_ ?_ ?_ ?_ ?_
  · intro j u hj
    by_cases hjl : j < m.length
    · rw [dv_get m j hjl] at hj
      rw [← hj]
      have e : Addr.add ⟨b, off, none⟩ j = ⟨b, off + j, none⟩ := by
        unfold Addr.add
        by_cases h0 : j = 0
        · subst h0; simp
        · simp [h0]
      rw [e]; exact hm j hjl
    · rw [List.getElem?_eq_none (by rw [dv_length]; omega)] at hj; cases hj
  · intro u hu; simp [dv] at hu; obtain ⟨d, _, rfl⟩ := hu; rfl
  · unfold maxLen; omega
  · omega
  · exact hbase
  · intro v' w' h1 h2 _
    refine h v' w' ?_ ?_
    · unfold Own
      have e : dv (l ++ m) = dv l ++ dv m := by simp [dv]
      rw [e]
      simpa using h1
    · refine Below.grown (Below.refl _ _) h2 hbase ?_
      intro k hk
      rcases hown.2 with ⟨e, _⟩ | ⟨g, cap, cur, e, hg, _⟩
      · rw [e] at hk; simp [Value.ownBlock] at hk
      · rw [e] at hk; simp [Value.ownBlock] at hk; omega

theorem valD_append : ∀ (l m : List Nat), valD (l ++ m) = valD l + 16777216 ^ l.length * valD m
  | [], m => by simp [valD]
  | d :: l, m => by
    simp only [List.cons_append, valD, valD_append l m, List.length_cons, Nat.pow_succ]
    rw [Nat.mul_add, Nat.add_assoc, Nat.mul_comm (16777216 ^ l.length) 16777216, Nat.mul_assoc]
theorem Dg.zeros (n : Nat) : Dg (List.replicate n 0) := fun j => by
  rw [List.getD_eq_getElem?_getD, List.getElem?_replicate]; split <;> simp
theorem Dg.append {l m : List Nat} (h1 : Dg l) (h2 : Dg m) : Dg (l ++ m) := fun j => by
  rw [List.getD_eq_getElem?_getD, List.getElem?_append]
  split
  · have := h1 j; rwa [List.getD_eq_getElem?_getD] at this
  · have := h2 (j - l.length); rwa [List.getD_eq_getElem?_getD] at this
theorem shift_val (la : List Nat) (n : Nat) : valD (List.replicate (n / 24) 0 ++ la) * 2 ^ (n % 24) = valD la * 2 ^ n := by
  rw [valD_append, valD_zeros, List.length_replicate, Nat.zero_add, show (16777216 : Nat) = 2 ^ 24 from by decide, ← Nat.pow_mul, Nat.mul_comm (2 ^ (24 * (n / 24))), Nat.mul_assoc, ← Nat.pow_add, Nat.div_add_mod]

set_option maxHeartbeats 1000000 in
theorem shift_any (la : List Nat) (va : Value) (n : Nat) (w : World) (ha : Sl w va la) (hda : Dg la) (hla : la.length ≤ 50000) (hn : n ≤ 100000) :
    Calls Tryd.prog 88 #[va, .int .i64 (n : Int)] w fun e w' => ∃ v, e = .returned v ∧ Num w' v (valD la * 2 ^ n) ∧ Below w.heap.size w w' := by
  have Hda : Hid (Dg la) := hda
  obtain ⟨a, capa, rfl, hcap, -, hc⟩ := ha
  have Hc : Hid _ := hc
  clear hda hc
  have hn' : (n : Int) ≤ 100000 := by omega
  by_cases h0 : la.length = 0
  · have e : la = [] := List.eq_nil_of_length_eq_zero h0
    subst e
    go_enter Tryd.func88, Tryd.ntmps88
    go_wp2
    go_ret
    exact ⟨_, rfl, ⟨[], Sl.nil _, Dg.nil, Or.inl rfl, by simp [valD]⟩, Below.refl _ _⟩
  · have hb0 : ((la.length : Int) == 0) = false := beq_eq_false_iff_ne.2 (by omega)
    obtain ⟨b, off, rfl, hb, -⟩ := Hc.out 0 (by omega)
    obtain ⟨q, hq⟩ : ∃ q : Nat, (n : Int) / 24 = (q : Int) := ⟨n / 24, by omega⟩
    obtain ⟨r, hr⟩ : ∃ r : Nat, (n : Int) % 24 = (r : Int) := ⟨n % 24, by omega⟩
    have hq2 : Hid (q = n / 24) := by unfold Hid; omega
    have hr2 : Hid (r = n % 24) := by unfold Hid; omega
    have hmk := fun w => make_ints q (by omega) (q : Int) rfl w
    have hcell : Hid (∀ j, j < la.length → w.cell? ⟨b, off + j, none⟩ = some (.int .i64 (la.getD j 0 : Int))) := by
      intro j hj
      obtain ⟨b', o', e1, -, e3⟩ := Hc.out j hj
      simp only [Option.some.injEq, Addr.mk.injEq, and_true] at e1
      rw [e1.1, e1.2]; exact e3
    go_enter Tryd.func88, Tryd.ntmps88
    go_wp2_with (at_builtin; refine wpList_appL rfl _ _ rfl w.heap.size _ (List.replicate q 0) la b off capa rfl (Own.made _ _ _ (Nat.le_refl _) (by omega)) rfl (fun j hj => by rw [World.cell?_alloc_past (w := w) _ _ _ hb]; exact hcell.out j hj) (by simp; omega) (by omega) (by simp) ?_; intro v1 w1 hown1 hb1)
    have H1 : Hid (Own w.heap.size w1 v1 (List.replicate q 0 ++ la)) := hown1
    have B1 : Hid (Below w.heap.size w w1) := ((Below.refl w.heap.size w).alloc (Nat.le_refl _) _).trans hb1
    clear hown1 hb1 hmk
    refine (pow2_any r (by omega) _).mono ?_
    rintro e w2 ⟨rfl, rfl⟩
    go_wp2_with fail
    have hp : 2 ^ r ≤ 2 ^ 24 := Nat.pow_le_pow_right (by omega) (by omega)
    have e2 : (2 : Int) ^ r = ((2 ^ r : Nat) : Int) := by simp
    try rw [e2]
    refine (small_any (List.replicate q 0 ++ la) _ (2 ^ r) _ H1.out.sl ((Dg.zeros q).append Hda.out) (by simp; omega) (by omega)).mono ?_
    rintro e w3 ⟨v3, rfl, hN, b3⟩
    rw [hr2.out, hq2.out, shift_val] at hN
    have hq : ∃ a c d, v3 = .slice a c d := by obtain ⟨l, ⟨a, c, e, _⟩, _⟩ := hN; exact ⟨a, _, c, e⟩
    have Hq : Hid (Num w3 v3 (valD la * 2 ^ n)) := hN
    obtain ⟨a, c, d, rfl⟩ := hq
    clear hN hp e2
    go_wp2
    go_ret
    exact ⟨_, rfl, Hq.out, B1.out.trans (b3.mono B1.out.size)⟩

theorem Sl.lit1 (w : World) (d : Nat) (z : Int) (hz : z = (d : Int)) : Sl (w.alloc (.cells #[.int .i64 z] 3)) (.slice (some ⟨w.heap.size, 0, none⟩) 1 1) [d] := by
  subst hz
  refine ⟨some ⟨w.heap.size, 0, none⟩, 1, rfl, by simp, fun h => by simp at h, fun j hj => ⟨w.heap.size, 0, rfl, by simp, ?_⟩⟩
  have : j = 0 := by simpa using hj
  subst this
  simp

set_option maxHeartbeats 1000000 in
theorem power_any (n : Nat) (w : World) (hn : n ≤ 100000) :
    Calls Tryd.prog 44 #[.int .i64 (n : Int)] w fun e w' => ∃ v, e = .returned v ∧ Num w' v (2 ^ n) ∧ Below w.heap.size w w' := by
  go_enter Tryd.func44, Tryd.ntmps44
  go_wp2_with fail
  refine (shift_any [1] _ n _ (Sl.lit1 w 1 1 rfl) (fun j => by cases j <;> simp) (by simp) hn).mono ?_
  rintro e w3 ⟨v3, rfl, hN, b3⟩
  have e1 : valD [1] * 2 ^ n = 2 ^ n := by simp [valD]
  rw [e1] at hN
  have hq : ∃ a c d, v3 = .slice a c d := by obtain ⟨l, ⟨a, c, e, _⟩, _⟩ := hN; exact ⟨a, _, c, e⟩
  have Hq : Hid (Num w3 v3 (2 ^ n)) := hN
  obtain ⟨a, c, d, rfl⟩ := hq
  clear hN e1
  go_wp2
  go_ret
  exact ⟨_, rfl, Hq.out, ((Below.refl _ _).alloc (Nat.le_refl _) _).trans (b3.mono (by simp))⟩

end Go.Proofs.YtedhfimjcpbcpaaDoor

/-
  Slices of numbers of one kind (words, bytes) in memory. Conditions: none beyond those written.
-/
namespace Go.Proofs.YtedhfimjcpbcpaaDoor
open Go.RowKit
set_option linter.unusedVariables false

/-- The slice v leads to the numbers l, of kind k. -/
def SK (k : IntKind) (w : World) (v : Value) (l : List Nat) : Prop :=
  ∃ a cap, v = .slice a l.length cap ∧ l.length ≤ cap ∧ (a = none → l = [] ∧ cap = 0) ∧ ∀ j, j < l.length → ∃ b o, a = some ⟨b, o, none⟩ ∧ b < w.heap.size ∧ w.cell? ⟨b, o + j, none⟩ = some (.int k (l.getD j 0 : Int))
theorem SK.below {k : IntKind} {w w' : World} {v : Value} {l : List Nat} (h : SK k w v l) (hb : Below w.heap.size w w') : SK k w' v l := by
  obtain ⟨a, cap, h1, h2, h4, h3⟩ := h
  refine ⟨a, cap, h1, h2, h4, fun j hj => ?_⟩
  obtain ⟨b, o, e1, e2, e3⟩ := h3 j hj
  exact ⟨b, o, e1, Nat.lt_of_lt_of_le e2 hb.size, (hb.cell (p := ⟨b, o + j, none⟩) e2).trans e3⟩
theorem SK.nil (k : IntKind) (w : World) : SK k w (.slice none 0 0) [] := ⟨none, 0, rfl, Nat.le_refl _, fun _ => ⟨rfl, rfl⟩, fun j hj => by simp at hj⟩
theorem SK.shape {k : IntKind} {w : World} {v : Value} {l : List Nat} (h : SK k w v l) : ∃ a d, v = .slice a l.length d := by
  obtain ⟨a, cap, h1, -⟩ := h
  exact ⟨a, cap, h1⟩
theorem SK.take {k : IntKind} {w : World} {a : Option Addr} {cap cap' n : Nat} {l : List Nat} (h : SK k w (.slice a l.length cap) l) (hn : n ≤ l.length) (hc : n ≤ cap') (hc' : a = none → cap' = 0) : SK k w (.slice a n cap') (l.take n) := by
  obtain ⟨a', c', h1, h2, h4, h3⟩ := h
  simp only [Value.slice.injEq] at h1
  obtain ⟨rfl, -, rfl⟩ := h1
  have e : (l.take n).length = n := by rw [List.length_take]; omega
  refine ⟨a, cap', by rw [e], by omega, fun hh => ?_, fun j hj => ?_⟩
  · obtain ⟨rfl, -⟩ := h4 hh
    exact ⟨by simp, hc' hh⟩
  · obtain ⟨b, o, e1, e2, e3⟩ := h3 j (by omega)
    refine ⟨b, o, e1, e2, ?_⟩
    rw [e3, List.getD_eq_getElem?_getD, List.getD_eq_getElem?_getD, List.getElem?_take, if_pos (by omega)]

end Go.Proofs.YtedhfimjcpbcpaaDoor

/-
  The contracts of the document's own Words and Of over digits of 24 bits: words of 64 bits as a number. Conditions: as each theorem says.
-/
namespace Go.Proofs.YtedhfimjcpbcpaaDoor
open Go.RowKit
set_option linter.unusedVariables false

def valW : List Nat → Nat
  | [] => 0
  | x :: l => x + 18446744073709551616 * valW l
/-- Each of them is a word. -/
def Ww (l : List Nat) : Prop := ∀ j, l.getD j 0 < 18446744073709551616
theorem valW_lt : ∀ (l : List Nat), Ww l → valW l < 18446744073709551616 ^ l.length
  | [], _ => by simp [valW]
  | d :: l, h => by
    have h0 := h 0
    have ih := valW_lt l (fun j => h (j + 1))
    simp only [List.getD_cons_zero] at h0
    simp only [valW, List.length_cons, Nat.pow_succ]
    omega
theorem Ww.drop {l : List Nat} (h : Ww l) (k : Nat) : Ww (l.drop k) := fun j => by
  have := h (k + j)
  rw [List.getD_eq_getElem?_getD] at this ⊢
  rwa [List.getElem?_drop]

theorem nz_len (l : List Nat) (m : Nat) (hd : Dg l) (hz : Nz l) (h : valD l < 16777216 ^ m) : l.length ≤ m := by
  rcases Nat.lt_or_ge m l.length with hlt | hge
  · exfalso
    rcases hz with e | e
    · rw [e] at hlt; simp at hlt
    · have ht := valD_take l (l.length - 1)
      rw [show l.length - 1 + 1 = l.length by omega, List.take_length] at ht
      have hp : 16777216 ^ m ≤ 16777216 ^ (l.length - 1) := Nat.pow_le_pow_right (by omega) (by omega)
      have hm : 16777216 ^ (l.length - 1) * 1 ≤ 16777216 ^ (l.length - 1) * l.getD (l.length - 1) 0 := Nat.mul_le_mul_left _ (by omega)
      generalize 16777216 ^ (l.length - 1) = P at *
      omega
  · exact hge
/-- The slice v leads to the words l. -/
def SlU (w : World) (v : Value) (l : List Nat) : Prop :=
  ∃ b o cap, v = .slice (some ⟨b, o, none⟩) l.length cap ∧ b < w.heap.size ∧ ∀ j, j < l.length → w.cell? ⟨b, o + j, none⟩ = some (.int .u64 (l.getD j 0 : Int))

theorem SlU.sk {w : World} {v : Value} {l : List Nat} (h : SlU w v l) (hc : ∀ a n c, v = .slice a n c → n ≤ c) : SK .u64 w v l := by
  obtain ⟨b, o, cap, h1, h2, h3⟩ := h
  exact ⟨some ⟨b, o, none⟩, cap, h1, hc _ _ _ h1, fun h => by simp at h, fun j hj => ⟨b, o, rfl, h2, h3 j hj⟩⟩

theorem Num.shape {w : World} {v : Value} {N : Nat} (h : Num w v N) : ∃ a c d, v = .slice a c d := by
  obtain ⟨l, ⟨a, c, e, _⟩, _⟩ := h
  exact ⟨a, _, c, e⟩

end Go.Proofs.YtedhfimjcpbcpaaDoor

/-
  The plain arithmetic of the document's own ToWords: a number's words out of its bits. Conditions: none beyond those written.
-/
namespace Go.Proofs.YtedhfimjcpbcpaaDoor
open Go.RowKit
set_option linter.unusedVariables false

theorem valW_set : ∀ (l : List Nat) (p d : Nat), p < l.length → valW (l.set p d) + 18446744073709551616 ^ p * l.getD p 0 = valW l + 18446744073709551616 ^ p * d
  | [], p, d, h => by simp at h
  | x :: l, 0, d, h => by simp [valW]; omega
  | x :: l, p + 1, d, h => by
    have ih := valW_set l p d (by simpa using h)
    simp only [List.set_cons_succ, valW, List.getD_cons_succ, Nat.pow_succ]
    rw [Nat.mul_comm (18446744073709551616 ^ p) 18446744073709551616, Nat.mul_assoc, Nat.mul_assoc]
    omega
theorem valW_ge : ∀ (l : List Nat) (p : Nat), 18446744073709551616 ^ p * l.getD p 0 ≤ valW l
  | [], p => by simp [valW]
  | x :: l, 0 => by simp [valW]
  | x :: l, p + 1 => by
    have ih := valW_ge l p
    simp only [valW, List.getD_cons_succ, Nat.pow_succ]
    rw [Nat.mul_comm (18446744073709551616 ^ p) 18446744073709551616, Nat.mul_assoc]
    omega
theorem valW_zeros : ∀ (n : Nat), valW (List.replicate n 0) = 0
  | 0 => rfl
  | n + 1 => by simp only [List.replicate_succ, valW, valW_zeros n]

/-- The first t bits of N stand in the words o, of which there are n. -/
def TW (N n t : Nat) (o : List Nat) : Prop := o.length = n ∧ Ww o ∧ valW o = N % 2 ^ (min t (64 * n))
theorem TW.start (N n : Nat) : TW N n 0 (List.replicate n 0) := by
  refine ⟨by simp, fun j => ?_, ?_⟩
  · rw [List.getD_eq_getElem?_getD, List.getElem?_replicate]; split <;> simp
  · rw [valW_zeros, Nat.zero_min, Nat.pow_zero, Nat.mod_one]
theorem mod_succ (N t : Nat) : N % 2 ^ (t + 1) = N % 2 ^ t + 2 ^ t * (N / 2 ^ t % 2) := by rw [Nat.pow_succ, Nat.mod_mul]
theorem TW.none {N n t : Nat} {o : List Nat} (h : TW N n t o) (hb : N / 2 ^ t % 2 = 0 ∨ 64 * n ≤ t) : TW N n (t + 1) o := by
  refine ⟨h.1, h.2.1, ?_⟩
  rw [h.2.2]
  by_cases ht : t < 64 * n
  · rw [Nat.min_eq_left (by omega), Nat.min_eq_left (by omega), mod_succ]
    have : N / 2 ^ t % 2 = 0 := by omega
    rw [this, Nat.mul_zero, Nat.add_zero]
  · rw [Nat.min_eq_right (by omega), Nat.min_eq_right (by omega)]
theorem pow64 (t : Nat) : 18446744073709551616 ^ (t / 64) * 2 ^ (t % 64) = 2 ^ t := by
  rw [show (18446744073709551616 : Nat) = 2 ^ 64 from by decide, ← Nat.pow_mul, ← Nat.pow_add, Nat.div_add_mod]
theorem TW.room {N n t : Nat} {o : List Nat} (h : TW N n t o) (ht : t < 64 * n) : o.getD (t / 64) 0 + 2 ^ (t % 64) < 18446744073709551616 := by
  have h1 := valW_ge o (t / 64)
  rw [h.2.2, Nat.min_eq_left (by omega)] at h1
  have h2 : N % 2 ^ t < 2 ^ t := Nat.mod_lt _ (Nat.two_pow_pos t)
  have h3 : o.getD (t / 64) 0 < 2 ^ (t % 64) := by
    rw [← pow64 t] at h2
    exact Nat.lt_of_mul_lt_mul_left (Nat.lt_of_le_of_lt h1 (by rw [pow64 t] at h2; rw [pow64 t]; exact h2))
  have h4 : 2 ^ (t % 64) * 2 ≤ 2 ^ 64 := by rw [← Nat.pow_succ]; exact Nat.pow_le_pow_right (by omega) (by omega)
  omega
theorem TW.done {N n t : Nat} {o : List Nat} (h : TW N n t o) (hN : N < 2 ^ t) : valW o = N % 2 ^ (64 * n) := by
  rw [h.2.2]
  by_cases ht : t ≤ 64 * n
  · rw [Nat.min_eq_left ht, Nat.mod_eq_of_lt hN, Nat.mod_eq_of_lt (Nat.lt_of_lt_of_le hN (Nat.pow_le_pow_right (by omega) ht))]
  · rw [Nat.min_eq_right (by omega)]

/-- The bits of a digit are the number's. -/
theorem digit_bit (l : List Nat) (hd : Dg l) (i k : Nat) (hk : k < 24) : valD l / 2 ^ (24 * i + k) % 2 = l.getD i 0 / 2 ^ k % 2 := by
  have hsplit : valD l = valD (l.take i) + 16777216 ^ i * valD (l.drop i) := by
    by_cases hi : i ≤ l.length
    · have := valD_append (l.take i) (l.drop i)
      rw [List.take_append_drop, List.length_take, Nat.min_eq_left hi] at this
      exact this
    · rw [List.take_of_length_le (by omega), List.drop_eq_nil_of_le (by omega)]
      simp [valD]
  have hlt : valD (l.take i) < 16777216 ^ i := by
    have h := valD_lt (l.take i) (fun j => by
      rw [List.getD_eq_getElem?_getD, List.getElem?_take]
      split
      · have := hd j; rwa [List.getD_eq_getElem?_getD] at this
      · simp)
    refine Nat.lt_of_lt_of_le h (Nat.pow_le_pow_right (by omega) ?_)
    rw [List.length_take]; omega
  have hq : valD l / 2 ^ (24 * i) = valD (l.drop i) := by
    rw [hsplit, show (2 : Nat) ^ (24 * i) = 16777216 ^ i by rw [Nat.pow_mul], Nat.add_comm, Nat.mul_add_div (Nat.pos_of_ne_zero (by simp)), Nat.div_eq_of_lt hlt, Nat.add_zero]
  have hdrop : ∃ r, valD (l.drop i) = l.getD i 0 + 16777216 * r := by
    by_cases hi : i < l.length
    · rw [List.drop_eq_getElem_cons hi]
      exact ⟨valD (l.drop (i + 1)), by simp [valD, List.getD_eq_getElem?_getD, hi]⟩
    · rw [List.drop_eq_nil_of_le (by omega), getD_ge l i (by omega)]
      exact ⟨0, by simp [valD]⟩
  obtain ⟨r, hr⟩ := hdrop
  rw [Nat.pow_add, ← Nat.div_div_eq_div_mul, hq, hr]
  have e : (16777216 : Nat) * r = 2 ^ k * (2 * (2 ^ (23 - k) * r)) := by
    rw [← Nat.mul_assoc 2, ← Nat.pow_succ', ← Nat.mul_assoc, ← Nat.pow_add, show k + (23 - k).succ = 24 by omega]
  rw [e, Nat.add_mul_div_left _ _ (Nat.two_pow_pos k), Nat.add_mul_mod_self_left]

end Go.Proofs.YtedhfimjcpbcpaaDoor

/-
  The contracts of the document's own ToWords and Four over digits of 24 bits: a number's lowest words. Conditions: as each theorem says.
-/
namespace Go.Proofs.YtedhfimjcpbcpaaDoor
open Go.RowKit
set_option linter.unusedVariables false

theorem Row.drewN {k : IntKind} {base g : Nat} {l : List Nat} {W : World} (h : Row k base g l W) (n : Nat) : Row k base g l (W.drewN n) := ⟨h.cell, h.free, h.lt, h.ge⟩
theorem Joins_draws {B : Nat} {w W : World} (h : Below B w W) (n : Nat) : Below B w (W.drewN n) := ⟨h.os, h.tape, h.output, h.size, h.block⟩
theorem wrap_quo (d p e : Nat) (he : d / p = e) (hd : d ≤ 9223372036854775807) : IntKind.i64.wrap ((d : Int) / (p : Int)) = (e : Int) := by
  have h3 : ((d / p : Nat) : Int) = (d : Int) / (p : Int) := by simp
  have h4 := Nat.div_le_self d p
  rw [← h3, he, IntKind.wrap_i64]
  omega

end Go.Proofs.YtedhfimjcpbcpaaDoor

/-
  The order of two numbers as -1, 0 or 1, and the contracts of cmp.Compare at words and ints. Conditions: as each theorem says.
-/
namespace Go.Proofs.YtedhfimjcpbcpaaDoor
open Go.RowKit
set_option linter.unusedVariables false

/-- -1, 0 or 1. -/
def ord (x y : Int) : Int := if x < y then -1 else if x = y then 0 else 1
theorem ord_lt {x y : Int} (h : x < y) : ord x y = -1 := by unfold ord; rw [if_pos h]
theorem ord_eq {x y : Int} (h : x = y) : ord x y = 0 := by unfold ord; rw [if_neg (by omega), if_pos h]
theorem ord_gt {x y : Int} (h : y < x) : ord x y = 1 := by unfold ord; rw [if_neg (by omega), if_neg (by omega)]

/-- cmp.Compare at words. -/
theorem compare_any (a b : Int) (ha : Wd a) (hb : Wd b) (w : World) :
    Calls Tryd.prog 120 #[.int .u64 a, .int .u64 b] w fun e w' => e = .returned (.int .i64 (ord a b)) ∧ w' = w := by
  rcases Int.lt_trichotomy a b with h | h | h
  · have H := ord_lt h
    rw [H]
    clear H
    go_enter Tryd.func120, Tryd.ntmps120
    go_wp2
    go_ret
    exact ⟨rfl, rfl⟩
  · have H := ord_eq h
    rw [H]
    clear H
    subst h
    go_enter Tryd.func120, Tryd.ntmps120
    go_wp2
    go_ret
    exact ⟨rfl, rfl⟩
  · have H := ord_gt h
    have h2 : ¬ a < b := by omega
    rw [H]
    clear H
    go_enter Tryd.func120, Tryd.ntmps120
    go_wp2
    go_ret
    exact ⟨rfl, rfl⟩

end Go.Proofs.YtedhfimjcpbcpaaDoor

/-
  The contracts of the document's own Cmp, Sub and Bit over digits of 24 bits: the order of two numbers, their difference, a number's bit. Conditions: as each theorem says.
-/
namespace Go.Proofs.YtedhfimjcpbcpaaDoor
open Go.RowKit
set_option linter.unusedVariables false

theorem valD_split (l : List Nat) (i : Nat) : valD l = valD (l.take i) + 16777216 ^ i * valD (l.drop i) := by
  by_cases hi : i ≤ l.length
  · have := valD_append (l.take i) (l.drop i)
    rw [List.take_append_drop, List.length_take, Nat.min_eq_left hi] at this
    exact this
  · rw [List.take_of_length_le (by omega), List.drop_eq_nil_of_le (by omega)]
    simp [valD]
theorem valD_take_lt (l : List Nat) (hd : Dg l) (i : Nat) : valD (l.take i) < 16777216 ^ i := by
  have h := valD_lt (l.take i) (fun j => by
    rw [List.getD_eq_getElem?_getD, List.getElem?_take]
    split
    · have := hd j; rwa [List.getD_eq_getElem?_getD] at this
    · simp)
  refine Nat.lt_of_lt_of_le h (Nat.pow_le_pow_right (by omega) ?_)
  rw [List.length_take]; omega
theorem drop_eq_of (la lb : List Nat) (hl : la.length = lb.length) (k : Nat) (h : ∀ j, k ≤ j → la.getD j 0 = lb.getD j 0) : la.drop k = lb.drop k := by
  apply List.ext_getElem?
  intro j
  rw [List.getElem?_drop, List.getElem?_drop]
  have := h (k + j) (by omega)
  rw [List.getD_eq_getElem?_getD, List.getD_eq_getElem?_getD] at this
  by_cases hj : k + j < la.length
  · have hj' : k + j < lb.length := by omega
    rw [List.getElem?_eq_getElem hj, List.getElem?_eq_getElem hj'] at this ⊢
    simpa using this
  · rw [List.getElem?_eq_none (by omega), List.getElem?_eq_none (by omega)]
theorem cmpD_lt (la lb : List Nat) (hl : la.length = lb.length) (hda : Dg la) (hdb : Dg lb) (k : Nat) (h : ∀ j, k + 1 ≤ j → la.getD j 0 = lb.getD j 0) (hk : la.getD k 0 < lb.getD k 0) : valD la < valD lb := by
  rw [valD_split la (k + 1), valD_split lb (k + 1), drop_eq_of la lb hl (k + 1) h, valD_take, valD_take]
  have h1 := valD_take_lt la hda k
  have h2 : 16777216 ^ k * (la.getD k 0 + 1) ≤ 16777216 ^ k * lb.getD k 0 := Nat.mul_le_mul_left _ (by omega)
  rw [Nat.mul_add, Nat.mul_one] at h2
  omega
theorem lenD_lt (la lb : List Nat) (hda : Dg la) (hz : Nz lb) (h : la.length < lb.length) : valD la < valD lb := by
  have h1 := valD_lt la hda
  rcases hz with e | e
  · rw [e] at h; simp at h
  · have ht := valD_take lb (lb.length - 1)
    rw [show lb.length - 1 + 1 = lb.length by omega, List.take_length] at ht
    have hp : 16777216 ^ la.length ≤ 16777216 ^ (lb.length - 1) := Nat.pow_le_pow_right (by omega) (by omega)
    have hm : 16777216 ^ (lb.length - 1) * 1 ≤ 16777216 ^ (lb.length - 1) * lb.getD (lb.length - 1) 0 := Nat.mul_le_mul_left _ (by omega)
    generalize 16777216 ^ (lb.length - 1) = P at *
    omega
theorem eqD (la lb : List Nat) (hl : la.length = lb.length) (h : ∀ j, 0 ≤ j → la.getD j 0 = lb.getD j 0) : valD la = valD lb := by
  have := drop_eq_of la lb hl 0 h
  rw [List.drop_zero, List.drop_zero] at this
  rw [this]

set_option maxHeartbeats 2000000 in
theorem cmpR_any (la lb : List Nat) (va vb : Value) (w : World) (ha : Sl w va la) (hb : Sl w vb lb) (hda : Dg la) (hdb : Dg lb) (hza : Nz la) (hzb : Nz lb) (hla : la.length ≤ 100000) (hlb : lb.length ≤ 100000) :
    Calls Tryd.prog 45 #[va, vb] w fun e w' => e = .returned (.int .i64 (ord (valD la : Int) (valD lb : Int))) ∧ Below w.heap.size w w' := by
  obtain ⟨a, capa, rfl, hcapa, hnila, hca⟩ := ha
  obtain ⟨b, capb, rfl, hcapb, hnilb, hcb⟩ := hb
  have Hca : Hid _ := hca
  have Hcb : Hid _ := hcb
  have Hda : Hid (Dg la) := hda
  have Hdb : Hid (Dg lb) := hdb
  have hla' : (la.length : Int) ≤ 100000 := by omega
  have hlb' : (lb.length : Int) ≤ 100000 := by omega
  clear hca hcb hnila hnilb
  rcases Nat.lt_trichotomy la.length lb.length with h | h | h
  · have V : Hid (ord (valD la : Int) (valD lb : Int) = -1) := ord_lt (by have := lenD_lt la lb hda hzb h; omega)
    have h' : (la.length : Int) < lb.length := by omega
    clear hda hdb hza hzb
    go_enter Tryd.func45, Tryd.ntmps45
    go_wp2
    go_ret
    exact ⟨ret_int V.out.symm, Below.refl _ _⟩
  · have h' : (la.length : Int) = lb.length := by omega
    have Hl : Hid (la.length = lb.length) := h
    have h1 : ¬ (la.length : Int) < lb.length := by omega
    have h2 : ¬ (lb.length : Int) < la.length := by omega
    have h3 : (lb.length : Int) ≤ la.length := by omega
    clear hda hdb hza hzb h h'
    go_enter Tryd.func45, Tryd.ntmps45
    go_wp2
    go_loopw [5] (fun z W => ∃ k : Nat, k ≤ la.length ∧ z = .int .i64 ((k : Int) - 1) ∧ Hid (∀ j, k ≤ j → la.getD j 0 = lb.getD j 0) ∧ Hid (Below w.heap.size w W)) (fun z _ => ((intOf z) + 1).toNat)
    case atStart => exact ⟨la.length, Nat.le_refl _, rfl, fun j hj => by rw [getD_ge la j hj, getD_ge lb j (by have := Hl.out; omega)], Below.refl _ _⟩
    case round =>
      obtain ⟨k, hk, rfl, hE, hB⟩ := hrel
      cases k with
      | zero =>
        have V : Hid (ord (valD la : Int) (valD lb : Int) = 0) := ord_eq (by rw [eqD la lb Hl.out hE.out])
        go_wp2
        go_ret
        exact ⟨ret_int V.out.symm, hB.out⟩
      | succ k =>
        obtain ⟨ba, oa, rfl, hba, hcella⟩ := Hca.out k (by omega)
        obtain ⟨bb, ob, rfl, hbb, hcellb⟩ := Hcb.out k (by have := Hl.out; omega)
        obtain ⟨x, hx⟩ : ∃ x, Hid (la.getD k 0 = x) := ⟨_, rfl⟩
        obtain ⟨y, hy⟩ : ∃ y, Hid (lb.getD k 0 = y) := ⟨_, rfl⟩
        rw [hx.out] at hcella
        rw [hy.out] at hcellb
        have ca : wr.cell? ⟨ba, oa + k, none⟩ = some (.int .i64 (x : Int)) := (hB.out.cell (p := ⟨ba, oa + k, none⟩) hba).trans hcella
        have cb : wr.cell? ⟨bb, ob + k, none⟩ = some (.int .i64 (y : Int)) := (hB.out.cell (p := ⟨bb, ob + k, none⟩) hbb).trans hcellb
        have hkl : (k : Int) < la.length := by omega
        have hkb : (k : Int) < lb.length := by omega
        have hk0 : (0 : Int) ≤ (k : Int) := by omega
        clear hcella hcellb
        rcases Nat.lt_trichotomy x y with hxy | hxy | hxy
        · have V : Hid (ord (valD la : Int) (valD lb : Int) = -1) := ord_lt (by have := cmpD_lt la lb Hl.out Hda.out Hdb.out k hE.out (by rw [hx.out, hy.out]; exact hxy); omega)
          have hxy' : (x : Int) < y := by omega
          clear hxy
          go_wp2
          go_region
          go_wp2
          go_ret
          exact ⟨ret_int V.out.symm, hB.out.drew⟩
        · have hE' : Hid (∀ j, k ≤ j → la.getD j 0 = lb.getD j 0) := fun j hj => by
            by_cases e : j = k
            · subst e; rw [hx.out, hy.out, hxy]
            · exact hE.out j (by omega)
          subst hxy
          go_wp2
          go_region
          go_wp2
          go_region
          go_wp2
          go_roundw
          case rel => exact ⟨k, by omega, by go_num, hE', hB.out.drew.drew⟩
          case measure => simp [intOf]
        · have V : Hid (ord (valD la : Int) (valD lb : Int) = 1) := ord_gt (by have := cmpD_lt lb la Hl.out.symm Hdb.out Hda.out k (fun j hj => (hE.out j hj).symm) (by rw [hx.out, hy.out]; exact hxy); omega)
          have hxy' : (y : Int) < x := by omega
          have hxy2 : ¬ (x : Int) < y := by omega
          clear hxy
          go_wp2
          go_region
          go_wp2
          go_region
          go_wp2
          go_ret
          exact ⟨ret_int V.out.symm, hB.out.drew.drew⟩
  · have V : Hid (ord (valD la : Int) (valD lb : Int) = 1) := ord_gt (by have := lenD_lt lb la hdb hza h; omega)
    have h' : (lb.length : Int) < la.length := by omega
    have h'' : ¬ (la.length : Int) < lb.length := by omega
    clear hda hdb hza hzb
    go_enter Tryd.func45, Tryd.ntmps45
    go_wp2
    go_ret
    exact ⟨ret_int V.out.symm, Below.refl _ _⟩

end Go.Proofs.YtedhfimjcpbcpaaDoor

/-
  Bits of numbers below 2^256 and of their words: how many there are, and shifts word by word. No program is spoken of here.
-/
namespace Go.Proofs.YtedhfimjcpbcpaaDoor
set_option linter.unusedVariables false

/-- How many bits a number has. -/
def nbits (x : Nat) : Nat := if x = 0 then 0 else x.log2 + 1
theorem nbits_zero : nbits 0 = 0 := rfl
theorem nbits_shift (x b : Nat) (h : x / 2 ^ b ≠ 0) : nbits x = b + nbits (x / 2 ^ b) := by
  have hp : 0 < 2 ^ b := Nat.two_pow_pos b
  have hx : x ≠ 0 := by intro h0; subst h0; simp at h
  have h1 := Nat.log2_self_le h
  have h2 : x / 2 ^ b < 2 ^ ((x / 2 ^ b).log2 + 1) := Nat.lt_log2_self
  have e : x.log2 = (x / 2 ^ b).log2 + b := (Nat.log2_eq_iff hx).2
    ⟨by rw [Nat.pow_add]; exact (Nat.le_div_iff_mul_le hp).1 h1, by rw [show (x / 2 ^ b).log2 + b + 1 = ((x / 2 ^ b).log2 + 1) + b by omega, Nat.pow_add]; exact (Nat.div_lt_iff_lt_mul hp).1 h2⟩
  unfold nbits
  rw [if_neg hx, if_neg h, e]
  omega
theorem bitLenAux_nbits : ∀ (f x : Nat), x < 2 ^ f → Lib.bitLenAux f x = nbits x
  | 0, x, h => by
    have : x = 0 := by simpa using h
    subst this; rfl
  | f + 1, x, h => by
    unfold Lib.bitLenAux
    by_cases h0 : x = 0
    · subst h0; rfl
    · by_cases h1 : x / 2 = 0
      · have : x = 1 := by omega
        subst this
        simp [h0]
        rw [bitLenAux_nbits f 0 (Nat.two_pow_pos f)]
        decide
      · have := nbits_shift x 1 (by simpa using h1)
        simp [h0]
        rw [bitLenAux_nbits f (x / 2) (by rw [Nat.pow_succ] at h; omega), this]
theorem bitLen_nbits (x : Nat) (h : x < 18446744073709551616) : Lib.bitLen x = nbits x := bitLenAux_nbits 64 x h
theorem nbits_le (x k : Nat) (h : x < 2 ^ k) : nbits x ≤ k := by
  unfold nbits
  split
  · omega
  · rename_i h0
    have := (Nat.log2_lt h0).2 h
    omega

theorem bitsV (x : Nat) (a0 a1 a2 a3 o1 o2 o3 o4 : Int) (ha0 : Wd a0) (ha1 : Wd a1) (ha2 : Wd a2) (ha3 : Wd a3) (hx : (x : Int) = a0 + 18446744073709551616 * a1 + 340282366920938463463374607431768211456 * a2 + 6277101735386680763835789423207666416102355444464034512896 * a3)
    (h1 : o1 = if a0 = 0 then 0 else (nbits a0.toNat : Int)) (h2 : o2 = if a1 = 0 then o1 else 64 + (nbits a1.toNat : Int)) (h3 : o3 = if a2 = 0 then o2 else 128 + (nbits a2.toNat : Int)) (h4 : o4 = if a3 = 0 then o3 else 192 + (nbits a3.toNat : Int)) : (nbits x : Int) = o4 := by
  unfold Wd at *
  by_cases e3 : a3 = 0
  · rw [if_pos e3] at h4
    by_cases e2 : a2 = 0
    · rw [if_pos e2] at h3
      by_cases e1 : a1 = 0
      · rw [if_pos e1] at h2
        by_cases e0 : a0 = 0
        · rw [if_pos e0] at h1
          have : x = 0 := by omega
          rw [h4, h3, h2, h1, this]; rfl
        · rw [if_neg e0] at h1
          have : x = a0.toNat := by omega
          rw [h4, h3, h2, h1, this]
      · rw [if_neg e1] at h2
        have e : x / 2 ^ 64 = a1.toNat := by omega
        have := nbits_shift x 64 (by omega)
        rw [h4, h3, h2, this, e]
        omega
    · rw [if_neg e2] at h3
      have e : x / 2 ^ 128 = a2.toNat := by omega
      have := nbits_shift x 128 (by omega)
      rw [h4, h3, this, e]
      omega
  · rw [if_neg e3] at h4
    have e : x / 2 ^ 192 = a3.toNat := by omega
    have := nbits_shift x 192 (by omega)
    rw [h4, this, e]
    omega

/-- The i-th word of a number; 0, where there is none. -/
def wordAt (x : Nat) (i : Int) : Int := if 0 ≤ i ∧ i < 4 then ((x / 2 ^ (64 * i.toNat) % 18446744073709551616 : Nat) : Int) else 0
theorem wrapI (z : Int) (h0 : -9223372036854775808 ≤ z) (h1 : z ≤ 9223372036854775807) : IntKind.i64.wrap z = z := by rw [IntKind.wrap_i64]; omega

/-- The same word, as a natural number. -/
def wN (x : Nat) (i : Int) : Nat := if 0 ≤ i ∧ i < 4 then x / 2 ^ (64 * i.toNat) % 2 ^ 64 else 0
theorem wordAt_wN (x : Nat) (i : Int) : wordAt x i = (wN x i : Int) := by unfold wordAt wN; split <;> rfl
theorem wN_lt (x : Nat) (i : Int) : wN x i < 2 ^ 64 := by unfold wN; split <;> omega

theorem wN_bit (x : Nat) (hx : x < 2 ^ 256) (i : Int) (j : Nat) : (wN x i).testBit j = (decide (0 ≤ i) && (decide (j < 64) && x.testBit (64 * i.toNat + j))) := by
  unfold wN
  by_cases h : 0 ≤ i ∧ i < 4
  · rw [if_pos h, Nat.testBit_mod_two_pow, Nat.testBit_div_two_pow, Nat.add_comm]
    simp [h.1]
  · rw [if_neg h]
    by_cases h0 : 0 ≤ i
    · have : x.testBit (64 * i.toNat + j) = false := Nat.testBit_lt_two_pow (Nat.lt_of_lt_of_le hx (Nat.pow_le_pow_right (by omega) (by omega)))
      simp [this]
    · simp [h0]

theorem shl_word (x q r k : Nat) (hx : x < 2 ^ 256) (hr : r < 64) :
    (wN x ((k : Int) - q) * 2 ^ r % 2 ^ 64) ||| (wN x ((k : Int) - q - 1) / 2 ^ (64 - r)) = x * 2 ^ (64 * q + r) / 2 ^ (64 * k) % 2 ^ 64 := by
  apply Nat.eq_of_testBit_eq
  intro j
  rw [Nat.testBit_or, Nat.testBit_mod_two_pow, Nat.testBit_mul_two_pow, Nat.testBit_div_two_pow, wN_bit x hx, wN_bit x hx, Nat.testBit_mod_two_pow, Nat.testBit_div_two_pow, Nat.testBit_mul_two_pow]
  by_cases hj : j < 64
  · by_cases hkq : q ≤ k
    · by_cases hrj : r ≤ j
      · have e1 : (((k : Int) - q).toNat * 64 + (j - r)) = j + 64 * k - (64 * q + r) := by omega
        have d1 : decide (0 ≤ (k : Int) - q) = true := by simp; omega
        have d2 : decide (j + (64 - r) < 64) = false := by simp; omega
        have d3 : decide (j - r < 64) = true := by simp; omega
        have d4 : decide (64 * q + r ≤ j + 64 * k) = true := by simp; omega
        rw [d1, d2, d3, d4, show 64 * ((k : Int) - q).toNat + (j - r) = j + 64 * k - (64 * q + r) by omega]
        simp [hj, hrj]
      · have d1 : decide (r ≤ j) = false := by simp; omega
        rw [d1]
        by_cases hk : q + 1 ≤ k
        · have d2 : decide (0 ≤ (k : Int) - q - 1) = true := by simp; omega
          have d3 : decide (j + (64 - r) < 64) = true := by simp; omega
          have d4 : decide (64 * q + r ≤ j + 64 * k) = true := by simp; omega
          rw [d2, d3, d4, show 64 * ((k : Int) - q - 1).toNat + (j + (64 - r)) = j + 64 * k - (64 * q + r) by omega]
          simp [hj]
        · have d2 : decide (0 ≤ (k : Int) - q - 1) = false := by simp; omega
          have d4 : decide (64 * q + r ≤ j + 64 * k) = false := by simp; omega
          rw [d2, d4]
          simp
    · have d1 : decide (0 ≤ (k : Int) - q) = false := by simp; omega
      have d2 : decide (0 ≤ (k : Int) - q - 1) = false := by simp; omega
      have d4 : decide (64 * q + r ≤ j + 64 * k) = false := by simp; omega
      rw [d1, d2, d4]
      simp
  · have d1 : decide (j + (64 - r) < 64) = false := by simp; omega
    have d2 : decide (j < 64) = false := by simp; omega
    rw [d1, d2]
    simp

theorem shr_word (x q r k : Nat) (hx : x < 2 ^ 256) (hr : r < 64) :
    (wN x ((k : Int) + q) / 2 ^ r) ||| (wN x ((k : Int) + q + 1) * 2 ^ (64 - r) % 2 ^ 64) = x / 2 ^ (64 * q + r) / 2 ^ (64 * k) % 2 ^ 64 := by
  apply Nat.eq_of_testBit_eq
  intro j
  rw [Nat.testBit_or, Nat.testBit_mod_two_pow, Nat.testBit_mul_two_pow, Nat.testBit_div_two_pow, wN_bit x hx, wN_bit x hx, Nat.testBit_mod_two_pow, Nat.testBit_div_two_pow, Nat.testBit_div_two_pow]
  have d0 : decide (0 ≤ (k : Int) + q) = true := by simp; omega
  have d1 : decide (0 ≤ (k : Int) + q + 1) = true := by simp; omega
  rw [d0, d1]
  by_cases hj : j < 64
  · by_cases h : j + r < 64
    · have d2 : decide (64 - r ≤ j) = false := by simp; omega
      rw [d2, show 64 * ((k : Int) + q).toNat + (j + r) = j + 64 * k + (64 * q + r) by omega]
      simp [hj, h]
    · have d2 : decide (j + r < 64) = false := by simp; omega
      have d3 : decide (64 - r ≤ j) = true := by simp; omega
      have d4 : decide (j - (64 - r) < 64) = true := by simp; omega
      rw [d2, d3, d4, show 64 * ((k : Int) + q + 1).toNat + (j - (64 - r)) = j + 64 * k + (64 * q + r) by omega]
      simp [hj]
  · have d2 : decide (j + r < 64) = false := by simp; omega
    have d3 : decide (j < 64) = false := by simp; omega
    rw [d2, d3]
    simp

theorem left_word (x n : Nat) (hx : x < 2 ^ 256) (q r : Int) (hq : (n : Int) / 64 = q) (hr : (n : Int) % 64 = r) (k : Nat) (u v : Int) (hu : u = (k : Int) - q) (hv : v = (k : Int) - q - 1) :
    bits .or .u64 (IntKind.u64.wrap (wordAt x u * 2 ^ r.toNat)) (wordAt x v / 2 ^ (64 - r).toNat) = ((x * 2 ^ n / 2 ^ (64 * k) % 2 ^ 64 : Nat) : Int) := by
  obtain ⟨Q, rfl⟩ := Int.eq_ofNat_of_zero_le (show 0 ≤ q by omega)
  obtain ⟨R, rfl⟩ := Int.eq_ofNat_of_zero_le (show 0 ≤ r by omega)
  have e : n = 64 * Q + R := by omega
  have hR : R < 64 := by omega
  subst hu hv e
  rw [wordAt_wN, wordAt_wN, ← shl_word x Q R k hx hR, IntKind.wrap_u64]
  have e1 : ((wN x ((k : Int) - (Q : Int)) : Nat) : Int) * 2 ^ (R : Int).toNat % 18446744073709551616 = ((wN x ((k : Int) - (Q : Int)) * 2 ^ R % 2 ^ 64 : Nat) : Int) := by simp
  have e2 : ((wN x ((k : Int) - (Q : Int) - 1) : Nat) : Int) / 2 ^ (64 - (R : Int)).toNat = ((wN x ((k : Int) - (Q : Int) - 1) / 2 ^ (64 - R) : Nat) : Int) := by
    rw [show (64 - (R : Int)).toNat = 64 - R by omega]; simp
  rw [e1, e2, bits_or_u64_nat _ _ (Nat.mod_lt _ (by decide)) (Nat.lt_of_le_of_lt (Nat.div_le_self _ _) (wN_lt _ _))]

theorem right_word (x n : Nat) (hx : x < 2 ^ 256) (q r : Int) (hq : (n : Int) / 64 = q) (hr : (n : Int) % 64 = r) (k : Nat) (u v : Int) (hu : u = (k : Int) + q) (hv : v = (k : Int) + q + 1) :
    bits .or .u64 (wordAt x u / 2 ^ r.toNat) (IntKind.u64.wrap (wordAt x v * 2 ^ (64 - r).toNat)) = ((x / 2 ^ n / 2 ^ (64 * k) % 2 ^ 64 : Nat) : Int) := by
  obtain ⟨Q, rfl⟩ := Int.eq_ofNat_of_zero_le (show 0 ≤ q by omega)
  obtain ⟨R, rfl⟩ := Int.eq_ofNat_of_zero_le (show 0 ≤ r by omega)
  have e : n = 64 * Q + R := by omega
  have hR : R < 64 := by omega
  subst hu hv e
  rw [wordAt_wN, wordAt_wN, ← shr_word x Q R k hx hR, IntKind.wrap_u64]
  have e1 : ((wN x ((k : Int) + (Q : Int) + 1) : Nat) : Int) * 2 ^ (64 - (R : Int)).toNat % 18446744073709551616 = ((wN x ((k : Int) + (Q : Int) + 1) * 2 ^ (64 - R) % 2 ^ 64 : Nat) : Int) := by
    rw [show (64 - (R : Int)).toNat = 64 - R by omega]; simp
  have e2 : ((wN x ((k : Int) + (Q : Int)) : Nat) : Int) / 2 ^ (R : Int).toNat = ((wN x ((k : Int) + (Q : Int)) / 2 ^ R : Nat) : Int) := by simp
  rw [e1, e2, bits_or_u64_nat _ _ (Nat.lt_of_le_of_lt (Nat.div_le_self _ _) (wN_lt _ _)) (Nat.mod_lt _ (by decide))]

theorem four_words (X : Nat) (v0 v1 v2 v3 : Int) (h0 : v0 = ((X / 2 ^ (64 * 0) % 2 ^ 64 : Nat) : Int)) (h1 : v1 = ((X / 2 ^ (64 * 1) % 2 ^ 64 : Nat) : Int)) (h2 : v2 = ((X / 2 ^ (64 * 2) % 2 ^ 64 : Nat) : Int)) (h3 : v3 = ((X / 2 ^ (64 * 3) % 2 ^ 64 : Nat) : Int)) :
    four (X % M4) = .agg #[.int .u64 v0, .int .u64 v1, .int .u64 v2, .int .u64 v3] := by
  subst h0 h1 h2 h3
  unfold M4
  refine four_eq _ _ _ _ _ ?_ ?_ ?_ ?_ ?_
  · unfold Wd; omega
  · unfold Wd; omega
  · unfold Wd; omega
  · unfold Wd; omega
  · omega

/-- The j-th byte of a number, from the lowest on. -/
def byteAt (x j : Nat) : Int := ((x / 2 ^ (8 * j) % 256 : Nat) : Int)
theorem byteAt_rng (x j : Nat) : 0 ≤ byteAt x j ∧ byteAt x j ≤ 255 := by unfold byteAt; omega
/-- The number of the first t bytes f 0, f 1, .., the lowest first. -/
def vb (f : Nat → Int) : Nat → Nat
  | 0 => 0
  | t + 1 => vb f t + (f t).toNat * 256 ^ t
theorem vb_lt (f : Nat → Int) (hf : ∀ j, 0 ≤ f j ∧ f j ≤ 255) : ∀ t, vb f t < 256 ^ t
  | 0 => by simp [vb]
  | t + 1 => by
    have h := vb_lt f hf t
    have := hf t
    have h2 : (f t).toNat * 256 ^ t ≤ 255 * 256 ^ t := Nat.mul_le_mul_right _ (by omega)
    simp only [vb, Nat.pow_succ]
    omega
theorem vb_add (f : Nat → Int) (s : Nat) : ∀ k, vb f (s + k) = vb f s + 256 ^ s * vb (fun j => f (s + j)) k
  | 0 => by simp [vb]
  | k + 1 => by
    rw [← Nat.add_assoc]
    simp only [vb]
    rw [vb_add f s k, Nat.mul_add, Nat.pow_add, Nat.add_assoc, Nat.mul_left_comm]
/-- The bytes of a number make that number. -/
theorem vb_byteAt (x : Nat) : ∀ t, vb (byteAt x) t = x % 256 ^ t
  | 0 => by simp [vb, Nat.mod_one]
  | t + 1 => by
    simp only [vb]
    rw [vb_byteAt x t]
    unfold byteAt
    rw [Int.toNat_natCast, Nat.pow_succ, Nat.mod_mul, show (2 : Nat) ^ (8 * t) = 256 ^ t by rw [Nat.pow_mul], Nat.mul_comm (256 ^ t)]
/-- One byte more into a word. -/
theorem or_byte (f : Nat → Int) (hf : ∀ j, 0 ≤ f j ∧ f j ≤ 255) (k : Nat) (hk : k < 8) :
    bits .or .u64 ((vb f k : Nat) : Int) (IntKind.u64.wrap (f k * 2 ^ (8 * (k : Int)).toNat)) = ((vb f (k + 1) : Nat) : Int) := by
  have hl := vb_lt f hf k
  have hl2 := vb_lt f hf (k + 1)
  have hk2 : (256 : Nat) ^ (k + 1) ≤ 256 ^ 8 := Nat.pow_le_pow_right (by omega) (by omega)
  have hk3 : (256 : Nat) ^ k ≤ 256 ^ 8 := Nat.pow_le_pow_right (by omega) (by omega)
  have h8 : (256 : Nat) ^ 8 = 18446744073709551616 := by decide
  obtain ⟨c, hc⟩ := Int.eq_ofNat_of_zero_le (hf k).1
  have hv : vb f (k + 1) = vb f k + c * 256 ^ k := by simp only [vb]; rw [hc, Int.toNat_natCast]
  have e : f k * 2 ^ (8 * (k : Int)).toNat = ((c * 256 ^ k : Nat) : Int) := by
    rw [hc, show (8 * (k : Int)).toNat = 8 * k by omega, show (256 : Nat) ^ k = 2 ^ (8 * k) by rw [Nat.pow_mul]]
    simp
  rw [e, IntKind.wrap_u64, Int.emod_eq_of_lt (Int.natCast_nonneg _) (by omega), bits_or_u64_nat _ _ (by omega) (by omega), hv]
  congr 1
  rw [show (256 : Nat) ^ k = 2 ^ (8 * k) by rw [Nat.pow_mul]] at hl ⊢
  rw [Nat.or_comm, Nat.mul_comm, ← Nat.two_pow_add_eq_or_of_lt hl, Nat.add_comm]

end Go.Proofs.YtedhfimjcpbcpaaDoor

/-
  The contracts of the document's own Sub and Bit over digits of 24 bits: the difference of two numbers, a number's bit. Conditions: as each theorem says.
-/
namespace Go.Proofs.YtedhfimjcpbcpaaDoor
open Go.RowKit
set_option linter.unusedVariables false

/-- A difference's state behind i digits, c borrowed. -/
def SubAt (la lb : List Nat) (i c : Nat) (o : List Nat) : Prop :=
  o.length = i ∧ Dg o ∧ c ≤ 1 ∧ valD (la.take i) + 16777216 ^ i * c = valD (lb.take i) + valD o
theorem SubAt.step {la lb : List Nat} {i c : Nat} {o : List Nat} (h : SubAt la lb i c o) (x y d c' : Nat) (hx : la.getD i 0 = x) (hy : lb.getD i 0 = y) (hd : d < 16777216) (hc : c' ≤ 1) (he : x + 16777216 * c' = y + c + d) :
    SubAt la lb (i + 1) c' (o ++ [d]) := by
  obtain ⟨h1, h2, h3, h4⟩ := h
  refine ⟨by simp [h1], h2.snoc hd, hc, ?_⟩
  rw [valD_snoc, valD_take, valD_take, h1, hx, hy, Nat.pow_succ, Nat.mul_assoc]
  have e : 16777216 ^ i * x + 16777216 ^ i * (16777216 * c') = 16777216 ^ i * y + 16777216 ^ i * c + 16777216 ^ i * d := by
    rw [← Nat.mul_add, he, Nat.mul_add, Nat.mul_add]
  omega
theorem SubAt.done {la lb : List Nat} {c : Nat} {o : List Nat} (h : SubAt la lb la.length c o) (hl : lb.length ≤ la.length) (hle : valD lb ≤ valD la) : valD o = valD la - valD lb := by
  obtain ⟨h1, h2, h3, h4⟩ := h
  have hlt := valD_lt o h2
  rw [h1] at hlt
  rw [List.take_length, valD_take_all lb _ hl] at h4
  rcases Nat.lt_or_ge 0 c with hc | hc
  · obtain rfl : c = 1 := by omega
    rw [Nat.mul_one] at h4
    omega
  · obtain rfl : c = 0 := by omega
    rw [Nat.mul_zero] at h4
    omega

set_option maxHeartbeats 4000000 in
theorem subR_any (la lb : List Nat) (va vb : Value) (w : World) (ha : Sl w va la) (hb : Sl w vb lb) (hda : Dg la) (hdb : Dg lb) (hla : la.length ≤ 100000) (hll : lb.length ≤ la.length) (hle : valD lb ≤ valD la) :
    Calls Tryd.prog 43 #[va, vb] w fun e w' => ∃ v, e = .returned v ∧ Num w' v (valD la - valD lb) ∧ Below w.heap.size w w' := by
  obtain ⟨a, capa, rfl, hcapa, hnila, hca⟩ := ha
  obtain ⟨b, capb, rfl, hcapb, hnilb, hcb⟩ := hb
  have Hca : Hid _ := hca
  have Hcb : Hid _ := hcb
  have Hda : Hid (Dg la) := hda
  have Hdb : Hid (Dg lb) := hdb
  have Hle : Hid (valD lb ≤ valD la) := hle
  clear hca hcb hda hdb hnila hnilb hle
  have hla' : (la.length : Int) ≤ 100000 := by omega
  have hlb' : (lb.length : Int) ≤ 100000 := by omega
  go_enter Tryd.func43, Tryd.ntmps43
  go_wp2
  go_loopw [5, 6, 7] (fun v x y wr => ∃ (i c : Nat) (o : List Nat), y = .int .i64 i ∧ x = .int .i64 c ∧ i ≤ la.length ∧ Own w.heap.size wr v o ∧ Below w.heap.size w wr ∧ Hid (SubAt la lb i c o)) (fun _ _ y _ => la.length - (intOf y).toNat)
  case atStart => exact ⟨0, 0, [], rfl, rfl, Nat.zero_le _, Own.nil _ _, Below.refl _ _, rfl, Dg.nil, by omega, by simp [valD]⟩
  case round =>
    obtain ⟨i, c, o, rfl, rfl, hi, hown, hbel, H⟩ := hrel
    have hol : o.length = i := H.out.1
    have hc1 : (c : Int) ≤ 1 := by have := H.out.2.2.1; omega
    have hsz := hbel.size
    have Hb : Hid (Below w.heap.size w wr) := hbel
    have Ho : Hid (Own w.heap.size wr u5 o) := hown
    have hlen : o.length ≤ 1000000 := by omega
    clear hown hbel hol
    by_cases hia : i < la.length
    · have hia' : (i : Int) < la.length := by omega
      obtain ⟨x, hx⟩ : ∃ x, Hid (la.getD i 0 = x) := ⟨_, rfl⟩
      obtain ⟨y, hy⟩ : ∃ y, Hid (lb.getD i 0 = y) := ⟨_, rfl⟩
      have hx1 : (x : Int) ≤ 16777215 := by have := Hda.out i; rw [hx.out] at this; omega
      have hy1 : (y : Int) ≤ 16777215 := by have := Hdb.out i; rw [hy.out] at this; omega
      obtain ⟨ba, oa, rfl, hba, hcella⟩ := Hca.out i hia
      rw [hx.out] at hcella
      have hcella' : wr.cell? ⟨ba, oa + i, none⟩ = some (.int .i64 (x : Int)) := (Hb.out.cell (p := ⟨ba, oa + i, none⟩) hba).trans hcella
      clear hcella
      by_cases hib : i < lb.length
      · have hib' : (i : Int) < lb.length := by omega
        obtain ⟨bb, ob, rfl, hbb, hcellb⟩ := Hcb.out i hib
        rw [hy.out] at hcellb
        have hcellb' : wr.cell? ⟨bb, ob + i, none⟩ = some (.int .i64 (y : Int)) := (Hb.out.cell (p := ⟨bb, ob + i, none⟩) hbb).trans hcellb
        clear hcellb
        by_cases hneg : x < c + y
        · have hneg' : (x : Int) - c - y < 0 := by omega
          have R : Hid _ := H.out.step x y (x + 16777216 - c - y) 1 hx.out hy.out (by omega) (by omega) (by omega)
          go_wp2_with (at_builtin; refine wpList_app1 rfl _ _ rfl w.heap.size u5 o (x + 16777216 - c - y) _ (by omega) rfl Ho.out rfl hlen hsz ?_; intro v' w1 hown' hb')
          go_roundw
          case rel => exact ⟨i + 1, 1, _, by go_num, by go_num, by omega, hown', Hb.out.trans hb', R⟩
          case measure => simp [intOf]; omega
        · have hneg' : ¬ (x : Int) - c - y < 0 := by omega
          have R : Hid _ := H.out.step x y (x - c - y) 0 hx.out hy.out (by omega) (by omega) (by omega)
          go_wp2_with (at_builtin; refine wpList_app1 rfl _ _ rfl w.heap.size u5 o (x - c - y) _ (by omega) rfl Ho.out rfl hlen hsz ?_; intro v' w1 hown' hb')
          go_roundw
          case rel => exact ⟨i + 1, 0, _, by go_num, by go_num, by omega, hown', Hb.out.trans hb', R⟩
          case measure => simp [intOf]; omega
      · have hib' : ¬ (i : Int) < lb.length := by omega
        have hy0 : y = 0 := by rw [← hy.out]; exact getD_ge lb i (by omega)
        subst hy0
        by_cases hneg : x < c
        · have hneg' : (x : Int) - c < 0 := by omega
          have R : Hid _ := H.out.step x 0 (x + 16777216 - c) 1 hx.out hy.out (by omega) (by omega) (by omega)
          go_wp2_with (at_builtin; refine wpList_app1 rfl _ _ rfl w.heap.size u5 o (x + 16777216 - c) _ (by omega) rfl Ho.out rfl hlen hsz ?_; intro v' w1 hown' hb')
          go_roundw
          case rel => exact ⟨i + 1, 1, _, by go_num, by go_num, by omega, hown', Hb.out.trans hb', R⟩
          case measure => simp [intOf]; omega
        · have hneg' : ¬ (x : Int) - c < 0 := by omega
          have R : Hid _ := H.out.step x 0 (x - c) 0 hx.out hy.out (by omega) (by omega) (by omega)
          go_wp2_with (at_builtin; refine wpList_app1 rfl _ _ rfl w.heap.size u5 o (x - c) _ (by omega) rfl Ho.out rfl hlen hsz ?_; intro v' w1 hown' hb')
          go_roundw
          case rel => exact ⟨i + 1, 0, _, by go_num, by go_num, by omega, hown', Hb.out.trans hb', R⟩
          case measure => simp [intOf]; omega
    · obtain rfl : i = la.length := by omega
      have hv : Hid _ := H.out.done hll Hle.out
      have Hdo : Hid (Dg o) := H.out.2.1
      go_wp2_with (go_at_call 87; refine (trim_any o u5 _ Ho.out.sl hlen Hdo.out).mono ?_; rintro e w' ⟨v', rfl, hN, rfl⟩)
      go_ret
      exact ⟨_, rfl, by rw [← hv.out]; exact hN, Hb.out⟩

set_option maxHeartbeats 1000000 in
theorem bitR_any (la : List Nat) (va : Value) (i : Nat) (w : World) (ha : Sl w va la) (hda : Dg la) (hla : la.length ≤ 100000) (hi : i ≤ 1000000) :
    Calls Tryd.prog 42 #[va, .int .i64 (i : Int)] w fun e w' => e = .returned (.int .i64 ((valD la / 2 ^ i % 2 : Nat) : Int)) ∧ Below w.heap.size w w' := by
  obtain ⟨a, capa, rfl, hcapa, hnila, hca⟩ := ha
  have hla' : (la.length : Int) ≤ 100000 := by omega
  have hi' : (i : Int) ≤ 1000000 := by omega
  obtain ⟨q, hq⟩ : ∃ q : Nat, (i : Int) / 24 = (q : Int) := ⟨i / 24, by omega⟩
  obtain ⟨r, hr⟩ : ∃ r : Nat, (i : Int) % 24 = (r : Int) := ⟨i % 24, by omega⟩
  have hi2 : 24 * q + r = i := by omega
  have hr2 : r < 24 := by omega
  have hbit := digit_bit la hda q r hr2
  rw [hi2] at hbit
  obtain ⟨B, hB⟩ : ∃ B : Nat, valD la / 2 ^ i % 2 = B := ⟨_, rfl⟩
  rw [hB] at hbit ⊢
  have Hbit : Hid _ := hbit
  have Hca : Hid _ := hca
  clear hbit hca hnila hi2 hB
  by_cases hql : q < la.length
  · obtain ⟨ba, oa, rfl, hba, hcella⟩ := Hca.out q hql
    obtain ⟨d, hd⟩ : ∃ d, Hid (la.getD q 0 = d) := ⟨_, rfl⟩
    have hd1 : (d : Int) ≤ 16777215 := by have := hda q; rw [hd.out] at this; omega
    rw [hd.out] at hcella
    obtain ⟨p, hp⟩ : ∃ p : Nat, Hid (p = 2 ^ r) := ⟨2 ^ r, rfl⟩
    have hp0 : (0 : Int) < p := by have := Nat.two_pow_pos r; rw [← hp.out] at this; omega
    have hpow : Hid (∀ w, Calls Tryd.prog 86 #[.int .i64 (r : Int)] w fun e w' => e = .returned (.int .i64 (p : Int)) ∧ w' = w) := by
      intro w
      have := pow2_any r (by omega) w
      rwa [← hp.out] at this
    obtain ⟨e, he⟩ : ∃ e : Nat, d / p = e := ⟨_, rfl⟩
    have hq1 := wrap_quo d p e he (by omega)
    have hp00 : ¬ p = 0 := by omega
    have he1 : (e : Int) ≤ 16777215 := by have := Nat.div_le_self d p; omega
    have HB : Hid (B = e % 2) := by unfold Hid; rw [Hbit.out, hd.out, ← hp.out, he]
    have hql' : (q : Int) < la.length := by omega
    clear he hda
    go_enter Tryd.func42, Tryd.ntmps42
    go_wp2
    go_quiet ((go_at_call 86; exact Calls.quiet_of_same (hpow.out _)))
    go_wp2
    go_ret
    exact ⟨ret_int (by have := HB.out; omega), Joins_draws (Below.refl _ _) _⟩
  · have HB : Hid (B = 0) := by unfold Hid; rw [Hbit.out, getD_ge la q (by omega), Nat.zero_div]
    have hql' : ¬ (q : Int) < la.length := by omega
    have hql2 : (la.length : Int) ≤ q := by omega
    clear hda
    go_enter Tryd.func42, Tryd.ntmps42
    go_wp2
    go_ret
    exact ⟨ret_int (by have := HB.out; omega), Below.refl _ _⟩

end Go.Proofs.YtedhfimjcpbcpaaDoor

/-
  The plain arithmetic of the law LimbBack: sums, differences, shifts, bits, bytes and products of numbers below 2^256. No program is spoken of here.
-/
namespace Go.Proofs.YtedhfimjcpbcpaaDoor
set_option linter.unusedVariables false

end Go.Proofs.YtedhfimjcpbcpaaDoor

/-
  The contracts of the document's own Down and Bits over digits of 24 bits: a number through a power of two, how many bits it has. Conditions: as each theorem says.
-/
namespace Go.Proofs.YtedhfimjcpbcpaaDoor
open Go.RowKit
set_option linter.unusedVariables false

theorem down_split (la : List Nat) (hd : Dg la) (q r : Nat) : valD la / 2 ^ (24 * q + r) = valD (la.drop q) / 2 ^ r := by
  rw [Nat.pow_add, Nat.pow_mul, ← Nat.div_div_eq_div_mul, show (2 : Nat) ^ 24 = 16777216 from by decide]
  congr 1
  have h2 := valD_take_lt la hd q
  rw [valD_split la q, Nat.add_mul_div_left _ _ (Nat.pow_pos (by omega)), Nat.div_eq_of_lt h2, Nat.zero_add]
theorem valD_drop (la : List Nat) (i : Nat) : valD (la.drop i) = la.getD i 0 + 16777216 * valD (la.drop (i + 1)) := by
  by_cases h : i < la.length
  · rw [List.drop_eq_getElem_cons h, valD, List.getD_eq_getElem?_getD, List.getElem?_eq_getElem h]; rfl
  · rw [List.drop_eq_nil_of_le (by omega), List.drop_eq_nil_of_le (by omega), getD_ge la i (by omega)]; rfl
theorem down_step (x y k up R : Nat) (hk : 0 < k) (hku : k * up = 16777216) : (x + 16777216 * (y + 16777216 * R)) / k = (x / k + y % k * up) + 16777216 * ((y + 16777216 * R) / k) := by
  have hm : (y + 16777216 * R) % k = y % k := by rw [← hku, Nat.mul_assoc, Nat.add_mul_mod_self_left]
  generalize hS : y + 16777216 * R = S at hm ⊢
  have e := Nat.div_add_mod S k
  rw [hm] at e
  have e1 : (x + 16777216 * S) / k = x / k + up * S := by rw [← hku, Nat.mul_assoc, Nat.add_mul_div_left _ _ hk]
  have e2 : up * S = 16777216 * (S / k) + y % k * up := by
    rw [← hku, Nat.mul_comm k up, Nat.mul_assoc, Nat.mul_comm (y % k) up, ← Nat.mul_add, e]
  rw [e1, e2]; omega
theorem down_digit (x y k up : Nat) (hx : x < 16777216) (hk : 0 < k) (hku : k * up = 16777216) : x / k + y % k * up < 16777216 := by
  have h1 : x / k < up := by rw [Nat.div_lt_iff_lt_mul hk, Nat.mul_comm]; omega
  have h2 : y % k + 1 ≤ k := Nat.mod_lt _ hk
  have h3 : (y % k + 1) * up ≤ k * up := Nat.mul_le_mul_right up h2
  rw [Nat.add_mul, hku] at h3
  omega
/-- The digits o stand, and what is left of la behind its i-th digit. -/
def DownAt (la : List Nat) (N q r i : Nat) (o : List Nat) : Prop :=
  o.length + q = i ∧ Dg o ∧ N = valD o + 16777216 ^ o.length * (valD (la.drop i) / 2 ^ r)
theorem DownAt.step {la : List Nat} {N q r i : Nat} {o : List Nat} (h : DownAt la N q r i o) (hd : Dg la) (x y k up d : Nat) (hx : la.getD i 0 = x) (hy : la.getD (i + 1) 0 = y) (hk : k = 2 ^ r) (hku : k * up = 16777216) (he : d = x / k + y % k * up) :
    DownAt la N q r (i + 1) (o ++ [d]) := by
  obtain ⟨h1, h2, h3⟩ := h
  have hk0 : 0 < k := by rw [hk]; exact Nat.two_pow_pos r
  have hd' : d < 16777216 := by rw [he]; exact down_digit x y k up (by rw [← hx]; exact hd i) hk0 hku
  refine ⟨by simp; omega, h2.snoc hd', ?_⟩
  rw [h3, valD_snoc, valD_drop la i, valD_drop la (i + 1), hx, hy, ← hk, down_step x y k up _ hk0 hku, ← he, List.length_append, List.length_singleton, Nat.pow_succ, Nat.mul_add, Nat.mul_assoc]
  omega

theorem pow_up (r : Nat) (hr : r < 24) : 2 ^ r * 2 ^ (24 - r) = 16777216 := by rw [← Nat.pow_add, show r + (24 - r) = 24 by omega]

set_option maxHeartbeats 4000000 in
theorem downR_any (la : List Nat) (va : Value) (n : Nat) (w : World) (ha : Sl w va la) (hda : Dg la) (hla : la.length ≤ 100000) (hn : n ≤ 100000) :
    Calls Tryd.prog 109 #[va, .int .i64 (n : Int)] w fun e w' => ∃ v, e = .returned v ∧ Num w' v (valD la / 2 ^ n) ∧ Below w.heap.size w w' := by
  obtain ⟨a, capa, rfl, hcapa, hnila, hca⟩ := ha
  obtain ⟨q, hq⟩ : ∃ q : Nat, (n : Int) / 24 = (q : Int) := ⟨n / 24, by omega⟩
  obtain ⟨r, hr⟩ : ∃ r : Nat, (n : Int) % 24 = (r : Int) := ⟨n % 24, by omega⟩
  have hr2 : r < 24 := by omega
  have hN : Hid (valD la / 2 ^ n = valD (la.drop q) / 2 ^ r) := by
    unfold Hid; rw [← down_split la hda q r, show 24 * q + r = n by omega]
  have Hca : Hid _ := hca
  have Hda : Hid (Dg la) := hda
  clear hca hda hnila
  have hla' : (la.length : Int) ≤ 100000 := by omega
  have hn' : (n : Int) ≤ 100000 := by omega
  have hr3 : (r : Int) ≤ 23 := by omega
  have hq3 : (q : Int) ≤ 100000 := by omega
  have hku0 := pow_up r hr2
  have hk0 := Nat.two_pow_pos r
  have cK : Hid (∀ w, Calls Tryd.prog 86 #[.int .i64 (r : Int)] w fun e w' => e = .returned (.int .i64 ((2 ^ r : Nat) : Int)) ∧ w' = w) := fun w => pow2_any r (by omega) w
  have cU : Hid (∀ w, Calls Tryd.prog 86 #[.int .i64 (24 - (r : Int))] w fun e w' => e = .returned (.int .i64 ((2 ^ (24 - r) : Nat) : Int)) ∧ w' = w) := by
    intro w
    have := pow2_any (24 - r) (by omega) w
    rwa [show ((24 - r : Nat) : Int) = 24 - (r : Int) by omega] at this
  obtain ⟨k, hk⟩ : ∃ k : Nat, k = 2 ^ r := ⟨_, rfl⟩
  obtain ⟨up, hup⟩ : ∃ up : Nat, up = 2 ^ (24 - r) := ⟨_, rfl⟩
  rw [← hk] at cK hk0 hku0
  rw [← hup] at cU hku0
  have Hk : Hid (k = 2 ^ r) := hk
  have Hku : Hid (k * up = 16777216) := hku0
  have hk1 : (0 : Int) < k := by omega
  have hk2 : ¬ k = 0 := by omega
  have hkle : (k : Int) ≤ 16777216 := by
    have : k ≤ 2 ^ 24 := by rw [hk]; exact Nat.pow_le_pow_right (by omega) (by omega)
    omega
  have huple : (up : Int) ≤ 16777216 := by
    have : up ≤ 2 ^ 24 := by rw [hup]; exact Nat.pow_le_pow_right (by omega) (by omega)
    omega
  clear hk hup hk0 hku0 hr2
  go_enter Tryd.func109, Tryd.ntmps109
  go_wp2_with (first
    | (with_reducible refine (cK.out w).mono ?_; rintro e w' ⟨rfl, hw'⟩; rw [hw']; clear hw' w')
    | (with_reducible refine (cU.out w).mono ?_; rintro e w' ⟨rfl, hw'⟩; rw [hw']; clear hw' w'))
  go_loopw [7, 8] (fun v y wr => ∃ (i : Nat) (o : List Nat), y = .int .i64 i ∧ (i ≤ la.length ∨ i = q) ∧ o.length ≤ 100000 ∧ Own w.heap.size wr v o ∧ Below w.heap.size w wr ∧ Hid (DownAt la (valD la / 2 ^ n) q r i o)) (fun _ y _ => la.length - (intOf y).toNat)
  case atStart => exact ⟨q, [], rfl, Or.inr rfl, by simp, Own.nil _ _, Below.refl _ _, by simp, Dg.nil, by simp [valD, hN.out]⟩
  case round =>
    obtain ⟨i, o, rfl, hi, hol, hown, hbel, H⟩ := hrel
    have hsz := hbel.size
    have Hb : Hid (Below w.heap.size w wr) := hbel
    have Ho : Hid (Own w.heap.size wr u7 o) := hown
    have hlen : o.length ≤ 1000000 := by omega
    have hi1 : (i : Int) ≤ 100000 := by omega
    clear hown hbel
    by_cases hia : i < la.length
    · have hia' : (i : Int) < la.length := by omega
      have hol2 : o.length + 1 ≤ 100000 := by have := H.out.1; omega
      obtain ⟨x, hx⟩ : ∃ x, Hid (la.getD i 0 = x) := ⟨_, rfl⟩
      obtain ⟨y, hy⟩ : ∃ y, Hid (la.getD (i + 1) 0 = y) := ⟨_, rfl⟩
      have hx1 : (x : Int) ≤ 16777215 := by have := Hda.out i; rw [hx.out] at this; omega
      have hy1 : (y : Int) ≤ 16777215 := by have := Hda.out (i + 1); rw [hy.out] at this; omega
      obtain ⟨ba, oa, rfl, hba, hcella⟩ := Hca.out i hia
      rw [hx.out] at hcella
      have hcella' : wr.cell? ⟨ba, oa + i, none⟩ = some (.int .i64 (x : Int)) := (Hb.out.cell (p := ⟨ba, oa + i, none⟩) hba).trans hcella
      clear hcella
      obtain ⟨e, he⟩ : ∃ e : Nat, x / k = e := ⟨_, rfl⟩
      have he1 : (e : Int) ≤ 16777215 := by have := Nat.div_le_self x k; omega
      have hq1 : (x : Int) / (k : Int) = (e : Int) := by rw [← he]; simp
      by_cases hib : i + 1 < la.length
      · have hib' : (i : Int) + 1 < la.length := by omega
        obtain ⟨bb, ob, hae, hbb, hcellb⟩ := Hca.out (i + 1) hib
        simp only [Option.some.injEq, Addr.mk.injEq, and_true] at hae
        obtain ⟨rfl, rfl⟩ := hae
        rw [hy.out] at hcellb
        have hcellb' : wr.cell? ⟨ba, oa + (i + 1), none⟩ = some (.int .i64 (y : Int)) := (Hb.out.cell (p := ⟨ba, oa + (i + 1), none⟩) hbb).trans hcellb
        clear hcellb
        obtain ⟨z, hz⟩ : ∃ z : Nat, y % k = z := ⟨_, rfl⟩
        have hz1 : (z : Int) ≤ 16777215 := by have := Nat.mod_lt y (show 0 < k by omega); omega
        have hq2 : (y : Int) % (k : Int) = (z : Int) := by rw [← hz]; simp
        obtain ⟨m, hm⟩ : ∃ m : Nat, z * up = m := ⟨_, rfl⟩
        have hq3' : (z : Int) * (up : Int) = (m : Int) := by rw [← hm]; simp
        have hdg := down_digit x y k up (by omega) (by omega) Hku.out
        rw [he, hz, hm] at hdg
        have hm1 : (m : Int) ≤ 16777215 := by omega
        have R : Hid _ := H.out.step Hda.out x y k up (e + m) hx.out hy.out Hk.out Hku.out (by rw [he, hz, hm])
        clear he hz hm hdg
        go_wp2_with (at_builtin; refine wpList_app1 rfl _ _ rfl w.heap.size u7 o (e + m) _ (by omega) rfl Ho.out rfl hlen hsz ?_; intro v' w1 hown' hb')
        go_roundw
        case rel => exact ⟨i + 1, _, by go_num, Or.inl (by omega), by simp; omega, hown', Hb.out.trans hb', R⟩
        case measure => simp [intOf]; omega
      · have hib' : ¬ (i : Int) + 1 < la.length := by omega
        have hy0 : y = 0 := by rw [← hy.out]; exact getD_ge la (i + 1) (by omega)
        subst hy0
        have R : Hid _ := H.out.step Hda.out x 0 k up e hx.out hy.out Hk.out Hku.out (by rw [he]; simp)
        clear he
        go_wp2_with (at_builtin; refine wpList_app1 rfl _ _ rfl w.heap.size u7 o e _ (by omega) rfl Ho.out rfl hlen hsz ?_; intro v' w1 hown' hb')
        go_roundw
        case rel => exact ⟨i + 1, _, by go_num, Or.inl (by omega), by simp; omega, hown', Hb.out.trans hb', R⟩
        case measure => simp [intOf]; omega
    · have hia' : ¬ (i : Int) < la.length := by omega
      have hv : Hid (valD la / 2 ^ n = valD o) := by
        unfold Hid
        have := H.out.2.2
        rw [List.drop_eq_nil_of_le (by omega)] at this
        simpa [valD] using this
      have Hdo : Hid (Dg o) := H.out.2.1
      go_wp2_with (go_at_call 87; refine (trim_any o u7 _ Ho.out.sl hlen Hdo.out).mono ?_; rintro e w' ⟨v', rfl, hN, rfl⟩)
      go_ret
      exact ⟨_, rfl, by rw [hv.out]; exact hN, Hb.out⟩

theorem nbits_half (x : Nat) (h : 0 < x) : nbits x = nbits (x / 2) + 1 := by
  by_cases h1 : x / 2 = 0
  · obtain rfl : x = 1 := by omega
    decide
  · have := nbits_shift x 1 (by simpa using h1)
    simp at this
    omega
theorem nbits_top (la : List Nat) (hd : Dg la) (hz : Nz la) (h0 : 0 < la.length) : nbits (valD la) = 24 * (la.length - 1) + nbits (la.getD (la.length - 1) 0) := by
  have hs := down_split la hd (la.length - 1) 0
  rw [valD_drop la (la.length - 1), List.drop_eq_nil_of_le (by omega)] at hs
  simp only [Nat.add_zero, Nat.pow_zero, Nat.div_one, valD, Nat.mul_zero] at hs
  rcases hz with e | hz
  · rw [e] at h0; simp at h0
  · rw [nbits_shift (valD la) (24 * (la.length - 1)) (by rw [hs]; exact hz), hs]

set_option maxHeartbeats 1000000 in
theorem bitsR_any (la : List Nat) (va : Value) (w : World) (ha : Sl w va la) (hda : Dg la) (hza : Nz la) (hla : la.length ≤ 100000) :
    Calls Tryd.prog 60 #[va] w fun e w' => e = .returned (.int .i64 (nbits (valD la) : Int)) ∧ Below w.heap.size w w' := by
  obtain ⟨a, capa, rfl, hcapa, hnila, hca⟩ := ha
  have hla' : (la.length : Int) ≤ 100000 := by omega
  by_cases h0 : la.length = 0
  · have e : la = [] := List.eq_nil_of_length_eq_zero h0
    subst e
    have g : Hid (nbits (valD []) = 0) := rfl
    go_enter Tryd.func60, Tryd.ntmps60
    go_wp2
    go_ret
    exact ⟨ret_int (by rw [g.out]; rfl), Below.refl _ _⟩
  · have hb0 : ((la.length : Int) == 0) = false := beq_eq_false_iff_ne.2 (by omega)
    have ht := nbits_top la hda hza (by omega)
    obtain ⟨m, hm⟩ : ∃ m : Nat, la.length - 1 = m := ⟨_, rfl⟩
    have hlm : la.length = m + 1 := by omega
    obtain ⟨b, off, rfl, hb, hc⟩ := hca m (by omega)
    have hd := hda m
    rw [hm] at ht
    obtain ⟨x, hx⟩ : ∃ x : Nat, la.getD m 0 = x := ⟨_, rfl⟩
    rw [hx] at ht hc hd
    have HT : Hid (nbits (valD la) = 24 * m + nbits x) := ht
    clear ht hca hda hza hx hnila hm h0
    have hx1 : (x : Int) ≤ 16777215 := by omega
    rw [hlm] at hcapa ⊢
    have hm1 : (m : Int) ≤ 100000 := by omega
    have hb0 : ((m : Int) + 1 == 0) = false := beq_eq_false_iff_ne.2 (by omega)
    go_enter Tryd.func60, Tryd.ntmps60
    go_wp2
    go_loopw [3, 4] (fun n v wr => ∃ (t z : Nat), n = .int .i64 t ∧ v = .int .i64 z ∧ t + z ≤ 20000000 ∧ wr = w ∧ Hid (nbits (valD la) = t + nbits z)) (fun _ v _ => (intOf v).toNat)
    case atStart => exact ⟨24 * m, x, by go_num, rfl, by omega, rfl, HT⟩
    case round =>
      obtain ⟨t, z, rfl, rfl, htz, hwr, H⟩ := hrel
      rw [hwr]
      clear hwr
      by_cases hz : 0 < z
      · have hz' : (0 : Int) < z := by omega
        have R : Hid (nbits (valD la) = (t + 1) + nbits (z / 2)) := by
          have h1 := H.out
          have h2 := nbits_half z hz
          unfold Hid; omega
        have ht' : (t : Int) ≤ 20000000 := by omega
        have hz3 : (z : Int) ≤ 20000000 := by omega
        clear H HT
        go_wp2
        go_roundw
        case rel => exact ⟨t + 1, z / 2, by go_num, by go_num, by omega, trivial, R⟩
        case measure => simp [intOf]; omega
      · obtain rfl : z = 0 := by omega
        have R : Hid (nbits (valD la) = t) := by
          have h1 := H.out
          rw [nbits_zero] at h1
          unfold Hid; omega
        clear H HT
        go_wp2
        go_ret
        exact ⟨ret_int (by rw [R.out]), Below.refl _ _⟩

end Go.Proofs.YtedhfimjcpbcpaaDoor

/-
  The contracts of the document's own sums, differences, order, products and shifts, at the level of numbers. Conditions: as each theorem says.
-/
namespace Go.Proofs.YtedhfimjcpbcpaaDoor
open Go.RowKit
set_option linter.unusedVariables false

theorem add_num (M N : Nat) (va vb : Value) (w : World) (ha : Num w va M) (hb : Num w vb N) (m : Nat) (hM : M < 16777216 ^ m) (hN : N < 16777216 ^ m) (hm : m ≤ 10000) :
    Calls Tryd.prog 58 #[va, vb] w fun e w' => ∃ v, e = .returned v ∧ Num w' v (M + N) ∧ Below w.heap.size w w' := by
  obtain ⟨l, h1, h2, h3, rfl⟩ := ha
  obtain ⟨l', k1, k2, k3, rfl⟩ := hb
  have hl := nz_len l m h2 h3 hM
  have hl' := nz_len l' m k2 k3 hN
  exact addR_any l l' va vb w h1 k1 h2 k2 (by omega) (by omega)
theorem sub_num (M N : Nat) (va vb : Value) (w : World) (ha : Num w va M) (hb : Num w vb N) (m : Nat) (hM : M < 16777216 ^ m) (hm : m ≤ 10000) (hle : N ≤ M) :
    Calls Tryd.prog 43 #[va, vb] w fun e w' => ∃ v, e = .returned v ∧ Num w' v (M - N) ∧ Below w.heap.size w w' := by
  obtain ⟨l, h1, h2, h3, rfl⟩ := ha
  obtain ⟨l', k1, k2, k3, rfl⟩ := hb
  have hl := nz_len l m h2 h3 hM
  have hll : l'.length ≤ l.length := by
    rcases Nat.lt_or_ge l.length l'.length with h | h
    · have := lenD_lt l l' h2 k3 h; omega
    · exact h
  exact subR_any l l' va vb w h1 k1 h2 k2 (by omega) hll hle
theorem cmp_num (M N : Nat) (va vb : Value) (w : World) (ha : Num w va M) (hb : Num w vb N) (m : Nat) (hM : M < 16777216 ^ m) (hN : N < 16777216 ^ m) (hm : m ≤ 10000) :
    Calls Tryd.prog 45 #[va, vb] w fun e w' => e = .returned (.int .i64 (ord (M : Int) (N : Int))) ∧ Below w.heap.size w w' := by
  obtain ⟨l, h1, h2, h3, rfl⟩ := ha
  obtain ⟨l', k1, k2, k3, rfl⟩ := hb
  have hl := nz_len l m h2 h3 hM
  have hl' := nz_len l' m k2 k3 hN
  exact cmpR_any l l' va vb w h1 k1 h2 k2 h3 k3 (by omega) (by omega)
theorem small_num (M : Nat) (va : Value) (n : Nat) (w : World) (ha : Num w va M) (m : Nat) (hM : M < 16777216 ^ m) (hm : m ≤ 10000) (hn : n ≤ 9223372036854775807) :
    Calls Tryd.prog 63 #[va, .int .i64 (n : Int)] w fun e w' => ∃ v, e = .returned v ∧ Num w' v (M * n) ∧ Below w.heap.size w w' := by
  obtain ⟨l, h1, h2, h3, rfl⟩ := ha
  have hl := nz_len l m h2 h3 hM
  exact small_any l va n w h1 h2 (by omega) hn
theorem shift_num (M : Nat) (va : Value) (n : Nat) (w : World) (ha : Num w va M) (m : Nat) (hM : M < 16777216 ^ m) (hm : m ≤ 10000) (hn : n ≤ 100000) :
    Calls Tryd.prog 88 #[va, .int .i64 (n : Int)] w fun e w' => ∃ v, e = .returned v ∧ Num w' v (M * 2 ^ n) ∧ Below w.heap.size w w' := by
  obtain ⟨l, h1, h2, h3, rfl⟩ := ha
  have hl := nz_len l m h2 h3 hM
  exact shift_any l va n w h1 h2 (by omega) hn
theorem ref_mul_num (M N : Nat) (va vb : Value) (w : World) (ha : Num w va M) (hb : Num w vb N) (m : Nat) (hM : M < 16777216 ^ m) (hN : N < 16777216 ^ m) (hm : m ≤ 10000) :
    Calls Tryd.prog 90 #[va, vb] w fun e w' => ∃ v, e = .returned v ∧ Num w' v (M * N) ∧ Below w.heap.size w w' := by
  obtain ⟨l, h1, h2, h3, rfl⟩ := ha
  obtain ⟨l', k1, k2, k3, rfl⟩ := hb
  have hl := nz_len l m h2 h3 hM
  have hl' := nz_len l' m k2 k3 hN
  exact mulR_any l l' va vb w h1 k1 h2 k2 (by omega) (by omega)

end Go.Proofs.YtedhfimjcpbcpaaDoor

/-
  Bytes as lists; the contracts of the document's own Turned, ToLittle and Big at any number of bytes. Conditions: as each theorem says.
-/
namespace Go.Proofs.YtedhfimjcpbcpaaDoor
open Go.RowKit
set_option linter.unusedVariables false

theorem Row.sk {k : IntKind} {base g : Nat} {l : List Nat} {W : World} (h : Row k base g l W) : SK k W (.slice (some ⟨g, 0, none⟩) l.length l.length) l :=
  ⟨some ⟨g, 0, none⟩, l.length, rfl, Nat.le_refl _, fun h => by simp at h, fun j hj => ⟨g, 0, rfl, h.lt, by rw [Nat.zero_add]; exact h.cell j hj⟩⟩
theorem list_of_getD (l m : List Nat) (hl : l.length = m.length) (h : ∀ j, j < l.length → l.getD j 0 = m.getD j 0) : l = m := by
  apply List.ext_getElem?
  intro j
  by_cases hj : j < l.length
  · have := h j hj
    rw [List.getD_eq_getElem?_getD, List.getD_eq_getElem?_getD] at this
    rw [List.getElem?_eq_getElem hj, List.getElem?_eq_getElem (show j < m.length by omega)] at this ⊢
    simpa using this
  · rw [List.getElem?_eq_none (by omega), List.getElem?_eq_none (by omega)]

theorem info_u8' : (Tryd.prog.info? 5).map (fun i => (i.zero, i.size, i.bytes)) = some (some (.int .u8 0), 1, 1) := by kernel_rfl
/-- The number of the first t bytes, the highest first. -/
def hvN (l : List Nat) : Nat → Nat
  | 0 => 0
  | t + 1 => hvN l t * 256 + l.getD t 0
/-- Each of them is a byte. -/
def Bb (l : List Nat) : Prop := ∀ j, l.getD j 0 < 256
theorem hvN_lt (l : List Nat) (h : Bb l) : ∀ t, hvN l t < 256 ^ t
  | 0 => by simp [hvN]
  | t + 1 => by
    have := hvN_lt l h t
    have := h t
    simp only [hvN, Nat.pow_succ]
    omega

/-- The n bytes of N, the lowest first. -/
def leB (N n : Nat) : List Nat := (List.range n).map fun i => N / 2 ^ (8 * i) % 256
theorem leB_length (N n : Nat) : (leB N n).length = n := by simp [leB]
theorem leB_get (N n j : Nat) (h : j < n) : (leB N n).getD j 0 = N / 2 ^ (8 * j) % 256 := by
  simp [leB, List.getD_eq_getElem?_getD, h]
/-- The list turned. -/
def turn (l : List Nat) : List Nat := (List.range l.length).map fun j => l.getD (l.length - 1 - j) 0
theorem turn_length (l : List Nat) : (turn l).length = l.length := by simp [turn]
theorem turn_get (l : List Nat) (j : Nat) (h : j < l.length) : (turn l).getD j 0 = l.getD (l.length - 1 - j) 0 := by
  simp [turn, List.getD_eq_getElem?_getD, h]
/-- The values of bytes. -/
def bv8 (l : List Nat) : List Value := l.map fun (d : Nat) => Value.int .u8 (d : Int)
theorem bv8_get (l : List Nat) (j : Nat) (h : j < l.length) : (bv8 l)[j]? = some (.int .u8 (l.getD j 0 : Int)) := by
  simp [bv8, List.getD_eq_getElem?_getD, h]
/-- The call's own slice, with the bytes l. -/
def Own8 (base : Nat) (w : World) (v : Value) (l : List Nat) : Prop := w.ownsRow base 5 1 v l.length (bv8 l)
theorem Own8.nil (base : Nat) (w : World) : Own8 base w (.slice none 0 0) [] := World.ownsRow_nil _ _ _ _
theorem Own8.sk {base : Nat} {w : World} {v : Value} {l : List Nat} (h : Own8 base w v l) : SK .u8 w v l := by
  obtain ⟨h1, h2⟩ := h
  rcases h2 with ⟨e, e0⟩ | ⟨g, cap, cur, e, hg, hh, hn, hm, hc, ht⟩
  · have : l = [] := List.eq_nil_of_length_eq_zero e0
    subst this
    rw [e]
    exact SK.nil _ w
  · refine ⟨some ⟨g, 0, none⟩, cap, e, hn, fun h => by simp at h, fun j hj => ⟨g, 0, rfl, ?_, ?_⟩⟩
    · rcases Nat.lt_or_ge g w.heap.size with h' | h'
      · exact h'
      · rw [Array.getElem?_eq_none h'] at hh; cases hh
    · have hj' : j < cur.size := by omega
      have : (cur.toList.take (l.length * 1))[j]? = some (.int .u8 (l.getD j 0 : Int)) := by rw [ht]; exact bv8_get l j hj
      rw [List.getElem?_take, if_pos (by omega)] at this
      simp only [World.cell?, hh, Nat.zero_add]
      simpa using this
theorem wpList_app8 {ops : Array Oper} {rest : List Oper} {o : Oper} {a : Act} {Q : Exit → Act → World → Prop} {wr : World} (hgd : o.guard = none) (s x : Operand)
    (ho : o.op = .call { callee := .builtin .append, args := #[s, x], argTypes := #[22, 22] })
    (base : Nat) (v : Value) (l : List Nat) (d : Nat) (hs : a.eval s = v) (hown : Own8 base wr v l)
    (hx : a.eval x = .slice (some ⟨wr.heap.size, 0, none⟩) 1 1) (hlen : l.length ≤ 1000000) (hbase : base ≤ wr.heap.size)
    (h : ∀ v' w', Own8 base w' v' (l ++ [d]) → Below base wr w' → wpList Tryd.prog ops Q rest (a.put o.dst v') w') :
    wpList Tryd.prog ops Q (o :: rest) a (wr.alloc (.cells #[.int .u8 (d : Int)] 5)) := by
  obtain ⟨i0, hi, hz0, hz1, hz2⟩ := info_parts info_u8'
  refine wpList_append_own _ hgd s x 22 ho base 5 i0 (.int .u8 0) 1 1 Tryd.underlying22 hi hz0 hz1 hz2 rfl (by decide) v _ _ hs (World.ownsRow.alloc hown _) ⟨wr.heap.size, 0, none⟩ 1 1 [.int .u8 (d : Int)] hx rfl ?_ ?_ ?_ ?_ ?_ ?_
  · intro j u hj
    match j, hj with
    | 0, hj => simp at hj; subst hj; simp [Addr.add]
  · intro u hu; simp at hu; subst hu; rfl
  · unfold maxLen; omega
  · omega
  · simp; omega
  · intro v' w' h1 h2 _
    refine h v' w' ?_ ?_
    · unfold Own8
      have e : bv8 (l ++ [d]) = bv8 l ++ [.int .u8 (d : Int)] := by simp [bv8]
      rw [e]
      simpa using h1
    · refine Below.grown (Below.alloc (Below.refl _ _) hbase _) h2 (by simp; omega) ?_
      intro k hk
      rcases hown.2 with ⟨e, _⟩ | ⟨g, cap, cur, e, hg, _⟩
      · rw [e] at hk; simp [Value.ownBlock] at hk
      · rw [e] at hk; simp [Value.ownBlock] at hk; omega

set_option maxHeartbeats 1000000 in
theorem turnedN_any (l : List Nat) (va : Value) (w : World) (ha : SK .u8 w va l) (hl : l.length ≤ 100000) :
    Calls Tryd.prog 85 #[va] w fun e w' => ∃ v, e = .returned v ∧ SK .u8 w' v (turn l) ∧ Below w.heap.size w w' := by
  obtain ⟨a, cap, rfl, -, -, k1⟩ := ha
  have K1 : Hid _ := k1
  clear k1
  have hl' : (l.length : Int) ≤ 100000 := by omega
  go_enter Tryd.func85, Tryd.ntmps85
  go_wp2
  go_loopw [3, 4] (fun v y wr => ∃ (t : Nat) (o : List Nat), t ≤ l.length ∧ o.length = t ∧ y = .int .i64 ((l.length : Int) - 1 - (t : Int)) ∧ Own8 w.heap.size wr v o ∧ Below w.heap.size w wr ∧ Hid (∀ j, j < t → o.getD j 0 = l.getD (l.length - 1 - j) 0)) (fun _ y _ => (intOf y + 1).toNat)
  case atStart => exact ⟨0, [], by omega, rfl, by go_num, Own8.nil _ _, Below.refl _ _, fun j hj => by omega⟩
  case round =>
    obtain ⟨t, o, ht, hol, rfl, hown, hbel, H⟩ := hrel
    have hsz := hbel.size
    have Hb : Hid (Below w.heap.size w wr) := hbel
    have Ho : Hid (Own8 w.heap.size wr u3 o) := hown
    have hlen : o.length ≤ 1000000 := by omega
    clear hown
    by_cases hlt : t < l.length
    · obtain ⟨i, hi⟩ : ∃ i : Nat, (l.length : Int) - 1 - (t : Int) = (i : Int) := ⟨l.length - 1 - t, by omega⟩
      have hi2 : (i : Int) < l.length := by omega
      have hi3 : l.length - 1 - t = i := by omega
      obtain ⟨b1, o1, rfl, l1, k1⟩ := K1.out i (by omega)
      have d1 := (hbel.cell (p := ⟨b1, o1 + i, none⟩) l1).trans k1
      obtain ⟨z, hz⟩ : ∃ z, Hid (l.getD i 0 = z) := ⟨_, rfl⟩
      rw [hz.out] at d1
      rw [hi]
      clear hbel k1
      have R : Hid (∀ j, j < t + 1 → (o ++ [z]).getD j 0 = l.getD (l.length - 1 - j) 0) := by
        intro j hj
        rw [getD_snoc o z j]
        by_cases h1 : j < o.length
        · rw [if_pos h1]; exact H.out j (by omega)
        · obtain rfl : j = t := by omega
          rw [if_neg h1, if_pos hol.symm, hi3, hz.out]
      have Hi : Hid ((l.length : Int) - 1 - (t : Int) = (i : Int)) := hi
      clear hi
      go_wp2_with (at_builtin; refine wpList_app8 rfl _ _ rfl w.heap.size u3 o z rfl Ho.out rfl hlen hsz ?_; intro v' w1 hown' hb')
      go_roundw
      case rel => exact ⟨t + 1, _, by omega, by simp [hol], by have := Hi.out; go_num, hown', Hb.out.trans hb', R⟩
      case measure => simp [intOf] <;> omega
    · obtain rfl : t = l.length := by omega
      have e : o = turn l := list_of_getD _ _ (by rw [hol, turn_length]) (fun j hj => by rw [hol] at hj; rw [H.out j hj, turn_get l j hj])
      have hs := Ho.out.sk
      rw [e] at hs
      have R : Hid (SK .u8 wr u3 (turn l)) := hs
      obtain ⟨ra, rc, hre⟩ := hs.shape
      subst hre
      clear hbel Ho H hs e
      go_wp2
      go_ret
      exact ⟨_, rfl, R.out, Hb.out⟩

theorem pow256 (t k : Nat) (h : t ≤ 3 * k) : 256 ^ t ≤ 16777216 ^ k := by
  rw [show (16777216 : Nat) = 256 ^ 3 from by decide, ← Nat.pow_mul]
  exact Nat.pow_le_pow_right (by omega) h

set_option maxHeartbeats 3000000 in
theorem bigN_any (l : List Nat) (hf : Bb l) (va : Value) (w : World) (ha : SK .u8 w va l) (hl : l.length ≤ 3000) :
    Calls Tryd.prog 84 #[va] w fun e w' => ∃ v, e = .returned v ∧ Num w' v (hvN l l.length) ∧ Below w.heap.size w w' := by
  obtain ⟨a, cap, rfl, -, -, k1⟩ := ha
  have K1 : Hid _ := k1
  have HF : Hid (Bb l) := hf
  clear k1 hf
  have hl' : (l.length : Int) ≤ 3000 := by omega
  go_enter Tryd.func84, Tryd.ntmps84
  go_wp2
  go_loopw [3, 4] (fun v y wr => ∃ i : Nat, i ≤ l.length ∧ y = .int .i64 i ∧ Hid (Num wr v (hvN l i) ∧ Below w.heap.size w wr)) (fun _ y _ => l.length - (intOf y).toNat)
  case atStart => exact ⟨0, by omega, rfl, ⟨[], Sl.nil _, Dg.nil, Or.inl rfl, rfl⟩, Below.refl _ _⟩
  case round =>
    obtain ⟨i, hi, rfl, H⟩ := hrel
    obtain ⟨na, nc, nd, hsh⟩ := H.out.1.shape
    subst hsh
    have Hb : Hid (Below w.heap.size w wr) := H.out.2
    have HN : Hid (Num wr (.slice na nc nd) (hvN l i)) := H.out.1
    by_cases hlt : i < l.length
    · have hlt' : (i : Int) < l.length := by omega
      obtain ⟨b, off, rfl, l1, k1⟩ := K1.out i hlt
      obtain ⟨c, hc⟩ : ∃ c : Nat, Hid (l.getD i 0 = c) := ⟨_, rfl⟩
      have hc1 : (c : Int) ≤ 255 := by have := HF.out i; rw [hc.out] at this; omega
      have lb : b < wr.heap.size := Nat.lt_of_lt_of_le l1 Hb.out.size
      have d1 : wr.cell? ⟨b, off + i, none⟩ = some (.int .u8 (c : Int)) := by rw [← hc.out]; exact (Hb.out.cell (p := ⟨b, off + i, none⟩) l1).trans k1
      obtain ⟨K, hK⟩ : ∃ K : Nat, K = 1000 := ⟨_, rfl⟩
      have hv1 : hvN l i < 256 ^ i := hvN_lt l HF.out i
      have HB1 : Hid (hvN l i < 16777216 ^ K) := Nat.lt_of_lt_of_le hv1 (pow256 i K (by omega))
      have HB2 : Hid (hvN l i * 256 < 16777216 ^ (K + 1)) := by
        unfold Hid
        have := HB1.out
        rw [Nat.pow_succ]; omega
      have HB3 : Hid (c < 16777216 ^ (K + 1)) := Nat.lt_of_le_of_lt (show c ≤ 255 by omega) (Nat.lt_of_lt_of_le (show 255 < 16777216 ^ 1 by decide) (Nat.pow_le_pow_right (by omega) (by omega)))
      have hS : Hid (hvN l (i + 1) = hvN l i * 256 + c) := by unfold Hid; rw [← hc.out]; rfl
      have hi1 : i + 1 ≤ l.length := by omega
      have hc2 : c ≤ 9223372036854775807 := by omega
      obtain ⟨V, hV⟩ : ∃ V, Hid (hvN l i = V) := ⟨_, rfl⟩
      rw [hV.out] at HN HB1 HB2 hS
      clear hv1 H K1 HF k1
      go_wp2_with fail
      have cS : Hid (Calls Tryd.prog 63 #[.slice na nc nd, .int .i64 256] wr.drew fun e w' => ∃ v, e = .returned v ∧ Num w' v (V * 256) ∧ Below wr.drew.heap.size wr.drew w') :=
        small_num V _ 256 _ (HN.out.below (Below.refl _ _).drew) K HB1.out (by omega) (by decide)
      have cI : Hid (∀ W, Calls Tryd.prog 64 #[.int .i64 (c : Int)] W fun e w' => ∃ v, e = .returned v ∧ Num w' v c ∧ Below W.heap.size W w') := fun W => int_any c hc2 W
      have cA : Hid (∀ W va vb, Num W va (V * 256) → Num W vb c → Calls Tryd.prog 58 #[va, vb] W fun e w' => ∃ v, e = .returned v ∧ Num w' v (V * 256 + c) ∧ Below W.heap.size W w') := fun W va vb h1 h2 => add_num (V * 256) c _ _ _ h1 h2 (K + 1) HB2.out HB3.out (by omega)
      have D1 : Hid (∀ w5, Below wr.drew.heap.size wr.drew w5 → w5.cell? ⟨b, off + i, none⟩ = some (.int .u8 (c : Int))) := fun w5 g5 => (g5.cell (p := ⟨b, off + i, none⟩) lb).trans d1
      have wc8 : IntKind.i64.wrap (c : Int) = (c : Int) := wrapI _ (by omega) (by omega)
      clear HB1 HB2 HB3 hc2 hK
      go_region_with (first
        | (go_at_call 63; refine cS.out.mono ?_; rintro e w5 ⟨v5, rfl, n5, g5⟩; obtain ⟨sa, sc, sd, rfl⟩ := n5.shape; have d5 := D1.out w5 g5; have N5 : Hid (Num w5 (.slice sa sc sd) (V * 256)) := n5; have G5 : Hid (Below wr.drew.heap.size wr.drew w5) := g5; clear n5 g5)
        | (go_at_call 64; (with_reducible refine (cI.out _).mono ?_); rintro e w6 ⟨v6, rfl, n6, g6⟩; obtain ⟨ta, tc, td, rfl⟩ := n6.shape; have N6 : Hid (Num w6 (.slice ta tc td) c) := n6; have G6 : Hid (Below w5.heap.size w5 w6) := g6; clear n6 g6)
        | (go_at_call 58; refine (cA.out _ _ _ (N5.out.below G6.out) N6.out).mono ?_; rintro e w7 ⟨v7, rfl, n7, g7⟩; obtain ⟨ra, rc, rd, rfl⟩ := n7.shape; have N7 : Hid (Num w7 (.slice ra rc rd) (V * 256 + c)) := n7; have G7 : Hid (Below w6.heap.size w6 w7) := g7; clear n7 g7))
      all_goals
        go_wp2_with fail
        go_roundw
        case rel => exact ⟨i + 1, hi1, by go_num, by rw [hS.out]; exact N7.out, (Hb.out.drew.trans (G5.out.mono Hb.out.size)).trans ((G6.out.mono (Nat.le_trans Hb.out.size G5.out.size)).trans (G7.out.mono (Nat.le_trans Hb.out.size (Nat.le_trans G5.out.size G6.out.size))))⟩
        case measure => simp [intOf] <;> omega
    · obtain rfl : i = l.length := by omega
      go_wp2
      go_ret
      exact ⟨_, rfl, HN.out, Hb.out⟩


set_option maxHeartbeats 1000000 in
theorem littleN_any (l : List Nat) (hf : Bb l) (va : Value) (w : World) (ha : SK .u8 w va l) (hl : l.length ≤ 3000) :
    Calls Tryd.prog 41 #[va] w fun e w' => ∃ v, e = .returned v ∧ Num w' v (hvN (turn l) l.length) ∧ Below w.heap.size w w' := by
  have ft : Bb (turn l) := by
    intro j
    by_cases h : j < l.length
    · rw [turn_get l j h]; exact hf _
    · rw [List.getD_eq_getElem?_getD, List.getElem?_eq_none (by rw [turn_length]; omega)]; simp
  have c1 : Hid (∀ w, SK .u8 w va l → Calls Tryd.prog 85 #[va] w fun e w' => ∃ v, e = .returned v ∧ SK .u8 w' v (turn l) ∧ Below w.heap.size w w') := fun w h => turnedN_any l va w h (by omega)
  have c2 : Hid (∀ v w, SK .u8 w v (turn l) → Calls Tryd.prog 84 #[v] w fun e w' => ∃ v, e = .returned v ∧ Num w' v (hvN (turn l) l.length) ∧ Below w.heap.size w w') := by
    intro v w h; have := bigN_any (turn l) ft v w h (by rw [turn_length]; exact hl); rwa [turn_length] at this
  obtain ⟨a, cap, rfl⟩ := ha.shape
  have HA : Hid (SK .u8 w (.slice a l.length cap) l) := ha
  clear ha hl hf ft
  go_enter Tryd.func41, Tryd.ntmps41
  go_wp2_with fail
  refine (c1.out _ HA.out).mono ?_
  rintro e w1 ⟨v1, rfl, h1, g1⟩
  obtain ⟨a1, cap1, e1⟩ := h1.shape
  subst e1
  have H1 : Hid (SK .u8 w1 (.slice a1 (turn l).length cap1) (turn l)) := h1
  have G1 : Hid (Below w.heap.size w w1) := g1
  clear h1 g1
  go_wp2_with fail
  refine (c2.out _ _ H1.out).mono ?_
  rintro e w2 ⟨v2, rfl, h2, g2⟩
  have H2 : Hid (Num w2 v2 (hvN (turn l) l.length)) := h2
  have G2 : Hid (Below w.heap.size w w2) := G1.out.trans (g2.mono G1.out.size)
  clear h2 g2
  go_wp2_with fail
  go_ret
  exact ⟨_, rfl, H2.out, G2.out⟩

end Go.Proofs.YtedhfimjcpbcpaaDoor

/-
  How an argument that is a slice of words or of bytes is opened: the slice leads to a list of them. Conditions: none beyond those written.
-/
namespace Go.Proofs.YtedhfimjcpbcpaaDoor
open Go.ChangeShapes Go.WideShapes Go.ChangeAt Go.RowKit
set_option linter.unusedVariables false

theorem wf_rng {k : IntKind} {B : Nat} (hB : ∀ n, (Lit.int k n).wf = true → 0 ≤ n ∧ n < (B : Int)) (zs : List Int) (h : ∀ n ∈ zs, (Lit.int k n).wf = true) (hp : 0 < B) (j : Nat) : 0 ≤ zs.getD j 0 ∧ zs.getD j 0 < (B : Int) := by
  by_cases hj : j < zs.length
  · have : zs.getD j 0 = zs[j] := by simp [List.getD_eq_getElem?_getD, hj]
    rw [this]
    exact hB _ (h _ (List.getElem_mem hj))
  · have : zs.getD j 0 = 0 := by simp [List.getD_eq_getElem?_getD, List.getElem?_eq_none (show zs.length ≤ j by omega)]
    rw [this]; omega
theorem cell_plain' {w : World} {b o : Nat} {sp : Option Nat} {v : Value} (h : w.cell? ⟨b, o, sp⟩ = some v) : sp = none ∧ b < w.heap.size := by
  unfold World.cell? at h
  simp only at h
  split at h
  · rename_i c _ _ hh
    refine ⟨?_, ?_⟩
    · cases sp
      · rfl
      · simp at h
    · rcases Nat.lt_or_ge b w.heap.size with h' | h'
      · exact h'
      · rw [Array.getElem?_eq_none h'] at hh; cases hh
  · cases h

set_option maxRecDepth 100000 in
theorem open_sk {H : Type} {enc : TypeId × Value → H} {W : World} {base : Nat} {r : Reach} {t e : TypeId} {k : IntKind} {v : Value} {d : DataW H} {p : List MemPlace} (B : Nat) (hp : 0 < B) (hB : ∀ n, (Lit.int k n).wf = true → 0 ≤ n ∧ n < (B : Int))
    (ht : Tryd.prog.underlying t = some (.slice e)) (he : Tryd.prog.underlying e = some (.int k)) (hc : Tryd.prog.cellsOf e = 1)
    (hv : Value.okWide Tryd.prog W r base t v) (h : DataW.Trod enc Tryd.prog W 0 (fun _ => true) true t v d p) : ∃ l, SK k W v l ∧ ∀ j, l.getD j 0 < B := by
  obtain ⟨a0, len0, cap0, rfl⟩ := okWide_slice ht hv
  obtain ⟨fuel, hf⟩ := h
  rcases open_ints ht he hc hf with ⟨hcs, _⟩ | ⟨x, len, cap, zs, hcs, _, hl, hm, hz, _, hcell, hwz⟩
  · simp [Value.cells] at hcs
    obtain ⟨rfl, rfl, rfl⟩ := hcs
    exact ⟨[], SK.nil _ _, fun j => by simpa using hp⟩
  · simp [Value.cells] at hcs
    obtain ⟨rfl, rfl, rfl⟩ := hcs
    have hz' : zs.length = cap0 := by simpa using hz
    have rng := wf_rng hB zs hwz hp
    have hlen : ((zs.take len0).map Int.toNat).length = len0 := by simp; omega
    have hget : ∀ j, j < len0 → ((zs.take len0).map Int.toNat).getD j 0 = (zs.getD j 0).toNat := by
      intro j hj
      simp [List.getD_eq_getElem?_getD, hj, show j < zs.length by omega]
    refine ⟨(zs.take len0).map Int.toNat, ⟨some x, cap0, by rw [hlen], by omega, fun h => by simp at h, fun j hj => ?_⟩, fun j => ?_⟩
    · rw [hlen] at hj
      have h0 := hcell 0 (by omega)
      have hj1 := hcell j (by omega)
      obtain ⟨b, o, sp⟩ := x
      simp only [Addr.add, if_pos] at h0
      obtain ⟨rfl, hb⟩ := cell_plain' h0
      refine ⟨b, o, rfl, hb, ?_⟩
      rw [hget j hj, Int.toNat_of_nonneg (rng j).1]
      unfold Addr.add at hj1
      by_cases hj0 : j = 0
      · subst hj0; simpa using hj1
      · rw [if_neg hj0] at hj1; exact hj1
    · by_cases hj : j < len0
      · rw [hget j hj]
        have := rng j
        omega
      · rw [getD_ge _ _ (by rw [hlen]; omega)]; exact hp
set_option maxRecDepth 100000 in
theorem open_octets {H : Type} {enc : TypeId × Value → H} {W : World} {base : Nat} {r : Reach} {v : Value} {d : DataW H} {p : List MemPlace}
    (hv : Value.okWide Tryd.prog W r base 22 v) (h : DataW.Trod enc Tryd.prog W 0 (fun _ => true) true 22 v d p) : ∃ l, SK .u8 W v l ∧ Bb l :=
  open_sk 256 (by omega) (fun n hn => by
    simp [Lit.wf, IntKind.min, IntKind.max, IntKind.signed, IntKind.bits] at hn
    omega) Tryd.underlying22 Tryd.underlying5 (by kernel_rfl) hv h

end Go.Proofs.YtedhfimjcpbcpaaDoor

/-
  Numbers modulo primes: a divisor of a product divides a factor; Fermat's little theorem; Pocklington's test for primes. No program is spoken of here. Conditions: as each theorem says.
-/
namespace Go.Proofs.YtedhfimjcpbcpaaDoor
set_option linter.unusedVariables false

/-- A prime. -/
def Pr (p : Nat) : Prop := 1 < p ∧ ∀ d, d ∣ p → d = 1 ∨ d = p

theorem Pr.coprime {p a : Nat} (hp : Pr p) (h : ¬ p ∣ a) : Nat.Coprime p a := by
  rcases hp.2 _ (Nat.gcd_dvd_left p a) with e | e
  · exact e
  · exact absurd (e ▸ Nat.gcd_dvd_right p a) h
theorem Pr.dvd_mul {p a b : Nat} (hp : Pr p) (h : p ∣ a * b) : p ∣ a ∨ p ∣ b := by
  by_cases ha : p ∣ a
  · exact .inl ha
  · exact .inr ((hp.coprime ha).dvd_of_dvd_mul_left h)
theorem Pr.mul_ne {p a b : Nat} (hp : Pr p) (ha : a % p ≠ 0) (hb : b % p ≠ 0) : a * b % p ≠ 0 := by
  intro h
  rcases hp.dvd_mul (Nat.dvd_of_mod_eq_zero h) with h | h
  · exact ha (Nat.mod_eq_zero_of_dvd h)
  · exact hb (Nat.mod_eq_zero_of_dvd h)

theorem sub_of_mod {p x y : Nat} (hxy : x ≤ y) (h : x % p = y % p) : p ∣ y - x := by
  have h1 := Nat.div_add_mod x p
  have h2 := Nat.div_add_mod y p
  refine ⟨y / p - x / p, ?_⟩
  rw [Nat.mul_sub]
  omega
theorem mod_of_sub {p x y : Nat} (hxy : x ≤ y) (h : p ∣ y - x) : x % p = y % p := by
  obtain ⟨c, hc⟩ := h
  rw [show y = x + p * c by omega, Nat.add_mul_mod_self_left]
theorem Pr.cancel {p a x y : Nat} (hp : Pr p) (ha : a % p ≠ 0) (h : a * x % p = a * y % p) : x % p = y % p := by
  have key : ∀ u v : Nat, u ≤ v → a * u % p = a * v % p → u % p = v % p := by
    intro u v huv h
    have h1 : p ∣ a * v - a * u := sub_of_mod (Nat.mul_le_mul_left a huv) h
    rw [← Nat.mul_sub] at h1
    rcases hp.dvd_mul h1 with h2 | h2
    · exact absurd (Nat.mod_eq_zero_of_dvd h2) ha
    · exact mod_of_sub huv h2
  rcases Nat.le_total x y with hxy | hxy
  · exact key x y hxy h
  · exact (key y x hxy h.symm).symm

theorem prod_scaled (a p : Nat) : ∀ l : List Nat, (l.map fun i => a * i % p).prod % p = a ^ l.length * l.prod % p
  | [] => by simp
  | x :: l => by
    have ih := prod_scaled a p l
    simp only [List.map_cons, List.prod_cons, List.length_cons]
    rw [Nat.mul_mod, Nat.mod_mod, ih, ← Nat.mul_mod, Nat.pow_succ]
    congr 1
    grind
theorem Pr.prod_ne {p : Nat} (hp : Pr p) : ∀ l : List Nat, (∀ x ∈ l, x % p ≠ 0) → l.prod % p ≠ 0
  | [], _ => by
    have := hp.1
    simp only [List.prod_nil]
    rw [Nat.mod_eq_of_lt this]
    omega
  | x :: l, h => by
    simp only [List.prod_cons]
    exact hp.mul_ne (h x (by simp)) (hp.prod_ne l fun y hy => h y (by simp [hy]))

/-- Fermat's little theorem. -/
theorem fermat {p a : Nat} (hp : Pr p) (ha : a % p ≠ 0) : a ^ (p - 1) % p = 1 := by
  have h1 := hp.1
  have hL : ∀ x, x ∈ List.range' 1 (p - 1) ↔ 0 < x ∧ x < p := by
    intro x
    rw [List.mem_range'_1]
    omega
  have hin : ∀ x, x ∈ List.range' 1 (p - 1) → x % p ≠ 0 := by
    intro x hx
    have := (hL x).1 hx
    rw [Nat.mod_eq_of_lt this.2]
    omega
  have hnd : (List.range' 1 (p - 1)).Nodup := List.nodup_range'
  have hinj : ∀ x ∈ List.range' 1 (p - 1), ∀ y ∈ List.range' 1 (p - 1), a * x % p = a * y % p → x = y := by
    intro x hx y hy h
    have h2 := hp.cancel ha h
    rwa [Nat.mod_eq_of_lt ((hL x).1 hx).2, Nat.mod_eq_of_lt ((hL y).1 hy).2] at h2
  have hnd2 : ((List.range' 1 (p - 1)).map fun i => a * i % p).Nodup := by
    rw [List.Nodup, List.pairwise_map]
    refine List.Pairwise.imp_of_mem ?_ hnd
    intro x y hx hy hne h
    exact hne (hinj x hx y hy h)
  have hsub : ∀ y, y ∈ (List.range' 1 (p - 1)).map (fun i => a * i % p) → y ∈ List.range' 1 (p - 1) := by
    intro y hy
    obtain ⟨x, hx, rfl⟩ := List.mem_map.1 hy
    have := hp.mul_ne ha (hin x hx)
    exact (hL _).2 ⟨by omega, Nat.mod_lt _ (by omega)⟩
  have hperm : ((List.range' 1 (p - 1)).map fun i => a * i % p).Perm (List.range' 1 (p - 1)) := by
    refine (List.perm_ext_iff_of_nodup hnd2 hnd).2 fun y => ⟨hsub y, fun hy => ?_⟩
    apply Classical.byContradiction
    intro hno
    have hle := List.Nodup.length_le_of_subset (l₁ := y :: (List.range' 1 (p - 1)).map fun i => a * i % p) (l₂ := List.range' 1 (p - 1))
      (List.nodup_cons.2 ⟨hno, hnd2⟩) (by
        intro z hz
        rcases List.mem_cons.1 hz with rfl | hz
        · exact hy
        · exact hsub z hz)
    simp at hle
    omega
  have e1 := prod_scaled a p (List.range' 1 (p - 1))
  rw [hperm.prod_nat, List.length_range'] at e1
  have hne := hp.prod_ne _ hin
  have e2 := hp.cancel (x := 1) (y := a ^ (p - 1)) hne (by rw [Nat.mul_one, Nat.mul_comm]; exact e1)
  rw [← e2, Nat.mod_eq_of_lt h1]

theorem pow_one_mul {r b m : Nat} (h : b ^ m % r = 1 % r) (k : Nat) : b ^ (m * k) % r = 1 % r := by
  rw [Nat.pow_mul, Nat.pow_mod, h, ← Nat.pow_mod, Nat.one_pow]
theorem pow_one_gcd (r b : Nat) : ∀ m n : Nat, b ^ m % r = 1 % r → b ^ n % r = 1 % r → b ^ (Nat.gcd m n) % r = 1 % r := by
  intro m n
  induction m, n using Nat.gcd.induction with
  | H0 n => intro _ h; rw [Nat.gcd_zero_left]; exact h
  | H1 m n hm ih =>
    intro h1 h2
    rw [Nat.gcd_rec]
    refine ih ?_ h1
    have h3 : b ^ n = b ^ (m * (n / m)) * b ^ (n % m) := by rw [← Nat.pow_add, Nat.div_add_mod]
    rw [h3, Nat.mul_mod, pow_one_mul h1, ← Nat.mul_mod, Nat.one_mul] at h2
    exact h2

theorem prime_factor : ∀ n : Nat, 1 < n → ∃ r, Pr r ∧ r ∣ n := by
  intro n
  induction n using Nat.strongRecOn with
  | _ n ih =>
    intro hn
    by_cases hp : Pr n
    · exact ⟨n, hp, Nat.dvd_refl _⟩
    · have : ∃ d, d ∣ n ∧ d ≠ 1 ∧ d ≠ n := by
        apply Classical.byContradiction
        intro h
        refine hp ⟨hn, fun d hd => ?_⟩
        by_cases h1 : d = 1
        · exact .inl h1
        · by_cases h2 : d = n
          · exact .inr h2
          · exact absurd ⟨d, hd, h1, h2⟩ h
      obtain ⟨d, hd, h1, h2⟩ := this
      have hle := Nat.le_of_dvd (by omega) hd
      have hd0 : d ≠ 0 := by rintro rfl; have := Nat.eq_zero_of_zero_dvd hd; omega
      obtain ⟨r, hr, hrd⟩ := ih d (by omega) (by omega)
      exact ⟨r, hr, Nat.dvd_trans hrd hd⟩
theorem small_factor {n : Nat} (hn : 1 < n) (h : ¬ Pr n) : ∃ r, Pr r ∧ r ∣ n ∧ r * r ≤ n := by
  have : ∃ d, d ∣ n ∧ d ≠ 1 ∧ d ≠ n := by
    apply Classical.byContradiction
    intro h'
    refine h ⟨hn, fun d hd => ?_⟩
    by_cases h1 : d = 1
    · exact .inl h1
    · by_cases h2 : d = n
      · exact .inr h2
      · exact absurd ⟨d, hd, h1, h2⟩ h'
  obtain ⟨d, ⟨e, rfl⟩, h1, h2⟩ := this
  have hd0 : d ≠ 0 := by rintro rfl; omega
  have he0 : e ≠ 0 := by rintro rfl; omega
  have he1 : e ≠ 1 := by rintro rfl; omega
  rcases Nat.le_total d e with hle | hle
  · obtain ⟨r, hr, hrd⟩ := prime_factor d (by omega)
    have := Nat.le_of_dvd (by omega) hrd
    exact ⟨r, hr, Nat.dvd_trans hrd (Nat.dvd_mul_right d e), Nat.le_trans (Nat.mul_le_mul this this) (Nat.mul_le_mul_left d hle)⟩
  · obtain ⟨r, hr, hrd⟩ := prime_factor e (by omega)
    have := Nat.le_of_dvd (by omega) hrd
    exact ⟨r, hr, Nat.dvd_trans hrd (Nat.dvd_mul_left e d), Nat.le_trans (Nat.mul_le_mul this this) (Nat.mul_le_mul_right e hle)⟩

/-- A prime that divides n - 1, with what Pocklington asks of it, divides r - 1 for every prime divisor r of n. -/
theorem pock_step {n q a r : Nat} (hq : Pr q) (hqn : q ∣ n - 1) (ha : a ^ (n - 1) % n = 1) (hg : Nat.gcd (a ^ ((n - 1) / q) % n + n - 1) n = 1) (hn : 1 < n) (hr : Pr r) (hrn : r ∣ n) : q ∣ r - 1 := by
  apply Classical.byContradiction
  intro hno
  have hr1 := hr.1
  obtain ⟨k, hk⟩ := hqn
  have hq0 : 0 < q := by have := hq.1; omega
  have hkq : (n - 1) / q = k := by rw [hk, Nat.mul_div_cancel_left _ hq0]
  rw [hkq] at hg
  have e1 : (a ^ k) ^ q % r = 1 % r := by
    rw [← Nat.pow_mul, Nat.mul_comm k q, ← hk, ← Nat.mod_mod_of_dvd _ hrn, ha]
  have hbr : (a ^ k) % r ≠ 0 := by
    intro h0
    rw [Nat.pow_mod, h0, Nat.zero_pow hq0, Nat.zero_mod, Nat.mod_eq_of_lt hr1] at e1
    omega
  have e2 : (a ^ k) ^ (r - 1) % r = 1 % r := by rw [fermat hr hbr, Nat.mod_eq_of_lt hr1]
  have e3 := pow_one_gcd r (a ^ k) _ _ e1 e2
  rw [hq.coprime hno, Nat.pow_one, Nat.mod_eq_of_lt hr1] at e3
  have e4 : a ^ k % n % r = 1 := by rw [Nat.mod_mod_of_dvd _ hrn]; exact e3
  have h1 : r ∣ (a ^ k % n + n - 1) := by
    obtain ⟨c, hc⟩ := hrn
    have hpos : 0 < a ^ k % n := by
      rcases Nat.eq_zero_or_pos (a ^ k % n) with h | h
      · rw [h] at e4; simp at e4
      · exact h
    have h5 := Nat.div_add_mod (a ^ k % n) r
    rw [e4] at h5
    refine ⟨a ^ k % n / r + c, ?_⟩
    rw [Nat.mul_add, ← hc]
    omega
  have h2 := Nat.dvd_gcd h1 hrn
  rw [hg] at h2
  have := Nat.le_of_dvd (by omega) h2
  omega
/-- Pocklington, with one prime divisor. -/
theorem pock1 {n q a : Nat} (hq : Pr q) (hqn : q ∣ n - 1) (ha : a ^ (n - 1) % n = 1) (hg : Nat.gcd (a ^ ((n - 1) / q) % n + n - 1) n = 1) (hn : 1 < n) (hb : n < q * q) : Pr n := by
  apply Classical.byContradiction
  intro h
  obtain ⟨r, hr, hrn, hrr⟩ := small_factor hn h
  have h1 := pock_step hq hqn ha hg hn hr hrn
  have h2 := Nat.le_of_dvd (by have := hr.1; omega) h1
  have h3 : q ≤ r := by omega
  have := Nat.mul_le_mul h3 h3
  omega
/-- Pocklington, with two prime divisors. -/
theorem pock2 {n q q' a : Nat} (hq : Pr q) (hq' : Pr q') (hne : ¬ q ∣ q') (hqn : q ∣ n - 1) (hqn' : q' ∣ n - 1) (ha : a ^ (n - 1) % n = 1) (hg : Nat.gcd (a ^ ((n - 1) / q) % n + n - 1) n = 1) (hg' : Nat.gcd (a ^ ((n - 1) / q') % n + n - 1) n = 1) (hn : 1 < n) (hb : n < (q * q') * (q * q')) : Pr n := by
  apply Classical.byContradiction
  intro h
  obtain ⟨r, hr, hrn, hrr⟩ := small_factor hn h
  have h1 := pock_step hq hqn ha hg hn hr hrn
  have h1' := pock_step hq' hqn' ha hg' hn hr hrn
  have h0 := (hq.coprime hne).mul_dvd_of_dvd_of_dvd h1 h1'
  have h2 := Nat.le_of_dvd (by have := hr.1; omega) h0
  have h3 : q * q' ≤ r := by omega
  have := Nat.mul_le_mul h3 h3
  omega

/-- Powers modulo m, by squares. -/
def pm : Nat → Nat → Nat → Nat → Nat
  | 0, _, _, _ => 1
  | k + 1, a, e, m => if e % 2 = 1 then pm k (a * a % m) (e / 2) m * a % m else pm k (a * a % m) (e / 2) m
theorem pm_eq (m : Nat) : ∀ (k a e : Nat), e < 2 ^ k → pm k a e m % m = a ^ e % m
  | 0, a, e, h => by
    have : e = 0 := by simpa using h
    subst this; simp [pm]
  | k + 1, a, e, h => by
    have ih := pm_eq m k (a * a % m) (e / 2) (by rw [Nat.pow_succ] at h; omega)
    have h2 : a ^ e = (a * a) ^ (e / 2) * a ^ (e % 2) := by
      rw [← Nat.pow_two, ← Nat.pow_mul, ← Nat.pow_add, Nat.div_add_mod]
    have h3 : pm k (a * a % m) (e / 2) m % m = (a * a) ^ (e / 2) % m := by rw [ih, ← Nat.pow_mod]
    unfold pm
    rcases Nat.mod_two_eq_zero_or_one e with h0 | h0
    · rw [if_neg (by omega), h3, h2, h0, Nat.pow_zero, Nat.mul_one]
    · rw [if_pos h0, Nat.mod_mod, Nat.mul_mod, h3, ← Nat.mul_mod, h2, h0, Nat.pow_one]

theorem pockp1 {n q : Nat} (a k : Nat) (hq : Pr q) (hqn : (n - 1) % q = 0) (hk : n - 1 < 2 ^ k) (ha : pm k a (n - 1) n % n = 1) (hg : Nat.gcd (pm k a ((n - 1) / q) n % n + n - 1) n = 1) (hn : 1 < n) (hb : n < q * q) : Pr n := by
  refine pock1 (a := a) hq (Nat.dvd_of_mod_eq_zero hqn) ?_ ?_ hn hb
  · rw [← pm_eq n k a _ hk, ha]
  · rw [← pm_eq n k a _ (Nat.lt_of_le_of_lt (Nat.div_le_self _ _) hk), hg]
theorem pockp2 {n q q' : Nat} (a k : Nat) (hq : Pr q) (hq' : Pr q') (hne : q' % q ≠ 0) (hqn : (n - 1) % q = 0) (hqn' : (n - 1) % q' = 0) (hk : n - 1 < 2 ^ k) (ha : pm k a (n - 1) n % n = 1) (hg : Nat.gcd (pm k a ((n - 1) / q) n % n + n - 1) n = 1) (hg' : Nat.gcd (pm k a ((n - 1) / q') n % n + n - 1) n = 1) (hn : 1 < n) (hb : n < (q * q') * (q * q')) : Pr n := by
  refine pock2 (a := a) hq hq' (fun h => hne (Nat.mod_eq_zero_of_dvd h)) (Nat.dvd_of_mod_eq_zero hqn) (Nat.dvd_of_mod_eq_zero hqn') ?_ ?_ ?_ hn hb
  · rw [← pm_eq n k a _ hk, ha]
  · rw [← pm_eq n k a _ (Nat.lt_of_le_of_lt (Nat.div_le_self _ _) hk), hg]
  · rw [← pm_eq n k a _ (Nat.lt_of_le_of_lt (Nat.div_le_self _ _) hk), hg']

/-- No divisor from d on, d + 2 and so on, f of them. -/
def noDiv (n : Nat) : Nat → Nat → Bool
  | 0, _ => true
  | f + 1, d => if n % d = 0 then false else noDiv n f (d + 2)
theorem noDiv_spec (n : Nat) : ∀ (f d : Nat), noDiv n f d = true → ∀ i, i < f → n % (d + 2 * i) ≠ 0
  | f + 1, d, h, i, hi => by
    unfold noDiv at h
    split at h
    · cases h
    · rename_i hd
      rcases i with _ | i
      · simpa using hd
      · have := noDiv_spec n f (d + 2) h i (by omega)
        rwa [show d + 2 + 2 * i = d + 2 * (i + 1) by omega] at this
theorem small_prime {n f : Nat} (hn : 1 < n) (h2 : n % 2 = 1) (h : noDiv n f 3 = true) (hb : n < (2 * f + 3) * (2 * f + 3)) : Pr n := by
  apply Classical.byContradiction
  intro hno
  obtain ⟨r, hr, hrn, hrr⟩ := small_factor hn hno
  have h1 := hr.1
  have hlt : r < 2 * f + 3 := by
    apply Classical.byContradiction
    intro hge
    have := Nat.mul_le_mul (show 2 * f + 3 ≤ r by omega) (show 2 * f + 3 ≤ r by omega)
    omega
  have hodd : r % 2 = 1 := by
    rcases Nat.mod_two_eq_zero_or_one r with h0 | h0
    · have := Nat.dvd_trans (Nat.dvd_of_mod_eq_zero h0) hrn
      have := Nat.mod_eq_zero_of_dvd this
      omega
    · exact h0
  have := noDiv_spec n f 3 h ((r - 3) / 2) (by omega)
  rw [show 3 + 2 * ((r - 3) / 2) = r by omega] at this
  exact this (Nat.mod_eq_zero_of_dvd hrn)

end Go.Proofs.YtedhfimjcpbcpaaDoor

/-
  2^255 - 19 is a prime, by Pocklington's test over smaller primes. No program is spoken of here. Conditions: none.
-/
namespace Go.Proofs.YtedhfimjcpbcpaaDoor
set_option linter.unusedVariables false

theorem prime_a : Pr 8574133 := small_prime (f := 1463) (by decide +kernel) (by decide +kernel) (by decide +kernel) (by decide +kernel)
theorem prime_b : Pr 127 := small_prime (f := 5) (by decide +kernel) (by decide +kernel) (by decide +kernel) (by decide +kernel)
theorem prime_c : Pr 75707 := small_prime (f := 137) (by decide +kernel) (by decide +kernel) (by decide +kernel) (by decide +kernel)
theorem prime_d : Pr 1923133 := small_prime (f := 692) (by decide +kernel) (by decide +kernel) (by decide +kernel) (by decide +kernel)
theorem prime_e : Pr 1919519569386763 := pockp2 2 51 prime_a prime_b (by decide +kernel) (by decide +kernel) (by decide +kernel) (by decide +kernel) (by decide +kernel) (by decide +kernel) (by decide +kernel) (by decide +kernel) (by decide +kernel)
theorem prime_f : Pr 75445702479781427272750846543864801 := pockp2 2 116 prime_e prime_c (by decide +kernel) (by decide +kernel) (by decide +kernel) (by decide +kernel) (by decide +kernel) (by decide +kernel) (by decide +kernel) (by decide +kernel) (by decide +kernel)
theorem prime_g : Pr 74058212732561358302231226437062788676166966415465897661863160754340907 := pockp2 2 236 prime_f prime_d (by decide +kernel) (by decide +kernel) (by decide +kernel) (by decide +kernel) (by decide +kernel) (by decide +kernel) (by decide +kernel) (by decide +kernel) (by decide +kernel)
/-- 2^255 - 19. -/
def P25 : Nat := 57896044618658097711785492504343953926634992332820282019728792003956564819949
theorem P25_pow : P25 = 2 ^ 255 - 19 := by decide +kernel
theorem prime_P : Pr 57896044618658097711785492504343953926634992332820282019728792003956564819949 := pockp1 2 255 prime_g (by decide +kernel) (by decide +kernel) (by decide +kernel) (by decide +kernel) (by decide +kernel) (by decide +kernel)
theorem P25_prime : Pr P25 := prime_P
/-- What squares to -1. -/
def I25 : Nat := 19681161376707505956807079304988542015446066515923890162744021073123829784752
theorem I25_pow : 2 ^ ((P25 - 1) / 4) % P25 = I25 := (pm_eq P25 255 2 _ (by decide +kernel)).symm.trans (by decide +kernel)
theorem I25_sq : I25 * I25 % P25 = P25 - 1 := by decide +kernel
end Go.Proofs.YtedhfimjcpbcpaaDoor
