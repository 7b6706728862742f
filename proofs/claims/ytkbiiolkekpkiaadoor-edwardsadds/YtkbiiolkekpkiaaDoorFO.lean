/-
  The contracts of the laws' own tame, is and awake. Conditions: as each theorem says.
-/
import Derived.Test.YtkbiiolkekpkiaaDoorFK
import Derived.Test.YtkbiiolkekpkiaaDoorFL
import Derived.Test.YtkbiiolkekpkiaaDoorDB
import Derived.Test.YtkbiiolkekpkiaaDoorDA
import Derived.Test.YtkbiiolkekpkiaaDoorFH
namespace Go.Proofs.YtkbiiolkekpkiaaDoor
open Go.RowKit
set_option linter.unusedVariables false
set_option linter.unusedSimpArgs false

theorem idx5_1 (k : IntKind) (v0 v1 v2 v3 v4 : Int) (w : World) : (Instr.index 26 (.agg #[.int k v0, .int k v1, .int k v2, .int k v3, .int k v4]) (.int .i64 1)).run Tryd.prog w = .ok (.int k v1) w := by
  simp [Instr.index, run_underlying Tryd.underlying26, asIntOf, go_sem]
theorem idx5_2 (k : IntKind) (v0 v1 v2 v3 v4 : Int) (w : World) : (Instr.index 26 (.agg #[.int k v0, .int k v1, .int k v2, .int k v3, .int k v4]) (.int .i64 2)).run Tryd.prog w = .ok (.int k v2) w := by
  simp [Instr.index, run_underlying Tryd.underlying26, asIntOf, go_sem]
theorem idx5_3 (k : IntKind) (v0 v1 v2 v3 v4 : Int) (w : World) : (Instr.index 26 (.agg #[.int k v0, .int k v1, .int k v2, .int k v3, .int k v4]) (.int .i64 3)).run Tryd.prog w = .ok (.int k v3) w := by
  simp [Instr.index, run_underlying Tryd.underlying26, asIntOf, go_sem]
theorem idx5_4 (k : IntKind) (v0 v1 v2 v3 v4 : Int) (w : World) : (Instr.index 26 (.agg #[.int k v0, .int k v1, .int k v2, .int k v3, .int k v4]) (.int .i64 4)).run Tryd.prog w = .ok (.int k v4) w := by
  simp [Instr.index, run_underlying Tryd.underlying26, asIntOf, go_sem]
attribute [local go_sem] idx5_0 idx5_1 idx5_2 idx5_3 idx5_4
/-- Words all. -/
def L5.Wds (x : L5) : Prop := Wd x.l0 ∧ Wd x.l1 ∧ Wd x.l2 ∧ Wd x.l3 ∧ Wd x.l4
theorem L5.Tm.wds {x : L5} (h : x.Tm) : x.Wds := by unfold L5.Tm Tame at h; unfold L5.Wds Wd; omega
/-- k elements lie in block g, one behind the other. -/
structure Els (W : World) (g k : Nat) (f : Nat → L5) : Prop where
  lt : g < W.heap.size
  c0 : ∀ i, i < k → W.cell? ⟨g, i * 5, none⟩ = some (.int .u64 (f i).l0)
  c1 : ∀ i, i < k → W.cell? ⟨g, i * 5 + 1, none⟩ = some (.int .u64 (f i).l1)
  c2 : ∀ i, i < k → W.cell? ⟨g, i * 5 + 2, none⟩ = some (.int .u64 (f i).l2)
  c3 : ∀ i, i < k → W.cell? ⟨g, i * 5 + 3, none⟩ = some (.int .u64 (f i).l3)
  c4 : ∀ i, i < k → W.cell? ⟨g, i * 5 + 4, none⟩ = some (.int .u64 (f i).l4)
theorem Els.below {W W' : World} {g k : Nat} {f : Nat → L5} (h : Els W g k f) (hb : Below W.heap.size W W') : Els W' g k f :=
  ⟨Nat.lt_of_lt_of_le h.lt hb.size, fun i hi => (hb.cell (p := ⟨g, i * 5, none⟩) h.lt).trans (h.c0 i hi), fun i hi => (hb.cell (p := ⟨g, i * 5 + 1, none⟩) h.lt).trans (h.c1 i hi), fun i hi => (hb.cell (p := ⟨g, i * 5 + 2, none⟩) h.lt).trans (h.c2 i hi), fun i hi => (hb.cell (p := ⟨g, i * 5 + 3, none⟩) h.lt).trans (h.c3 i hi), fun i hi => (hb.cell (p := ⟨g, i * 5 + 4, none⟩) h.lt).trans (h.c4 i hi)⟩
end Go.Proofs.YtkbiiolkekpkiaaDoor

/-
  The contracts of the laws' own is and awake. Conditions: as each theorem says.
-/
namespace Go.Proofs.YtkbiiolkekpkiaaDoor
open Go.RowKit
set_option linter.unusedVariables false
set_option linter.unusedSimpArgs false

theorem els_one (W : World) (x : L5) : Els (W.alloc (.cells #[.int .u64 x.l0, .int .u64 x.l1, .int .u64 x.l2, .int .u64 x.l3, .int .u64 x.l4] 26)) W.heap.size 1 (fun _ => x) := by
  refine ⟨by simp, fun i hi => ?_, fun i hi => ?_, fun i hi => ?_, fun i hi => ?_, fun i hi => ?_⟩ <;> (obtain rfl : i = 0 := by omega) <;> simp

theorem nn_small (n : Nat) (hn : n < P25) : L5.nn ⟨(n : Int), 0, 0, 0, 0⟩ = n := by
  refine nn_low ?_ hn
  unfold L5.num val5; dsimp only; omega
theorem tm_small (n : Nat) (hn : n < 4503599627370496) : L5.Tm ⟨(n : Int), 0, 0, 0, 0⟩ := by
  unfold L5.Tm Tame; dsimp only; omega
theorem rt1_pm (a : Nat) : rt1 a = pm 252 a ((P25 + 3) / 8) P25 % P25 := (pm_eq P25 252 a ((P25 + 3) / 8) (by decide +kernel)).symm
theorem root_of2 {a x y : Nat} (h1 : rt1 a = x) (hx : x * x % P25 ≠ a) (hy : x * I25 % P25 = y) (hyy : y * y % P25 = a) : rootOk a = true ∧ rootN a = evn y := by
  have h2 : rt2 a = y := by unfold rt2; rw [h1, hy]
  have k1 : ¬ rt1 a * rt1 a % P25 = a := by rw [h1]; exact hx
  have k2 : rt2 a * rt2 a % P25 = a := by rw [h2]; exact hyy
  unfold rootOk rootN
  rw [if_neg k1, if_neg k1, if_pos k2, if_pos k2, h2]
  exact ⟨rfl, rfl⟩
theorem evn_four : evn 57896044618658097711785492504343953926634992332820282019728792003956564819947 = 2 := by decide +kernel
theorem root_four (a : Nat) (h : a = 4) : rootOk a = true ∧ rootN a = 2 := by
  have h1 : rt1 4 = 39362322753415011913614158609977084030892133031847780325488042146247659569504 := (rt1_pm 4).trans (by decide +kernel)
  have := root_of2 (y := 57896044618658097711785492504343953926634992332820282019728792003956564819947) h1 (by decide +kernel) (by decide +kernel) (by decide +kernel)
  rw [h]
  exact ⟨this.1, this.2.trans evn_four⟩
theorem code_four : codeOk 4 1 = true ∧ codeN 4 1 = 2 := by
  have h := code_rat (U := 4) (V := 1) (by decide +kernel) (by decide +kernel)
  have h1 := rat_of (U := 4) (V := 1) (by omega)
  have h2 : ∀ e : Nat, 4 * (1 ^ e % P25) % P25 = 4 := by
    intro e
    rw [Nat.one_pow]
    decide +kernel
  have h3 := root_four _ (h2 (P25 - 2))
  exact ⟨h.1.trans (h1.1.trans h3.1), h.2.trans (h1.2.trans h3.2)⟩
theorem bytes_P : ∀ j, j < 32 → (if j = 0 then (237 : Int) else byteAt (P25 - 1) j) = byteAt P25 j := by decide +kernel
theorem vb_P : vb (byteAt P25) 32 = P25 := by rw [vb_byteAt]; decide +kernel

end Go.Proofs.YtkbiiolkekpkiaaDoor

/-
  Elements that lie one behind the other; what the document's elements, sums and differences are, by an element's number. Conditions: as each theorem says.
-/
namespace Go.Proofs.YtkbiiolkekpkiaaDoor
open Go.RowKit
set_option linter.unusedVariables false
set_option linter.unusedSimpArgs false

def pickL (x y z : L5) : Nat → L5
  | 0 => x | 1 => y | _ => z
theorem els_two (W : World) (x y : L5) : Els (W.alloc (.cells #[.int .u64 x.l0, .int .u64 x.l1, .int .u64 x.l2, .int .u64 x.l3, .int .u64 x.l4, .int .u64 y.l0, .int .u64 y.l1, .int .u64 y.l2, .int .u64 y.l3, .int .u64 y.l4] 26)) W.heap.size 2 (pickL x y y) := by
  refine ⟨by simp, fun i hi => ?_, fun i hi => ?_, fun i hi => ?_, fun i hi => ?_, fun i hi => ?_⟩ <;> rcases (show i = 0 ∨ i = 1 by omega) with rfl | rfl <;> simp [pickL]
theorem els_three (W : World) (x y z : L5) : Els (W.alloc (.cells #[.int .u64 x.l0, .int .u64 x.l1, .int .u64 x.l2, .int .u64 x.l3, .int .u64 x.l4, .int .u64 y.l0, .int .u64 y.l1, .int .u64 y.l2, .int .u64 y.l3, .int .u64 y.l4, .int .u64 z.l0, .int .u64 z.l1, .int .u64 z.l2, .int .u64 z.l3, .int .u64 z.l4] 26)) W.heap.size 3 (pickL x y z) := by
  refine ⟨by simp, fun i hi => ?_, fun i hi => ?_, fun i hi => ?_, fun i hi => ?_, fun i hi => ?_⟩ <;> rcases (show i = 0 ∨ i = 1 ∨ i = 2 by omega) with rfl | rfl | rfl <;> simp [pickL]
theorem nn_add (x y z : L5) (h : z.num % (P25 : Int) = (x.num + y.num) % (P25 : Int)) : z.nn = (x.nn + y.nn) % P25 := by
  refine L5.nn_of ?_
  rw [h, Int.natCast_add, Int.add_emod, x.nn_mod, y.nn_mod, ← Int.add_emod]
theorem nn_sub (x y z : L5) (h : z.num % (P25 : Int) = (x.num - y.num) % (P25 : Int)) : z.nn = (x.nn + P25 - y.nn) % P25 := by
  refine L5.nn_of ?_
  have hl := y.nn_lt
  rw [h, show ((x.nn + P25 - y.nn : Nat) : Int) = ((x.nn : Int) - (y.nn : Int)) + (P25 : Int) * 1 by omega, Int.add_mul_emod_self_left, Int.sub_emod, x.nn_mod, y.nn_mod, ← Int.sub_emod]
theorem of_nn (x : L5) (hx : x.Tm) (w : World) : Calls Tryd.prog 16 #[.agg #[.int .u64 x.l0, .int .u64 x.l1, .int .u64 x.l2, .int .u64 x.l3, .int .u64 x.l4]] w fun e w' => ∃ v, e = .returned v ∧ Num w' v x.nn ∧ Below w.heap.size w w' := ofD_num x hx w
theorem nn_lt11 (x : L5) : x.nn < 16777216 ^ 11 := Nat.lt_trans x.nn_lt P25_lt11

end Go.Proofs.YtkbiiolkekpkiaaDoor
