/-
  Boxes of two and of five words; sums of products in a column. Conditions: as each theorem says.
-/
import Derived.Test.YtnebpleplogfeaaDoorFA
namespace Go.Proofs.YtnebpleplogfeaaDoor
open Go.RowKit
set_option linter.unusedVariables false
set_option linter.unusedSimpArgs false

theorem below_drewN {B : Nat} {w W : World} (h : Below B w W) (n : Nat) : Below B w (W.drewN n) := ⟨h.os, h.tape, h.output, h.size, h.block⟩
/-- Block g holds these words, and may be written. -/
structure Bl2 (W : World) (g : Nat) (v0 v1 : Int) : Prop where
  lt : g < W.heap.size
  c0 : W.cell? ⟨g, 0, none⟩ = some (.int .u64 v0)
  c1 : W.cell? ⟨g, 1, none⟩ = some (.int .u64 v1)
  fr : ∀ j, W.frozen? ⟨g, j, none⟩ = false
theorem Bl2.below {W W' : World} {b : Nat} {v0 v1 : Int} (h : Bl2 W b v0 v1) (hb : Below W.heap.size W W') : Bl2 W' b v0 v1 :=
  ⟨Nat.lt_of_lt_of_le h.lt hb.size, (hb.cell (p := ⟨b, 0, none⟩) h.lt).trans h.c0, (hb.cell (p := ⟨b, 1, none⟩) h.lt).trans h.c1, fun j => (hb.frozen (p := ⟨b, j, none⟩) h.lt).trans (h.fr j)⟩
theorem Bl2.alloc {W : World} {b : Nat} {v0 v1 : Int} (h : Bl2 W b v0 v1) (o : Obj) : Bl2 (W.alloc o) b v0 v1 := h.below (Below.alloc (Below.refl _ _) (Nat.le_refl _) o)
theorem Bl2.drew {W : World} {b : Nat} {v0 v1 : Int} (h : Bl2 W b v0 v1) : Bl2 W.drew b v0 v1 := h.below (Below.refl _ _).drew
theorem Bl2.drewN {W : World} {b : Nat} {v0 v1 : Int} (h : Bl2 W b v0 v1) (n : Nat) : Bl2 (W.drewN n) b v0 v1 := h.below (below_drewN (Below.refl _ _) n)
theorem Bl2.new (W : World) (g : Nat) (v0 v1 : Int) (t : TypeId) (hg : g = W.heap.size) : Bl2 (W.alloc (.cells #[.int .u64 v0, .int .u64 v1] t)) g v0 v1 := by
  subst hg
  exact ⟨by simp, by simp, by simp, fun j => by simp [go_sem]⟩
theorem Bl2.other {W : World} {b : Nat} {v0 v1 : Int} (h : Bl2 W b v0 v1) (g i : Nat) (v : Value) (hg : g ≠ b) : Bl2 (W.setCell ⟨g, i, none⟩ v) b v0 v1 :=
  ⟨by simpa using h.lt, by rw [World.cell?_setCell_other _ _ _ _ (fun e => hg (congrArg Addr.block e))]; exact h.c0, by rw [World.cell?_setCell_other _ _ _ _ (fun e => hg (congrArg Addr.block e))]; exact h.c1, fun j => by simpa using h.fr j⟩
theorem Bl2.set {W : World} {b : Nat} {v0 v1 : Int} (h : Bl2 W b v0 v1) (x0 x1 : Int) : Bl2 ((W.setCell ⟨b, 0, none⟩ (.int .u64 x0)).setCell ⟨b, 1, none⟩ (.int .u64 x1)) b x0 x1 := by
  obtain ⟨h0, h1, h2, hf⟩ := h
  refine ⟨by simpa using h0, ?_, ?_, fun j => by simpa using hf j⟩ <;> simp [go_sem, h0, hf, h1, h2]
/-- Block g holds these words, and may be written. -/
structure Bl5 (W : World) (g : Nat) (v0 v1 v2 v3 v4 : Int) : Prop where
  lt : g < W.heap.size
  c0 : W.cell? ⟨g, 0, none⟩ = some (.int .u64 v0)
  c1 : W.cell? ⟨g, 1, none⟩ = some (.int .u64 v1)
  c2 : W.cell? ⟨g, 2, none⟩ = some (.int .u64 v2)
  c3 : W.cell? ⟨g, 3, none⟩ = some (.int .u64 v3)
  c4 : W.cell? ⟨g, 4, none⟩ = some (.int .u64 v4)
  fr : ∀ j, W.frozen? ⟨g, j, none⟩ = false
theorem Bl5.below {W W' : World} {b : Nat} {v0 v1 v2 v3 v4 : Int} (h : Bl5 W b v0 v1 v2 v3 v4) (hb : Below W.heap.size W W') : Bl5 W' b v0 v1 v2 v3 v4 :=
  ⟨Nat.lt_of_lt_of_le h.lt hb.size, (hb.cell (p := ⟨b, 0, none⟩) h.lt).trans h.c0, (hb.cell (p := ⟨b, 1, none⟩) h.lt).trans h.c1, (hb.cell (p := ⟨b, 2, none⟩) h.lt).trans h.c2, (hb.cell (p := ⟨b, 3, none⟩) h.lt).trans h.c3, (hb.cell (p := ⟨b, 4, none⟩) h.lt).trans h.c4, fun j => (hb.frozen (p := ⟨b, j, none⟩) h.lt).trans (h.fr j)⟩
theorem Bl5.alloc {W : World} {b : Nat} {v0 v1 v2 v3 v4 : Int} (h : Bl5 W b v0 v1 v2 v3 v4) (o : Obj) : Bl5 (W.alloc o) b v0 v1 v2 v3 v4 := h.below (Below.alloc (Below.refl _ _) (Nat.le_refl _) o)
theorem Bl5.drew {W : World} {b : Nat} {v0 v1 v2 v3 v4 : Int} (h : Bl5 W b v0 v1 v2 v3 v4) : Bl5 W.drew b v0 v1 v2 v3 v4 := h.below (Below.refl _ _).drew
theorem Bl5.drewN {W : World} {b : Nat} {v0 v1 v2 v3 v4 : Int} (h : Bl5 W b v0 v1 v2 v3 v4) (n : Nat) : Bl5 (W.drewN n) b v0 v1 v2 v3 v4 := h.below (below_drewN (Below.refl _ _) n)
theorem Bl5.new (W : World) (g : Nat) (v0 v1 v2 v3 v4 : Int) (t : TypeId) (hg : g = W.heap.size) : Bl5 (W.alloc (.cells #[.int .u64 v0, .int .u64 v1, .int .u64 v2, .int .u64 v3, .int .u64 v4] t)) g v0 v1 v2 v3 v4 := by
  subst hg
  exact ⟨by simp, by simp, by simp, by simp, by simp, by simp, fun j => by simp [go_sem]⟩
theorem Bl5.other {W : World} {b : Nat} {v0 v1 v2 v3 v4 : Int} (h : Bl5 W b v0 v1 v2 v3 v4) (g i : Nat) (v : Value) (hg : g ≠ b) : Bl5 (W.setCell ⟨g, i, none⟩ v) b v0 v1 v2 v3 v4 :=
  ⟨by simpa using h.lt, by rw [World.cell?_setCell_other _ _ _ _ (fun e => hg (congrArg Addr.block e))]; exact h.c0, by rw [World.cell?_setCell_other _ _ _ _ (fun e => hg (congrArg Addr.block e))]; exact h.c1, by rw [World.cell?_setCell_other _ _ _ _ (fun e => hg (congrArg Addr.block e))]; exact h.c2, by rw [World.cell?_setCell_other _ _ _ _ (fun e => hg (congrArg Addr.block e))]; exact h.c3, by rw [World.cell?_setCell_other _ _ _ _ (fun e => hg (congrArg Addr.block e))]; exact h.c4, fun j => by simpa using h.fr j⟩
theorem Bl5.set {W : World} {b : Nat} {v0 v1 v2 v3 v4 : Int} (h : Bl5 W b v0 v1 v2 v3 v4) (x0 x1 x2 x3 x4 : Int) : Bl5 (((((W.setCell ⟨b, 0, none⟩ (.int .u64 x0)).setCell ⟨b, 1, none⟩ (.int .u64 x1)).setCell ⟨b, 2, none⟩ (.int .u64 x2)).setCell ⟨b, 3, none⟩ (.int .u64 x3)).setCell ⟨b, 4, none⟩ (.int .u64 x4)) b x0 x1 x2 x3 x4 := by
  obtain ⟨h0, h1, h2, h3, h4, h5, hf⟩ := h
  refine ⟨by simpa using h0, ?_, ?_, ?_, ?_, ?_, fun j => by simpa using hf j⟩ <;> simp [go_sem, h0, hf, h1, h2, h3, h4, h5]
def pick5 (x0 x1 x2 x3 x4 x5 : Int) : Nat → Int
  | 0 => x0 | 1 => x1 | 2 => x2 | 3 => x3 | 4 => x4 | _ => x5
theorem Bl5.at {W : World} {g : Nat} {v0 v1 v2 v3 v4 : Int} (h : Bl5 W g v0 v1 v2 v3 v4) (k : Nat) (hk : k < 5) : W.cell? ⟨g, k, none⟩ = some (.int .u64 (pick5 v0 v1 v2 v3 v4 0 k)) := by
  match k, hk with
  | 0, _ => exact h.c0
  | 1, _ => exact h.c1
  | 2, _ => exact h.c2
  | 3, _ => exact h.c3
  | 4, _ => exact h.c4
theorem calls_at {P : Program} {f : FuncId} {args : Array Value} {Q : Ending → World → Prop} {w : World} (F : World → Prop) (h : F w) (k : ∀ w', F w' → Calls P f args w' Q) : Calls P f args w Q := k w h
theorem body_cut {P : Program} {fn : Func} {Q : Ending → World → Prop} {x : Exit} {a : Act} {w : World} (F : World → Prop) (h : F w) (k : ∀ w', F w' → bodyPost P fn Q x a w') : bodyPost P fn Q x a w := k w h
theorem mul_lt' (a b A B : Int) (h0 : 0 ≤ a) (h1 : a < A) (h2 : 0 ≤ b) (h3 : b < B) : 0 ≤ a * b ∧ a * b < A * B := by
  refine ⟨Int.mul_nonneg h0 h2, ?_⟩
  have e1 : a * b ≤ a * B := Int.mul_le_mul_of_nonneg_left (by omega) h0
  have e2 : a * B < A * B := Int.mul_lt_mul_of_pos_right h1 (by omega)
  omega
set_option maxHeartbeats 1000000 in
theorem col5 (a0 a1 a2 a3 a4 b0 b1 b2 b3 b4 : Int) (ha0 : Wd a0) (hb0 : Wd b0) (p0 : 0 ≤ a0 * b0 ∧ a0 * b0 < 1298074214633706907132624082305024) (ha1 : Wd a1) (hb1 : Wd b1) (p1 : 0 ≤ a1 * b1 ∧ a1 * b1 < 1298074214633706907132624082305024) (ha2 : Wd a2) (hb2 : Wd b2) (p2 : 0 ≤ a2 * b2 ∧ a2 * b2 < 1298074214633706907132624082305024) (ha3 : Wd a3) (hb3 : Wd b3) (p3 : 0 ≤ a3 * b3 ∧ a3 * b3 < 1298074214633706907132624082305024) (ha4 : Wd a4) (hb4 : Wd b4) (p4 : 0 ≤ a4 * b4 ∧ a4 * b4 < 1298074214633706907132624082305024) : ∃ h1 l1 h2 l2 h3 l3 h4 l4 h5 l5 : Int, (∀ w : World, Calls Tryd.prog 46 #[.agg #[.int .u64 0, .int .u64 0], .int .u64 a0, .int .u64 b0] w fun e w' => e = .returned (.agg #[.int .u64 h1, .int .u64 l1]) ∧ ∃ c1 c2 : Array Value, w' = (w.alloc (.cells c1 64)).alloc (.cells c2 64)) ∧ (∀ w : World, Calls Tryd.prog 46 #[.agg #[.int .u64 h1, .int .u64 l1], .int .u64 a1, .int .u64 b1] w fun e w' => e = .returned (.agg #[.int .u64 h2, .int .u64 l2]) ∧ ∃ c1 c2 : Array Value, w' = (w.alloc (.cells c1 64)).alloc (.cells c2 64)) ∧ (∀ w : World, Calls Tryd.prog 46 #[.agg #[.int .u64 h2, .int .u64 l2], .int .u64 a2, .int .u64 b2] w fun e w' => e = .returned (.agg #[.int .u64 h3, .int .u64 l3]) ∧ ∃ c1 c2 : Array Value, w' = (w.alloc (.cells c1 64)).alloc (.cells c2 64)) ∧ (∀ w : World, Calls Tryd.prog 46 #[.agg #[.int .u64 h3, .int .u64 l3], .int .u64 a3, .int .u64 b3] w fun e w' => e = .returned (.agg #[.int .u64 h4, .int .u64 l4]) ∧ ∃ c1 c2 : Array Value, w' = (w.alloc (.cells c1 64)).alloc (.cells c2 64)) ∧ (∀ w : World, Calls Tryd.prog 46 #[.agg #[.int .u64 h4, .int .u64 l4], .int .u64 a4, .int .u64 b4] w fun e w' => e = .returned (.agg #[.int .u64 h5, .int .u64 l5]) ∧ ∃ c1 c2 : Array Value, w' = (w.alloc (.cells c1 64)).alloc (.cells c2 64)) ∧ Wd h5 ∧ Wd l5 ∧ Hid (h5 * 18446744073709551616 + l5 = a0 * b0 + a1 * b1 + a2 * b2 + a3 * b3 + a4 * b4) := by
  obtain ⟨h1, l1, w1, x1, E1, Q1⟩ := plus_step 0 0 a0 b0 ⟨by omega, by omega⟩ ⟨by omega, by omega⟩ ha0 hb0 (by clear ha0; omega)
  obtain ⟨h2, l2, w2, x2, E2, Q2⟩ := plus_step h1 l1 a1 b1 w1 x1 ha1 hb1 (by unfold Hid at *; clear Q1; omega)
  obtain ⟨h3, l3, w3, x3, E3, Q3⟩ := plus_step h2 l2 a2 b2 w2 x2 ha2 hb2 (by unfold Hid at *; clear Q1 Q2; omega)
  obtain ⟨h4, l4, w4, x4, E4, Q4⟩ := plus_step h3 l3 a3 b3 w3 x3 ha3 hb3 (by unfold Hid at *; clear Q1 Q2 Q3; omega)
  obtain ⟨h5, l5, w5, x5, E5, Q5⟩ := plus_step h4 l4 a4 b4 w4 x4 ha4 hb4 (by unfold Hid at *; clear Q1 Q2 Q3 Q4; omega)
  refine ⟨h1, l1, h2, l2, h3, l3, h4, l4, h5, l5, Q1, Q2, Q3, Q4, Q5, w5, x5, ?_⟩
  unfold Hid at *; clear Q1 Q2 Q3 Q4 Q5; omega
set_option maxHeartbeats 1000000 in
theorem col3 (a0 a1 a2 b0 b1 b2 : Int) (ha0 : Wd a0) (hb0 : Wd b0) (p0 : 0 ≤ a0 * b0 ∧ a0 * b0 < 1298074214633706907132624082305024) (ha1 : Wd a1) (hb1 : Wd b1) (p1 : 0 ≤ a1 * b1 ∧ a1 * b1 < 1298074214633706907132624082305024) (ha2 : Wd a2) (hb2 : Wd b2) (p2 : 0 ≤ a2 * b2 ∧ a2 * b2 < 1298074214633706907132624082305024) : ∃ h1 l1 h2 l2 h3 l3 : Int, (∀ w : World, Calls Tryd.prog 46 #[.agg #[.int .u64 0, .int .u64 0], .int .u64 a0, .int .u64 b0] w fun e w' => e = .returned (.agg #[.int .u64 h1, .int .u64 l1]) ∧ ∃ c1 c2 : Array Value, w' = (w.alloc (.cells c1 64)).alloc (.cells c2 64)) ∧ (∀ w : World, Calls Tryd.prog 46 #[.agg #[.int .u64 h1, .int .u64 l1], .int .u64 a1, .int .u64 b1] w fun e w' => e = .returned (.agg #[.int .u64 h2, .int .u64 l2]) ∧ ∃ c1 c2 : Array Value, w' = (w.alloc (.cells c1 64)).alloc (.cells c2 64)) ∧ (∀ w : World, Calls Tryd.prog 46 #[.agg #[.int .u64 h2, .int .u64 l2], .int .u64 a2, .int .u64 b2] w fun e w' => e = .returned (.agg #[.int .u64 h3, .int .u64 l3]) ∧ ∃ c1 c2 : Array Value, w' = (w.alloc (.cells c1 64)).alloc (.cells c2 64)) ∧ Wd h3 ∧ Wd l3 ∧ Hid (h3 * 18446744073709551616 + l3 = a0 * b0 + a1 * b1 + a2 * b2) := by
  obtain ⟨h1, l1, w1, x1, E1, Q1⟩ := plus_step 0 0 a0 b0 ⟨by omega, by omega⟩ ⟨by omega, by omega⟩ ha0 hb0 (by clear ha0; omega)
  obtain ⟨h2, l2, w2, x2, E2, Q2⟩ := plus_step h1 l1 a1 b1 w1 x1 ha1 hb1 (by unfold Hid at *; clear Q1; omega)
  obtain ⟨h3, l3, w3, x3, E3, Q3⟩ := plus_step h2 l2 a2 b2 w2 x2 ha2 hb2 (by unfold Hid at *; clear Q1 Q2; omega)
  refine ⟨h1, l1, h2, l2, h3, l3, Q1, Q2, Q3, w3, x3, ?_⟩
  unfold Hid at *; clear Q1 Q2 Q3; omega

end Go.Proofs.YtnebpleplogfeaaDoor
