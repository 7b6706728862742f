/-
  Boxes of two and of five words; sums of products in a column. Conditions: as each theorem says.
-/
import Derived.Test.YtkbiiolkekpkiaaDoorFA
namespace Go.Proofs.YtkbiiolkekpkiaaDoor
open Go.RowKit
set_option linter.unusedVariables false
set_option linter.unusedSimpArgs false

theorem below_drewN {B : Nat} {w W : World} (h : Below B w W) (n : Nat) : Below B w (W.drewN n) := ⟨h.os, h.tape, h.output, h.size, h.block⟩
/-- Block g holds these words, and may be written. -/
structure Bl2 (W : World) (g : Nat) (v0 v1 : Int) : Prop where
  lt : g < W.heap.size
  c0 : W.cell? ⟨g, 0, none⟩ = some (.int .u64 v0)
  c1 : W.cell? ⟨g, 1, none⟩ = some (.int .u64 v1)
  fr : ∀ j, W.frozen? ⟨g, j, none⟩ = false
theorem Bl2.below {W W' : World} {b : Nat} {v0 v1 : Int} (h : Bl2 W b v0 v1) (hb : Below W.heap.size W W') : Bl2 W' b v0 v1 :=
  ⟨Nat.lt_of_lt_of_le h.lt hb.size, (hb.cell (p := ⟨b, 0, none⟩) h.lt).trans h.c0, (hb.cell (p := ⟨b, 1, none⟩) h.lt).trans h.c1, fun j => (hb.frozen (p := ⟨b, j, none⟩) h.lt).trans (h.fr j)⟩
theorem Bl2.alloc {W : World} {b : Nat} {v0 v1 : Int} (h : Bl2 W b v0 v1) (o : Obj) : Bl2 (W.alloc o) b v0 v1 := h.below (Below.alloc (Below.refl _ _) (Nat.le_refl _) o)
theorem Bl2.drew {W : World} {b : Nat} {v0 v1 : Int} (h : Bl2 W b v0 v1) : Bl2 W.drew b v0 v1 := h.below (Below.refl _ _).drew
theorem Bl2.drewN {W : World} {b : Nat} {v0 v1 : Int} (h : Bl2 W b v0 v1) (n : Nat) : Bl2 (W.drewN n) b v0 v1 := h.below (below_drewN (Below.refl _ _) n)
theorem Bl2.new (W : World) (g : Nat) (v0 v1 : Int) (t : TypeId) (hg : g = W.heap.size) : Bl2 (W.alloc (.cells #[.int .u64 v0, .int .u64 v1] t)) g v0 v1 := by
  subst hg
  exact ⟨by simp, by simp, by simp, fun j => by simp [go_sem]⟩
theorem Bl2.other {W : World} {b : Nat} {v0 v1 : Int} (h : Bl2 W b v0 v1) (g i : Nat) (v : Value) (hg : g ≠ b) : Bl2 (W.setCell ⟨g, i, none⟩ v) b v0 v1 :=
  ⟨by simpa using h.lt, by rw [World.cell?_setCell_other _ _ _ _ (fun e => hg (congrArg Addr.block e))]; exact h.c0, by rw [World.cell?_setCell_other _ _ _ _ (fun e => hg (congrArg Addr.block e))]; exact h.c1, fun j => by simpa using h.fr j⟩
theorem Bl2.set {W : World} {b : Nat} {v0 v1 : Int} (h : Bl2 W b v0 v1) (x0 x1 : Int) : Bl2 ((W.setCell ⟨b, 0, none⟩ (.int .u64 x0)).setCell ⟨b, 1, none⟩ (.int .u64 x1)) b x0 x1 := by
  obtain ⟨h0, h1, h2, hf⟩ := h
  refine ⟨by simpa using h0, ?_, ?_, fun j => by simpa using hf j⟩ <;> simp [go_sem, h0, hf, h1, h2]
/-- Block g holds these words, and may be written. -/
structure Bl5 (W : World) (g : Nat) (v0 v1 v2 v3 v4 : Int) : Prop where
  lt : g < W.heap.size
  c0 : W.cell? ⟨g, 0, none⟩ = some (.int .u64 v0)
  c1 : W.cell? ⟨g, 1, none⟩ = some (.int .u64 v1)
  c2 : W.cell? ⟨g, 2, none⟩ = some (.int .u64 v2)
  c3 : W.cell? ⟨g, 3, none⟩ = some (.int .u64 v3)
  c4 : W.cell? ⟨g, 4, none⟩ = some (.int .u64 v4)
  fr : ∀ j, W.frozen? ⟨g, j, none⟩ = false
theorem Bl5.below {W W' : World} {b : Nat} {v0 v1 v2 v3 v4 : Int} (h : Bl5 W b v0 v1 v2 v3 v4) (hb : Below W.heap.size W W') : Bl5 W' b v0 v1 v2 v3 v4 :=
  ⟨Nat.lt_of_lt_of_le h.lt hb.size, (hb.cell (p := ⟨b, 0, none⟩) h.lt).trans h.c0, (hb.cell (p := ⟨b, 1, none⟩) h.lt).trans h.c1, (hb.cell (p := ⟨b, 2, none⟩) h.lt).trans h.c2, (hb.cell (p := ⟨b, 3, none⟩) h.lt).trans h.c3, (hb.cell (p := ⟨b, 4, none⟩) h.lt).trans h.c4, fun j => (hb.frozen (p := ⟨b, j, none⟩) h.lt).trans (h.fr j)⟩
theorem Bl5.alloc {W : World} {b : Nat} {v0 v1 v2 v3 v4 : Int} (h : Bl5 W b v0 v1 v2 v3 v4) (o : Obj) : Bl5 (W.alloc o) b v0 v1 v2 v3 v4 := h.below (Below.alloc (Below.refl _ _) (Nat.le_refl _) o)
theorem Bl5.drew {W : World} {b : Nat} {v0 v1 v2 v3 v4 : Int} (h : Bl5 W b v0 v1 v2 v3 v4) : Bl5 W.drew b v0 v1 v2 v3 v4 := h.below (Below.refl _ _).drew
theorem Bl5.drewN {W : World} {b : Nat} {v0 v1 v2 v3 v4 : Int} (h : Bl5 W b v0 v1 v2 v3 v4) (n : Nat) : Bl5 (W.drewN n) b v0 v1 v2 v3 v4 := h.below (below_drewN (Below.refl _ _) n)
theorem Bl5.new (W : World) (g : Nat) (v0 v1 v2 v3 v4 : Int) (t : TypeId) (hg : g = W.heap.size) : Bl5 (W.alloc (.cells #[.int .u64 v0, .int .u64 v1, .int .u64 v2, .int .u64 v3, .int .u64 v4] t)) g v0 v1 v2 v3 v4 := by
  subst hg
  exact ⟨by simp, by simp, by simp, by simp, by simp, by simp, fun j => by simp [go_sem]⟩
theorem Bl5.other {W : World} {b : Nat} {v0 v1 v2 v3 v4 : Int} (h : Bl5 W b v0 v1 v2 v3 v4) (g i : Nat) (v : Value) (hg : g ≠ b) : Bl5 (W.setCell ⟨g, i, none⟩ v) b v0 v1 v2 v3 v4 :=
  ⟨by simpa using h.lt, by rw [World.cell?_setCell_other _ _ _ _ (fun e => hg (congrArg Addr.block e))]; exact h.c0, by rw [World.cell?_setCell_other _ _ _ _ (fun e => hg (congrArg Addr.block e))]; exact h.c1, by rw [World.cell?_setCell_other _ _ _ _ (fun e => hg (congrArg Addr.block e))]; exact h.c2, by rw [World.cell?_setCell_other _ _ _ _ (fun e => hg (congrArg Addr.block e))]; exact h.c3, by rw [World.cell?_setCell_other _ _ _ _ (fun e => hg (congrArg Addr.block e))]; exact h.c4, fun j => by simpa using h.fr j⟩
theorem Bl5.set {W : World} {b : Nat} {v0 v1 v2 v3 v4 : Int} (h : Bl5 W b v0 v1 v2 v3 v4) (x0 x1 x2 x3 x4 : Int) : Bl5 (((((W.setCell ⟨b, 0, none⟩ (.int .u64 x0)).setCell ⟨b, 1, none⟩ (.int .u64 x1)).setCell ⟨b, 2, none⟩ (.int .u64 x2)).setCell ⟨b, 3, none⟩ (.int .u64 x3)).setCell ⟨b, 4, none⟩ (.int .u64 x4)) b x0 x1 x2 x3 x4 := by
  obtain ⟨h0, h1, h2, h3, h4, h5, hf⟩ := h
  refine ⟨by simpa using h0, ?_, ?_, ?_, ?_, ?_, fun j => by simpa using hf j⟩ <;> simp [go_sem, h0, hf, h1, h2, h3, h4, h5]
def pick5 (x0 x1 x2 x3 x4 x5 : Int) : Nat → Int
  | 0 => x0 | 1 => x1 | 2 => x2 | 3 => x3 | 4 => x4 | _ => x5
theorem Bl5.at {W : World} {g : Nat} {v0 v1 v2 v3 v4 : Int} (h : Bl5 W g v0 v1 v2 v3 v4) (k : Nat) (hk : k < 5) : W.cell? ⟨g, k, none⟩ = some (.int .u64 (pick5 v0 v1 v2 v3 v4 0 k)) := by
  match k, hk with
  | 0, _ => exact h.c0
  | 1, _ => exact h.c1
  | 2, _ => exact h.c2
  | 3, _ => exact h.c3
  | 4, _ => exact h.c4
theorem calls_at {P : Program} {f : FuncId} {args : Array Value} {Q : Ending → World → Prop} {w : World} (F : World → Prop) (h : F w) (k : ∀ w', F w' → Calls P f args w' Q) : Calls P f args w Q := k w h
theorem body_cut {P : Program} {fn : Func} {Q : Ending → World → Prop} {x : Exit} {a : Act} {w : World} (F : World → Prop) (h : F w) (k : ∀ w', F w' → bodyPost P fn Q x a w') : bodyPost P fn Q x a w := k w h
theorem mul_lt' (a b A B : Int) (h0 : 0 ≤ a) (h1 : a < A) (h2 : 0 ≤ b) (h3 : b < B) : 0 ≤ a * b ∧ a * b < A * B := by
  refine ⟨Int.mul_nonneg h0 h2, ?_⟩
  have e1 : a * b ≤ a * B := Int.mul_le_mul_of_nonneg_left (by omega) h0
  have e2 : a * B < A * B := Int.mul_lt_mul_of_pos_right h1 (by omega)
  omega
set_option maxHeartbeats 1000000 in
theorem col5 (a0 a1 a2 a3 a4 b0 b1 b2 b3 b4 : Int) (ha0 : Wd a0) (hb0 : Wd b0) (p0 : 0 ≤ a0 * b0 ∧ a0 * b0 < 1298074214633706907132624082305024) (ha1 : Wd a1) (hb1 : Wd b1) (p1 : 0 ≤ a1 * b1 ∧ a1 * b1 < 1298074214633706907132624082305024) (ha2 : Wd a2) (hb2 : Wd b2) (p2 : 0 ≤ a2 * b2 ∧ a2 * b2 < 1298074214633706907132624082305024) (ha3 : Wd a3) (hb3 : Wd b3) (p3 : 0 ≤ a3 * b3 ∧ a3 * b3 < 1298074214633706907132624082305024) (ha4 : Wd a4) (hb4 : Wd b4) (p4 : 0 ≤ a4 * b4 ∧ a4 * b4 < 1298074214633706907132624082305024) : ∃ h1 l1 h2 l2 h3 l3 h4 l4 h5 l5 : Int, (∀ w : World, Calls Tryd.prog 76 #[.agg #[.int .u64 0, .int .u64 0], .int .u64 a0, .int .u64 b0] w fun e w' => e = .returned (.agg #[.int .u64 h1, .int .u64 l1]) ∧ ∃ c1 c2 : Array Value, w' = (w.alloc (.cells c1 90)).alloc (.cells c2 90)) ∧ (∀ w : World, Calls Tryd.prog 76 #[.agg #[.int .u64 h1, .int .u64 l1], .int .u64 a1, .int .u64 b1] w fun e w' => e = .returned (.agg #[.int .u64 h2, .int .u64 l2]) ∧ ∃ c1 c2 : Array Value, w' = (w.alloc (.cells c1 90)).alloc (.cells c2 90)) ∧ (∀ w : World, Calls Tryd.prog 76 #[.agg #[.int .u64 h2, .int .u64 l2], .int .u64 a2, .int .u64 b2] w fun e w' => e = .returned (.agg #[.int .u64 h3, .int .u64 l3]) ∧ ∃ c1 c2 : Array Value, w' = (w.alloc (.cells c1 90)).alloc (.cells c2 90)) ∧ (∀ w : World, Calls Tryd.prog 76 #[.agg #[.int .u64 h3, .int .u64 l3], .int .u64 a3, .int .u64 b3] w fun e w' => e = .returned (.agg #[.int .u64 h4, .int .u64 l4]) ∧ ∃ c1 c2 : Array Value, w' = (w.alloc (.cells c1 90)).alloc (.cells c2 90)) ∧ (∀ w : World, Calls Tryd.prog 76 #[.agg #[.int .u64 h4, .int .u64 l4], .int .u64 a4, .int .u64 b4] w fun e w' => e = .returned (.agg #[.int .u64 h5, .int .u64 l5]) ∧ ∃ c1 c2 : Array Value, w' = (w.alloc (.cells c1 90)).alloc (.cells c2 90)) ∧ Wd h5 ∧ Wd l5 ∧ Hid (h5 * 18446744073709551616 + l5 = a0 * b0 + a1 * b1 + a2 * b2 + a3 * b3 + a4 * b4) := by
  obtain ⟨h1, l1, w1, x1, E1, Q1⟩ := plus_step 0 0 a0 b0 ⟨by omega, by omega⟩ ⟨by omega, by omega⟩ ha0 hb0 (by clear ha0; omega)
  obtain ⟨h2, l2, w2, x2, E2, Q2⟩ := plus_step h1 l1 a1 b1 w1 x1 ha1 hb1 (by unfold Hid at *; clear Q1; omega)
  obtain ⟨h3, l3, w3, x3, E3, Q3⟩ := plus_step h2 l2 a2 b2 w2 x2 ha2 hb2 (by unfold Hid at *; clear Q1 Q2; omega)
  obtain ⟨h4, l4, w4, x4, E4, Q4⟩ := plus_step h3 l3 a3 b3 w3 x3 ha3 hb3 (by unfold Hid at *; clear Q1 Q2 Q3; omega)
  obtain ⟨h5, l5, w5, x5, E5, Q5⟩ := plus_step h4 l4 a4 b4 w4 x4 ha4 hb4 (by unfold Hid at *; clear Q1 Q2 Q3 Q4; omega)
  refine ⟨h1, l1, h2, l2, h3, l3, h4, l4, h5, l5, Q1, Q2, Q3, Q4, Q5, w5, x5, ?_⟩
  unfold Hid at *; clear Q1 Q2 Q3 Q4 Q5; omega
set_option maxHeartbeats 1000000 in
theorem col3 (a0 a1 a2 b0 b1 b2 : Int) (ha0 : Wd a0) (hb0 : Wd b0) (p0 : 0 ≤ a0 * b0 ∧ a0 * b0 < 1298074214633706907132624082305024) (ha1 : Wd a1) (hb1 : Wd b1) (p1 : 0 ≤ a1 * b1 ∧ a1 * b1 < 1298074214633706907132624082305024) (ha2 : Wd a2) (hb2 : Wd b2) (p2 : 0 ≤ a2 * b2 ∧ a2 * b2 < 1298074214633706907132624082305024) : ∃ h1 l1 h2 l2 h3 l3 : Int, (∀ w : World, Calls Tryd.prog 76 #[.agg #[.int .u64 0, .int .u64 0], .int .u64 a0, .int .u64 b0] w fun e w' => e = .returned (.agg #[.int .u64 h1, .int .u64 l1]) ∧ ∃ c1 c2 : Array Value, w' = (w.alloc (.cells c1 90)).alloc (.cells c2 90)) ∧ (∀ w : World, Calls Tryd.prog 76 #[.agg #[.int .u64 h1, .int .u64 l1], .int .u64 a1, .int .u64 b1] w fun e w' => e = .returned (.agg #[.int .u64 h2, .int .u64 l2]) ∧ ∃ c1 c2 : Array Value, w' = (w.alloc (.cells c1 90)).alloc (.cells c2 90)) ∧ (∀ w : World, Calls Tryd.prog 76 #[.agg #[.int .u64 h2, .int .u64 l2], .int .u64 a2, .int .u64 b2] w fun e w' => e = .returned (.agg #[.int .u64 h3, .int .u64 l3]) ∧ ∃ c1 c2 : Array Value, w' = (w.alloc (.cells c1 90)).alloc (.cells c2 90)) ∧ Wd h3 ∧ Wd l3 ∧ Hid (h3 * 18446744073709551616 + l3 = a0 * b0 + a1 * b1 + a2 * b2) := by
  obtain ⟨h1, l1, w1, x1, E1, Q1⟩ := plus_step 0 0 a0 b0 ⟨by omega, by omega⟩ ⟨by omega, by omega⟩ ha0 hb0 (by clear ha0; omega)
  obtain ⟨h2, l2, w2, x2, E2, Q2⟩ := plus_step h1 l1 a1 b1 w1 x1 ha1 hb1 (by unfold Hid at *; clear Q1; omega)
  obtain ⟨h3, l3, w3, x3, E3, Q3⟩ := plus_step h2 l2 a2 b2 w2 x2 ha2 hb2 (by unfold Hid at *; clear Q1 Q2; omega)
  refine ⟨h1, l1, h2, l2, h3, l3, Q1, Q2, Q3, w3, x3, ?_⟩
  unfold Hid at *; clear Q1 Q2 Q3; omega

end Go.Proofs.YtkbiiolkekpkiaaDoor

/-
  The contract of the field's Mul: for tame elements it returns a tame element whose number is the product modulo 2^255 - 19, and changes no memory that was there. Conditions: as the theorem says.
-/
namespace Go.Proofs.YtkbiiolkekpkiaaDoor
open Go.RowKit
set_option linter.unusedVariables false

theorem mul_poly (a0 a1 a2 a3 a4 b0 b1 b2 b3 b4 B : Int) :
    (a0 + B * a1 + B ^ 2 * a2 + B ^ 3 * a3 + B ^ 4 * a4) * (b0 + B * b1 + B ^ 2 * b2 + B ^ 3 * b3 + B ^ 4 * b4) =
    (a0 * b0 + a1 * (19 * b4) + a2 * (19 * b3) + a3 * (19 * b2) + a4 * (19 * b1)) + B * (a0 * b1 + a1 * b0 + a2 * (19 * b4) + a3 * (19 * b3) + a4 * (19 * b2)) + B ^ 2 * (a0 * b2 + a1 * b1 + a2 * b0 + a3 * (19 * b4) + a4 * (19 * b3)) + B ^ 3 * (a0 * b3 + a1 * b2 + a2 * b1 + a3 * b0 + a4 * (19 * b4)) + B ^ 4 * (a0 * b4 + a1 * b3 + a2 * b2 + a3 * b1 + a4 * b0)
     + (B ^ 5 - 19) * ((a1 * b4 + a2 * b3 + a3 * b2 + a4 * b1) + B * (a2 * b4 + a3 * b3 + a4 * b2) + B ^ 2 * (a3 * b4 + a4 * b3) + B ^ 3 * (a4 * b4)) := by
  grind
theorem mul_val5 (a0 a1 a2 a3 a4 b0 b1 b2 b3 b4 : Int) : ∃ k : Int, val5 a0 a1 a2 a3 a4 * val5 b0 b1 b2 b3 b4 =
    val5 (a0 * b0 + a1 * (19 * b4) + a2 * (19 * b3) + a3 * (19 * b2) + a4 * (19 * b1)) (a0 * b1 + a1 * b0 + a2 * (19 * b4) + a3 * (19 * b3) + a4 * (19 * b2)) (a0 * b2 + a1 * b1 + a2 * b0 + a3 * (19 * b4) + a4 * (19 * b3)) (a0 * b3 + a1 * b2 + a2 * b1 + a3 * b0 + a4 * (19 * b4)) (a0 * b4 + a1 * b3 + a2 * b2 + a3 * b1 + a4 * b0) + (P25 : Int) * k :=
  ⟨_, mul_poly a0 a1 a2 a3 a4 b0 b1 b2 b3 b4 2251799813685248⟩
/-- Columns that are spread and settled keep their number. -/
theorem spread_val (c0 c1 c2 c3 c4 s0 s1 s2 s3 s4 t0 t1 t2 t3 t4 : Int)
    (h : s0 = c0 % 2251799813685248 + 19 * (c4 / 2251799813685248) ∧ s1 = c1 % 2251799813685248 + c0 / 2251799813685248 ∧ s2 = c2 % 2251799813685248 + c1 / 2251799813685248 ∧ s3 = c3 % 2251799813685248 + c2 / 2251799813685248 ∧ s4 = c4 % 2251799813685248 + c3 / 2251799813685248)
    (g : t0 = s0 % 2251799813685248 + 19 * (s4 / 2251799813685248) ∧ t1 = s1 % 2251799813685248 + s0 / 2251799813685248 ∧ t2 = s2 % 2251799813685248 + s1 / 2251799813685248 ∧ t3 = s3 % 2251799813685248 + s2 / 2251799813685248 ∧ t4 = s4 % 2251799813685248 + s3 / 2251799813685248) :
    ∃ k : Int, val5 c0 c1 c2 c3 c4 = val5 t0 t1 t2 t3 t4 + (P25 : Int) * k := by
  refine ⟨c4 / 2251799813685248 + s4 / 2251799813685248, ?_⟩
  unfold val5 P25
  omega
theorem mod_of_sum {x y k : Int} (h : x = y + (P25 : Int) * k) : y % (P25 : Int) = x % (P25 : Int) := by rw [h, Int.add_mul_emod_self_left]

/-- Five limbs. -/
structure L5 where
  l0 : Int
  l1 : Int
  l2 : Int
  l3 : Int
  l4 : Int
def L5.Tm (x : L5) : Prop := Tame x.l0 x.l1 x.l2 x.l3 x.l4
def L5.num (x : L5) : Int := val5 x.l0 x.l1 x.l2 x.l3 x.l4
/-- A column that has been added to. -/
def PlusTo (h l a b h' l' : Int) : Prop := ∀ w : World, Calls Tryd.prog 76 #[.agg #[.int .u64 h, .int .u64 l], .int .u64 a, .int .u64 b] w fun e w' => e = .returned (.agg #[.int .u64 h', .int .u64 l']) ∧ Below w.heap.size w w'
theorem plusTo_of {h l a b h' l' : Int} (q : ∀ w : World, Calls Tryd.prog 76 #[.agg #[.int .u64 h, .int .u64 l], .int .u64 a, .int .u64 b] w fun e w' => e = .returned (.agg #[.int .u64 h', .int .u64 l']) ∧ ∃ c1 c2 : Array Value, w' = (w.alloc (.cells c1 90)).alloc (.cells c2 90)) : PlusTo h l a b h' l' :=
  fun w => (q w).mono fun e w' ⟨he, c1, c2, hw⟩ => ⟨he, by subst hw; exact ((Below.refl _ _).alloc (Nat.le_refl _) _).alloc (by simp) _⟩

set_option maxHeartbeats 4000000 in
/-- The columns of a product, after each limb. -/
theorem mul_cols (a0 a1 a2 a3 a4 b0 b1 b2 b3 b4 : Int) (ta : Tame a0 a1 a2 a3 a4) (tb : Tame b0 b1 b2 b3 b4) : ∃ (H L Y : Nat → Nat → Int),
    (∀ j, H j 0 = 0 ∧ L j 0 = 0) ∧ (Y 0 0 = b0 ∧ Y 1 0 = b1 ∧ Y 2 0 = b2 ∧ Y 3 0 = b3 ∧ Y 4 0 = b4) ∧
    (∀ k, k < 5 → IntKind.u64.wrap (19 * Y 4 k) = Y 0 (k + 1) ∧ Y 0 k = Y 1 (k + 1) ∧ Y 1 k = Y 2 (k + 1) ∧ Y 2 k = Y 3 (k + 1) ∧ Y 3 k = Y 4 (k + 1)) ∧
    (∀ k, k < 5 → ∀ j, j < 5 → PlusTo (H j k) (L j k) (pick5 a0 a1 a2 a3 a4 0 k) (Y j k) (H j (k + 1)) (L j (k + 1))) ∧
    ∃ s0 s1 s2 s3 s4 t0 t1 t2 t3 t4 : Int, Tame t0 t1 t2 t3 t4 ∧ Hid (val5 t0 t1 t2 t3 t4 % (P25 : Int) = val5 a0 a1 a2 a3 a4 * val5 b0 b1 b2 b3 b4 % (P25 : Int)) ∧
    (∀ w : World, Calls Tryd.prog 78 #[.agg #[.int .u64 (H 0 5), .int .u64 (L 0 5)], .agg #[.int .u64 (H 1 5), .int .u64 (L 1 5)], .agg #[.int .u64 (H 2 5), .int .u64 (L 2 5)], .agg #[.int .u64 (H 3 5), .int .u64 (L 3 5)], .agg #[.int .u64 (H 4 5), .int .u64 (L 4 5)]] w fun e w' => e = .returned (.tuple #[.int .u64 s0, .int .u64 s1, .int .u64 s2, .int .u64 s3, .int .u64 s4]) ∧ Below w.heap.size w w') ∧
    (∀ w : World, Calls Tryd.prog 77 #[.int .u64 s0, .int .u64 s1, .int .u64 s2, .int .u64 s3, .int .u64 s4] w fun e w' => e = .returned (.tuple #[.int .u64 t0, .int .u64 t1, .int .u64 t2, .int .u64 t3, .int .u64 t4]) ∧ w' = w) := by
  have wa0 : Wd a0 := by unfold Tame at ta; unfold Wd; clear tb; omega
  have wb0 : Wd b0 := by unfold Tame at tb; unfold Wd; clear ta; omega
  have wc0 : Wd (19 * b0) := by unfold Tame at tb; unfold Wd; clear ta; omega
  have wa1 : Wd a1 := by unfold Tame at ta; unfold Wd; clear tb; omega
  have wb1 : Wd b1 := by unfold Tame at tb; unfold Wd; clear ta; omega
  have wc1 : Wd (19 * b1) := by unfold Tame at tb; unfold Wd; clear ta; omega
  have wa2 : Wd a2 := by unfold Tame at ta; unfold Wd; clear tb; omega
  have wb2 : Wd b2 := by unfold Tame at tb; unfold Wd; clear ta; omega
  have wc2 : Wd (19 * b2) := by unfold Tame at tb; unfold Wd; clear ta; omega
  have wa3 : Wd a3 := by unfold Tame at ta; unfold Wd; clear tb; omega
  have wb3 : Wd b3 := by unfold Tame at tb; unfold Wd; clear ta; omega
  have wc3 : Wd (19 * b3) := by unfold Tame at tb; unfold Wd; clear ta; omega
  have wa4 : Wd a4 := by unfold Tame at ta; unfold Wd; clear tb; omega
  have wb4 : Wd b4 := by unfold Tame at tb; unfold Wd; clear ta; omega
  have wc4 : Wd (19 * b4) := by unfold Tame at tb; unfold Wd; clear ta; omega
  have p00 := mul_lt' a0 b0 4503599627370496 4503599627370496 (by unfold Tame at ta; omega) (by unfold Tame at ta; omega) (by unfold Tame at tb; omega) (by unfold Tame at tb; omega)
  have p01 := mul_lt' a0 b1 4503599627370496 4503599627370496 (by unfold Tame at ta; omega) (by unfold Tame at ta; omega) (by unfold Tame at tb; omega) (by unfold Tame at tb; omega)
  have p02 := mul_lt' a0 b2 4503599627370496 4503599627370496 (by unfold Tame at ta; omega) (by unfold Tame at ta; omega) (by unfold Tame at tb; omega) (by unfold Tame at tb; omega)
  have p03 := mul_lt' a0 b3 4503599627370496 4503599627370496 (by unfold Tame at ta; omega) (by unfold Tame at ta; omega) (by unfold Tame at tb; omega) (by unfold Tame at tb; omega)
  have p04 := mul_lt' a0 b4 4503599627370496 4503599627370496 (by unfold Tame at ta; omega) (by unfold Tame at ta; omega) (by unfold Tame at tb; omega) (by unfold Tame at tb; omega)
  have p10 := mul_lt' a1 b0 4503599627370496 4503599627370496 (by unfold Tame at ta; omega) (by unfold Tame at ta; omega) (by unfold Tame at tb; omega) (by unfold Tame at tb; omega)
  have p11 := mul_lt' a1 b1 4503599627370496 4503599627370496 (by unfold Tame at ta; omega) (by unfold Tame at ta; omega) (by unfold Tame at tb; omega) (by unfold Tame at tb; omega)
  have p12 := mul_lt' a1 b2 4503599627370496 4503599627370496 (by unfold Tame at ta; omega) (by unfold Tame at ta; omega) (by unfold Tame at tb; omega) (by unfold Tame at tb; omega)
  have p13 := mul_lt' a1 b3 4503599627370496 4503599627370496 (by unfold Tame at ta; omega) (by unfold Tame at ta; omega) (by unfold Tame at tb; omega) (by unfold Tame at tb; omega)
  have g14 := mul_lt' a1 (19 * b4) 4503599627370496 85568392920039424 (by unfold Tame at ta; omega) (by unfold Tame at ta; omega) (by unfold Tame at tb; omega) (by unfold Tame at tb; omega)
  have p20 := mul_lt' a2 b0 4503599627370496 4503599627370496 (by unfold Tame at ta; omega) (by unfold Tame at ta; omega) (by unfold Tame at tb; omega) (by unfold Tame at tb; omega)
  have p21 := mul_lt' a2 b1 4503599627370496 4503599627370496 (by unfold Tame at ta; omega) (by unfold Tame at ta; omega) (by unfold Tame at tb; omega) (by unfold Tame at tb; omega)
  have p22 := mul_lt' a2 b2 4503599627370496 4503599627370496 (by unfold Tame at ta; omega) (by unfold Tame at ta; omega) (by unfold Tame at tb; omega) (by unfold Tame at tb; omega)
  have g23 := mul_lt' a2 (19 * b3) 4503599627370496 85568392920039424 (by unfold Tame at ta; omega) (by unfold Tame at ta; omega) (by unfold Tame at tb; omega) (by unfold Tame at tb; omega)
  have g24 := mul_lt' a2 (19 * b4) 4503599627370496 85568392920039424 (by unfold Tame at ta; omega) (by unfold Tame at ta; omega) (by unfold Tame at tb; omega) (by unfold Tame at tb; omega)
  have p30 := mul_lt' a3 b0 4503599627370496 4503599627370496 (by unfold Tame at ta; omega) (by unfold Tame at ta; omega) (by unfold Tame at tb; omega) (by unfold Tame at tb; omega)
  have p31 := mul_lt' a3 b1 4503599627370496 4503599627370496 (by unfold Tame at ta; omega) (by unfold Tame at ta; omega) (by unfold Tame at tb; omega) (by unfold Tame at tb; omega)
  have g32 := mul_lt' a3 (19 * b2) 4503599627370496 85568392920039424 (by unfold Tame at ta; omega) (by unfold Tame at ta; omega) (by unfold Tame at tb; omega) (by unfold Tame at tb; omega)
  have g33 := mul_lt' a3 (19 * b3) 4503599627370496 85568392920039424 (by unfold Tame at ta; omega) (by unfold Tame at ta; omega) (by unfold Tame at tb; omega) (by unfold Tame at tb; omega)
  have g34 := mul_lt' a3 (19 * b4) 4503599627370496 85568392920039424 (by unfold Tame at ta; omega) (by unfold Tame at ta; omega) (by unfold Tame at tb; omega) (by unfold Tame at tb; omega)
  have p40 := mul_lt' a4 b0 4503599627370496 4503599627370496 (by unfold Tame at ta; omega) (by unfold Tame at ta; omega) (by unfold Tame at tb; omega) (by unfold Tame at tb; omega)
  have g41 := mul_lt' a4 (19 * b1) 4503599627370496 85568392920039424 (by unfold Tame at ta; omega) (by unfold Tame at ta; omega) (by unfold Tame at tb; omega) (by unfold Tame at tb; omega)
  have g42 := mul_lt' a4 (19 * b2) 4503599627370496 85568392920039424 (by unfold Tame at ta; omega) (by unfold Tame at ta; omega) (by unfold Tame at tb; omega) (by unfold Tame at tb; omega)
  have g43 := mul_lt' a4 (19 * b3) 4503599627370496 85568392920039424 (by unfold Tame at ta; omega) (by unfold Tame at ta; omega) (by unfold Tame at tb; omega) (by unfold Tame at tb; omega)
  have g44 := mul_lt' a4 (19 * b4) 4503599627370496 85568392920039424 (by unfold Tame at ta; omega) (by unfold Tame at ta; omega) (by unfold Tame at tb; omega) (by unfold Tame at tb; omega)
  obtain ⟨h0_1, l0_1, h0_2, l0_2, h0_3, l0_3, h0_4, l0_4, h0_5, l0_5, Q0_0, Q0_1, Q0_2, Q0_3, Q0_4, y0, z0, E0⟩ := col5 a0 a1 a2 a3 a4 b0 (19 * b4) (19 * b3) (19 * b2) (19 * b1) wa0 wb0 ⟨p00.1, by have := p00.2; omega⟩ wa1 wc4 ⟨g14.1, by have := g14.2; omega⟩ wa2 wc3 ⟨g23.1, by have := g23.2; omega⟩ wa3 wc2 ⟨g32.1, by have := g32.2; omega⟩ wa4 wc1 ⟨g41.1, by have := g41.2; omega⟩
  obtain ⟨h1_1, l1_1, h1_2, l1_2, h1_3, l1_3, h1_4, l1_4, h1_5, l1_5, Q1_0, Q1_1, Q1_2, Q1_3, Q1_4, y1, z1, E1⟩ := col5 a0 a1 a2 a3 a4 b1 b0 (19 * b4) (19 * b3) (19 * b2) wa0 wb1 ⟨p01.1, by have := p01.2; omega⟩ wa1 wb0 ⟨p10.1, by have := p10.2; omega⟩ wa2 wc4 ⟨g24.1, by have := g24.2; omega⟩ wa3 wc3 ⟨g33.1, by have := g33.2; omega⟩ wa4 wc2 ⟨g42.1, by have := g42.2; omega⟩
  obtain ⟨h2_1, l2_1, h2_2, l2_2, h2_3, l2_3, h2_4, l2_4, h2_5, l2_5, Q2_0, Q2_1, Q2_2, Q2_3, Q2_4, y2, z2, E2⟩ := col5 a0 a1 a2 a3 a4 b2 b1 b0 (19 * b4) (19 * b3) wa0 wb2 ⟨p02.1, by have := p02.2; omega⟩ wa1 wb1 ⟨p11.1, by have := p11.2; omega⟩ wa2 wb0 ⟨p20.1, by have := p20.2; omega⟩ wa3 wc4 ⟨g34.1, by have := g34.2; omega⟩ wa4 wc3 ⟨g43.1, by have := g43.2; omega⟩
  obtain ⟨h3_1, l3_1, h3_2, l3_2, h3_3, l3_3, h3_4, l3_4, h3_5, l3_5, Q3_0, Q3_1, Q3_2, Q3_3, Q3_4, y3, z3, E3⟩ := col5 a0 a1 a2 a3 a4 b3 b2 b1 b0 (19 * b4) wa0 wb3 ⟨p03.1, by have := p03.2; omega⟩ wa1 wb2 ⟨p12.1, by have := p12.2; omega⟩ wa2 wb1 ⟨p21.1, by have := p21.2; omega⟩ wa3 wb0 ⟨p30.1, by have := p30.2; omega⟩ wa4 wc4 ⟨g44.1, by have := g44.2; omega⟩
  obtain ⟨h4_1, l4_1, h4_2, l4_2, h4_3, l4_3, h4_4, l4_4, h4_5, l4_5, Q4_0, Q4_1, Q4_2, Q4_3, Q4_4, y4, z4, E4⟩ := col5 a0 a1 a2 a3 a4 b4 b3 b2 b1 b0 wa0 wb4 ⟨p04.1, by have := p04.2; omega⟩ wa1 wb3 ⟨p13.1, by have := p13.2; omega⟩ wa2 wb2 ⟨p22.1, by have := p22.2; omega⟩ wa3 wb1 ⟨p31.1, by have := p31.2; omega⟩ wa4 wb0 ⟨p40.1, by have := p40.2; omega⟩
  have m0 : h0_5 < 140737488355328 := by unfold Hid at E0; unfold Wd at z0; have := p00; have := g14; have := g23; have := g32; have := g41; omega
  have m1 : h1_5 < 140737488355328 := by unfold Hid at E1; unfold Wd at z1; have := p01; have := p10; have := g24; have := g33; have := g42; omega
  have m2 : h2_5 < 140737488355328 := by unfold Hid at E2; unfold Wd at z2; have := p02; have := p11; have := p20; have := g34; have := g43; omega
  have m3 : h3_5 < 140737488355328 := by unfold Hid at E3; unfold Wd at z3; have := p03; have := p12; have := p21; have := p30; have := g44; omega
  have m4 : h4_5 < 70368744177664 := by unfold Hid at E4; unfold Wd at z4; have := p04; have := p13; have := p22; have := p31; have := p40; omega
  obtain ⟨s0, s1, s2, s3, s4, ws0, ws1, ws2, ws3, ws4, S, QS⟩ := spread_step h0_5 l0_5 h1_5 l1_5 h2_5 l2_5 h3_5 l3_5 h4_5 l4_5 y0 z0 m0 y1 z1 m1 y2 z2 m2 y3 z3 m3 y4 z4 m4
  obtain ⟨t0, t1, t2, t3, t4, T, QT⟩ := settle_step s0 s1 s2 s3 s4 ws0 ws1 ws2 ws3 ws4
  refine ⟨fun j => match j with | 0 => pick5 0 h0_1 h0_2 h0_3 h0_4 h0_5 | 1 => pick5 0 h1_1 h1_2 h1_3 h1_4 h1_5 | 2 => pick5 0 h2_1 h2_2 h2_3 h2_4 h2_5 | 3 => pick5 0 h3_1 h3_2 h3_3 h3_4 h3_5 | 4 => pick5 0 h4_1 h4_2 h4_3 h4_4 h4_5 | _ => fun _ => 0, fun j => match j with | 0 => pick5 0 l0_1 l0_2 l0_3 l0_4 l0_5 | 1 => pick5 0 l1_1 l1_2 l1_3 l1_4 l1_5 | 2 => pick5 0 l2_1 l2_2 l2_3 l2_4 l2_5 | 3 => pick5 0 l3_1 l3_2 l3_3 l3_4 l3_5 | 4 => pick5 0 l4_1 l4_2 l4_3 l4_4 l4_5 | _ => fun _ => 0, fun j => match j with | 0 => pick5 b0 (19 * b4) (19 * b3) (19 * b2) (19 * b1) (19 * b0) | 1 => pick5 b1 b0 (19 * b4) (19 * b3) (19 * b2) (19 * b1) | 2 => pick5 b2 b1 b0 (19 * b4) (19 * b3) (19 * b2) | 3 => pick5 b3 b2 b1 b0 (19 * b4) (19 * b3) | 4 => pick5 b4 b3 b2 b1 b0 (19 * b4) | _ => fun _ => 0, ?_, ⟨rfl, rfl, rfl, rfl, rfl⟩, ?_, ?_, s0, s1, s2, s3, s4, t0, t1, t2, t3, t4, T.out.1, ?_, QS, QT⟩
  · intro j
    match j with
    | 0 | 1 | 2 | 3 | 4 => exact ⟨rfl, rfl⟩
    | n + 5 => exact ⟨rfl, rfl⟩
  · intro k hk
    match k, hk with
    | 0, _ => exact ⟨wrapW _ wc4.1 wc4.2, rfl, rfl, rfl, rfl⟩
    | 1, _ => exact ⟨wrapW _ wc3.1 wc3.2, rfl, rfl, rfl, rfl⟩
    | 2, _ => exact ⟨wrapW _ wc2.1 wc2.2, rfl, rfl, rfl, rfl⟩
    | 3, _ => exact ⟨wrapW _ wc1.1 wc1.2, rfl, rfl, rfl, rfl⟩
    | 4, _ => exact ⟨wrapW _ wc0.1 wc0.2, rfl, rfl, rfl, rfl⟩
  · intro k hk j hj
    match k, hk, j, hj with
    | 0, _, 0, _ => exact plusTo_of Q0_0
    | 1, _, 0, _ => exact plusTo_of Q0_1
    | 2, _, 0, _ => exact plusTo_of Q0_2
    | 3, _, 0, _ => exact plusTo_of Q0_3
    | 4, _, 0, _ => exact plusTo_of Q0_4
    | 0, _, 1, _ => exact plusTo_of Q1_0
    | 1, _, 1, _ => exact plusTo_of Q1_1
    | 2, _, 1, _ => exact plusTo_of Q1_2
    | 3, _, 1, _ => exact plusTo_of Q1_3
    | 4, _, 1, _ => exact plusTo_of Q1_4
    | 0, _, 2, _ => exact plusTo_of Q2_0
    | 1, _, 2, _ => exact plusTo_of Q2_1
    | 2, _, 2, _ => exact plusTo_of Q2_2
    | 3, _, 2, _ => exact plusTo_of Q2_3
    | 4, _, 2, _ => exact plusTo_of Q2_4
    | 0, _, 3, _ => exact plusTo_of Q3_0
    | 1, _, 3, _ => exact plusTo_of Q3_1
    | 2, _, 3, _ => exact plusTo_of Q3_2
    | 3, _, 3, _ => exact plusTo_of Q3_3
    | 4, _, 3, _ => exact plusTo_of Q3_4
    | 0, _, 4, _ => exact plusTo_of Q4_0
    | 1, _, 4, _ => exact plusTo_of Q4_1
    | 2, _, 4, _ => exact plusTo_of Q4_2
    | 3, _, 4, _ => exact plusTo_of Q4_3
    | 4, _, 4, _ => exact plusTo_of Q4_4
  · unfold Hid at E0 E1 E2 E3 E4 ⊢
    obtain ⟨k1, e1⟩ := mul_val5 a0 a1 a2 a3 a4 b0 b1 b2 b3 b4
    obtain ⟨k2, e2⟩ := spread_val _ _ _ _ _ _ _ _ _ _ _ _ _ _ _ S.out T.out.2
    rw [E0, E1, E2, E3, E4] at e2
    rw [mod_of_sum e2, ← mod_of_sum e1]

end Go.Proofs.YtkbiiolkekpkiaaDoor
