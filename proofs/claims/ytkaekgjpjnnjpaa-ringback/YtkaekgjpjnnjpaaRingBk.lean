/-
  Boxes of twelve words and of two numbers; facts of numerals that RingBack asks for. Conditions: as each theorem says.
-/
import Derived.Test.YtkaekgjpjnnjpaaRingL
import Derived.Test.YtkaekgjpjnnjpaaRingO
import Derived.Test.YtkaekgjpjnnjpaaRingR
import Derived.Test.YtkaekgjpjnnjpaaRingS
import Derived.Test.YtkaekgjpjnnjpaaRingY
import Derived.Test.YtkaekgjpjnnjpaaGrow
namespace Go.Proofs.Ytkaekgjpjnnjpaa
open Go.RowKit
set_option linter.unusedVariables false

/-- Block g holds these twelve words. -/
structure Bx12 (W : World) (g : Nat) (l0 l1 l2 l3 l4 l5 l6 l7 l8 l9 l10 l11 : Int) : Prop where
  lt : g < W.heap.size
  c0 : W.cell? ⟨g, 0, none⟩ = some (.int .u64 l0)
  c1 : W.cell? ⟨g, 1, none⟩ = some (.int .u64 l1)
  c2 : W.cell? ⟨g, 2, none⟩ = some (.int .u64 l2)
  c3 : W.cell? ⟨g, 3, none⟩ = some (.int .u64 l3)
  c4 : W.cell? ⟨g, 4, none⟩ = some (.int .u64 l4)
  c5 : W.cell? ⟨g, 5, none⟩ = some (.int .u64 l5)
  c6 : W.cell? ⟨g, 6, none⟩ = some (.int .u64 l6)
  c7 : W.cell? ⟨g, 7, none⟩ = some (.int .u64 l7)
  c8 : W.cell? ⟨g, 8, none⟩ = some (.int .u64 l8)
  c9 : W.cell? ⟨g, 9, none⟩ = some (.int .u64 l9)
  c10 : W.cell? ⟨g, 10, none⟩ = some (.int .u64 l10)
  c11 : W.cell? ⟨g, 11, none⟩ = some (.int .u64 l11)
theorem Bx12.below {W W' : World} {g : Nat} {l0 l1 l2 l3 l4 l5 l6 l7 l8 l9 l10 l11 : Int} (h : Bx12 W g l0 l1 l2 l3 l4 l5 l6 l7 l8 l9 l10 l11) (hb : Below W.heap.size W W') : Bx12 W' g l0 l1 l2 l3 l4 l5 l6 l7 l8 l9 l10 l11 :=
  ⟨Nat.lt_of_lt_of_le h.lt hb.size, (hb.cell (p := ⟨g, 0, none⟩) h.lt).trans h.c0, (hb.cell (p := ⟨g, 1, none⟩) h.lt).trans h.c1, (hb.cell (p := ⟨g, 2, none⟩) h.lt).trans h.c2, (hb.cell (p := ⟨g, 3, none⟩) h.lt).trans h.c3, (hb.cell (p := ⟨g, 4, none⟩) h.lt).trans h.c4, (hb.cell (p := ⟨g, 5, none⟩) h.lt).trans h.c5, (hb.cell (p := ⟨g, 6, none⟩) h.lt).trans h.c6, (hb.cell (p := ⟨g, 7, none⟩) h.lt).trans h.c7, (hb.cell (p := ⟨g, 8, none⟩) h.lt).trans h.c8, (hb.cell (p := ⟨g, 9, none⟩) h.lt).trans h.c9, (hb.cell (p := ⟨g, 10, none⟩) h.lt).trans h.c10, (hb.cell (p := ⟨g, 11, none⟩) h.lt).trans h.c11⟩
theorem Bx12.alloc {W : World} {g : Nat} {l0 l1 l2 l3 l4 l5 l6 l7 l8 l9 l10 l11 : Int} (h : Bx12 W g l0 l1 l2 l3 l4 l5 l6 l7 l8 l9 l10 l11) (o : Obj) : Bx12 (W.alloc o) g l0 l1 l2 l3 l4 l5 l6 l7 l8 l9 l10 l11 := h.below (Below.alloc (Below.refl _ _) (Nat.le_refl _) o)
theorem Bx12.drew {W : World} {g : Nat} {l0 l1 l2 l3 l4 l5 l6 l7 l8 l9 l10 l11 : Int} (h : Bx12 W g l0 l1 l2 l3 l4 l5 l6 l7 l8 l9 l10 l11) : Bx12 W.drew g l0 l1 l2 l3 l4 l5 l6 l7 l8 l9 l10 l11 := h.below (Below.refl _ _).drew
theorem Bx12.new_at (W : World) (g : Nat) (l0 l1 l2 l3 l4 l5 l6 l7 l8 l9 l10 l11 : Int) (t : TypeId) (h : g = W.heap.size) : Bx12 (W.alloc (.cells #[.int .u64 l0, .int .u64 l1, .int .u64 l2, .int .u64 l3, .int .u64 l4, .int .u64 l5, .int .u64 l6, .int .u64 l7, .int .u64 l8, .int .u64 l9, .int .u64 l10, .int .u64 l11] t)) g l0 l1 l2 l3 l4 l5 l6 l7 l8 l9 l10 l11 := by
  subst h
  exact ⟨by simp, by simp, by simp, by simp, by simp, by simp, by simp, by simp, by simp, by simp, by simp, by simp, by simp⟩
/-- Block g holds these two values. -/
structure BxV (W : World) (g : Nat) (v0 v1 : Value) : Prop where
  lt : g < W.heap.size
  c0 : W.cell? ⟨g, 0, none⟩ = some v0
  c1 : W.cell? ⟨g, 1, none⟩ = some v1
theorem BxV.below {W W' : World} {g : Nat} {v0 v1 : Value} (h : BxV W g v0 v1) (hb : Below W.heap.size W W') : BxV W' g v0 v1 :=
  ⟨Nat.lt_of_lt_of_le h.lt hb.size, (hb.cell (p := ⟨g, 0, none⟩) h.lt).trans h.c0, (hb.cell (p := ⟨g, 1, none⟩) h.lt).trans h.c1⟩
theorem BxV.alloc {W : World} {g : Nat} {v0 v1 : Value} (h : BxV W g v0 v1) (o : Obj) : BxV (W.alloc o) g v0 v1 := h.below (Below.alloc (Below.refl _ _) (Nat.le_refl _) o)
theorem BxV.drew {W : World} {g : Nat} {v0 v1 : Value} (h : BxV W g v0 v1) : BxV W.drew g v0 v1 := h.below (Below.refl _ _).drew
theorem BxV.new_at (W : World) (g : Nat) (v0 v1 : Value) (t : TypeId) (h : g = W.heap.size) : BxV (W.alloc (.cells #[v0, v1] t)) g v0 v1 := by
  subst h
  exact ⟨by simp, by simp, by simp⟩

theorem blk_of_heap {W : World} {g : Nat} {v0 v1 v2 v3 : Int} {t : TypeId} (h : W.heap[g]? = some (.cells #[.int .u64 v0, .int .u64 v1, .int .u64 v2, .int .u64 v3] t)) : Blk W g v0 v1 v2 v3 := by
  refine ⟨(Array.getElem?_eq_some_iff.1 h).1, ?_, ?_, ?_, ?_, fun j => ?_⟩ <;> simp [World.cell?, World.frozen?, h]

theorem set_here {w : World} {g : Nat} {c : Array Value} {t : TypeId} {fz : Nat × Nat} (i : Nat) (v : Value) (h : w.heap[g]? = some (.cells c t fz)) : (w.setCell ⟨g, i, none⟩ v).heap[g]? = some (.cells (c.setIfInBounds i v) t fz) := by
  obtain ⟨hlt, h'⟩ := Array.getElem?_eq_some_iff.1 h
  show (w.heap.modify g _)[g]? = _
  rw [Array.getElem?_eq_getElem (by simpa using hlt), Array.getElem_modify_self, h']
  rfl
theorem turned_set {w : World} {g : Nat} {t : TypeId} {z0 z1 z2 z3 : Int} (v0 v1 v2 v3 : Int) (h : w.heap[g]? = some (.cells #[.int .u64 z0, .int .u64 z1, .int .u64 z2, .int .u64 z3] t)) :
    Turned w ((((w.setCell ⟨g, 0, none⟩ (.int .u64 v0)).setCell ⟨g, 1, none⟩ (.int .u64 v1)).setCell ⟨g, 2, none⟩ (.int .u64 v2)).setCell ⟨g, 3, none⟩ (.int .u64 v3)) g (.cells #[.int .u64 v0, .int .u64 v1, .int .u64 v2, .int .u64 v3] t) := by
  have b : Below g w ((((w.setCell ⟨g, 0, none⟩ (.int .u64 v0)).setCell ⟨g, 1, none⟩ (.int .u64 v1)).setCell ⟨g, 2, none⟩ (.int .u64 v2)).setCell ⟨g, 3, none⟩ (.int .u64 v3)) :=
    ((((Below.refl g w).setCell (Nat.le_refl _) _).setCell (Nat.le_refl _) _).setCell (Nat.le_refl _) _).setCell (Nat.le_refl _) _
  refine ⟨b.os, b.tape, b.output, by simp, fun k hk => ?_, ?_⟩
  · rw [Below.heap_setCell _ _ _ k hk, Below.heap_setCell _ _ _ k hk, Below.heap_setCell _ _ _ k hk, Below.heap_setCell _ _ _ k hk]
  · exact (set_here 3 _ (set_here 2 _ (set_here 1 _ (set_here 0 _ h)))).trans (by simp)

theorem eight_one : eight 1 = .agg #[.int .u64 1, .int .u64 0, .int .u64 0, .int .u64 0, .int .u64 0, .int .u64 0, .int .u64 0, .int .u64 0] := by unfold eight; simp

theorem minus_plus (m A B : Nat) (hA : A < m) (hB : B < m) : ((A + B) % m % m + m - B % m) % m = A := by
  rw [Nat.mod_mod, Nat.mod_eq_of_lt hB]
  rcases Nat.lt_or_ge (A + B) m with h | h
  · rw [Nat.mod_eq_of_lt h, show A + B + m - B = A + m by omega, Nat.add_mod_right, Nat.mod_eq_of_lt hA]
  · rw [Nat.mod_eq_sub_mod h, Nat.mod_eq_of_lt (show A + B - m < m by omega), show A + B - m + m - B = A by omega, Nat.mod_eq_of_lt hA]
theorem red_plus (m A B C : Nat) : red m (A * ((B + C) % m)) = (red m (A * B) + red m (A * C)) % m := by
  rw [red_mul_right]
  unfold red
  rw [Nat.mul_add, Nat.add_mul, Nat.add_mod]
theorem red_assoc (m A B C : Nat) : red m (red m (A * B) * C) = red m (A * red m (B * C)) := by
  have e1 : red m (red m (A * B) * C) = red m (A * B * ri m * C) := red_mul_left m (A * B * ri m) C
  have e2 : red m (A * red m (B * C)) = red m (A * (B * C * ri m)) := red_mul_right m A (B * C * ri m)
  rw [e1, e2]
  congr 1
  rw [Nat.mul_right_comm (A * B) (ri m) C, ← Nat.mul_assoc A (B * C), ← Nat.mul_assoc A B C]
theorem pwr_plus (m a u v : Nat) (ho : m % 2 = 1) (hm : 1 < m) : red m (pwr m a u * pwr m a v) = pwr m a (u + v) := by
  unfold pwr
  rw [red_mul_left, red_mul_right, ← Nat.mul_assoc, red_up m _ ho hm, Nat.mul_right_comm, ← Nat.pow_add]
theorem pwr_one (m a : Nat) (ho : m % 2 = 1) (hm : 1 < m) (ha : a < m) : pwr m a 1 = a := by
  unfold pwr
  rw [Nat.pow_one, up_red m a ho hm, Nat.mod_eq_of_lt ha]

end Go.Proofs.Ytkaekgjpjnnjpaa
