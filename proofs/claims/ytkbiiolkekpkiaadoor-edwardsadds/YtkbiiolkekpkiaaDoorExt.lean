/-
  A region that draws its order and whose calls make memory of their own but turn none that was there: one walk in the order of the text serves every order. And the same value held against itself. Conditions: none beyond those written.
-/
import Derived.Test.YtkbiiolkekpkiaaDoorBase
namespace Go.Proofs.YtkbiiolkekpkiaaDoor
open Go.RowKit

/-- The world w with whatever w0 has beyond w's blocks: w with more memory. -/
def ext (w w0 : World) : World := { heap := w.heap ++ w0.heap.extract w.heap.size w0.heap.size, tape := w.tape, drawn := w0.drawn, os := w.os, output := w.output }

theorem ext_below (w w0 : World) : Below w.heap.size w (ext w w0) :=
  ⟨rfl, rfl, rfl, by simp [ext], fun k hk => by simp [ext, Array.getElem?_append, hk]⟩

theorem ext_of {w w0 : World} (h : Below w.heap.size w w0) : ext w w0 = w0 := by
  obtain ⟨h1, t1, d1, o1, p1⟩ := w0
  obtain ⟨ho, ht, hp, hs, hb⟩ := h
  simp only at ho ht hp hs hb
  subst ho ht hp
  unfold ext
  congr 1
  dsimp only
  apply Array.ext_getElem?
  intro i
  by_cases hi : i < w.heap.size
  · rw [Array.getElem?_append, if_pos hi, hb i hi]
  · rw [Array.getElem?_append, if_neg hi, Array.getElem?_extract]
    by_cases h2 : i < h1.size
    · rw [if_pos (by simp only [Nat.min_self]; omega), show w.heap.size + (i - w.heap.size) = i by omega]
    · rw [if_neg (by simp only [Nat.min_self]; omega), Array.getElem?_eq_none (by omega)]

theorem ext_cell (w w0 : World) (b o : Nat) (h : b < w.heap.size) : (ext w w0).cell? ⟨b, o, none⟩ = w.cell? ⟨b, o, none⟩ := (ext_below w w0).cell (p := ⟨b, o, none⟩) h
theorem ext_frozen (w w0 : World) (b o : Nat) (h : b < w.heap.size) : (ext w w0).frozen? ⟨b, o, none⟩ = w.frozen? ⟨b, o, none⟩ := (ext_below w w0).frozen (p := ⟨b, o, none⟩) h

theorem wp_region_ext {P : Program} {id : Nat} {Q : Exit → Act → World → Prop} {a : Act} {w : World} {l : List Oper} (hm : P.follows .mixedOrders = true) (hB : Region.lexB .any l.toArray = true)
    (h : wpQuiet P l.toArray (fun w' => ∃ n, w' = ext w n) (fun a' => ∀ w', (∃ n, w' = ext w n) → Q .normal a' w') l a) : (Code.region id l.toArray true).wp P Q a w :=
  wp_region_quiet (C := fun w' => ∃ n, w' = ext w n) hm hB ⟨{ w with drawn := w.drawn + 1 }, (ext_of ⟨rfl, rfl, rfl, Nat.le_refl _, fun _ _ => rfl⟩).symm⟩ (by simpa using h)

/-- A callee's contract, met in the world 'ext w n'. -/
theorem calls_ext {P : Program} {f : FuncId} {args : Array Value} {w n : World} {v : Value}
    (h : Calls P f args (ext w n) fun e w' => e = .returned v ∧ Below (ext w n).heap.size (ext w n) w') : Calls P f args (ext w n) fun e w'' => e = .returned v ∧ ∃ m, w'' = ext w m :=
  h.mono fun _ w'' ⟨he, hb⟩ => ⟨he, w'', (ext_of ((ext_below w n).trans (hb.mono (ext_below w n).size))).symm⟩
/-- .. of a callee that leaves the world as it was. -/
theorem calls_ext_same {P : Program} {f : FuncId} {args : Array Value} {w n : World} {v : Value}
    (h : Calls P f args (ext w n) fun e w' => e = .returned v ∧ w' = ext w n) : Calls P f args (ext w n) fun e w'' => e = .returned v ∧ ∃ m, w'' = ext w m :=
  h.mono fun _ _ ⟨he, hb⟩ => ⟨he, n, hb⟩

/-- Block b holds these four words. -/
structure Box (W : World) (b : Nat) (v0 v1 v2 v3 : Int) : Prop where
  lt : b < W.heap.size
  c0 : W.cell? ⟨b, 0, none⟩ = some (.int .u64 v0)
  c1 : W.cell? ⟨b, 1, none⟩ = some (.int .u64 v1)
  c2 : W.cell? ⟨b, 2, none⟩ = some (.int .u64 v2)
  c3 : W.cell? ⟨b, 3, none⟩ = some (.int .u64 v3)
theorem Box.below {W W' : World} {b : Nat} {v0 v1 v2 v3 : Int} (h : Box W b v0 v1 v2 v3) (hb : Below W.heap.size W W') : Box W' b v0 v1 v2 v3 :=
  ⟨Nat.lt_of_lt_of_le h.lt hb.size, (hb.cell (p := ⟨b, 0, none⟩) h.lt).trans h.c0, (hb.cell (p := ⟨b, 1, none⟩) h.lt).trans h.c1, (hb.cell (p := ⟨b, 2, none⟩) h.lt).trans h.c2, (hb.cell (p := ⟨b, 3, none⟩) h.lt).trans h.c3⟩
theorem Box.alloc {W : World} {b : Nat} {v0 v1 v2 v3 : Int} (h : Box W b v0 v1 v2 v3) (o : Obj) : Box (W.alloc o) b v0 v1 v2 v3 := h.below (Below.alloc (Below.refl _ _) (Nat.le_refl _) o)
theorem Box.new (W : World) (v0 v1 v2 v3 : Int) (t : TypeId) : Box (W.alloc (.cells #[.int .u64 v0, .int .u64 v1, .int .u64 v2, .int .u64 v3] t)) W.heap.size v0 v1 v2 v3 :=
  ⟨by simp, by simp, by simp, by simp, by simp⟩

/-- What stands behind is asked of every world that meets F. -/
theorem wp_cut {P : Program} {c : Code} {Q : Exit → Act → World → Prop} {a : Act} {w : World} (F : World → Prop) (h : F w) (k : ∀ w', F w' → c.wp P Q a w') : c.wp P Q a w := k w h

end Go.Proofs.YtkbiiolkekpkiaaDoor
