/-
  A ring's block of memory while it is made, and what is refused as a modulus. Conditions: as each theorem says.
-/
import Derived.Test.YtkaekgjpjnnjpaaRingG
import Derived.Test.YtkaekgjpjnnjpaaRingH
namespace Go.Proofs.Ytkaekgjpjnnjpaa
open Go.RowKit
set_option linter.unusedVariables false

/-- The thirteen words of a ring, in memory that may be written. -/
structure Rw (W : World) (b : Nat) (m0 m1 m2 m3 f o0 o1 o2 o3 s0 s1 s2 s3 : Int) : Prop where
  lt : b < W.heap.size
  c0 : W.cell? ⟨b, 0, none⟩ = some (.int .u64 m0)
  c1 : W.cell? ⟨b, 1, none⟩ = some (.int .u64 m1)
  c2 : W.cell? ⟨b, 2, none⟩ = some (.int .u64 m2)
  c3 : W.cell? ⟨b, 3, none⟩ = some (.int .u64 m3)
  c4 : W.cell? ⟨b, 4, none⟩ = some (.int .u64 f)
  c5 : W.cell? ⟨b, 5, none⟩ = some (.int .u64 o0)
  c6 : W.cell? ⟨b, 6, none⟩ = some (.int .u64 o1)
  c7 : W.cell? ⟨b, 7, none⟩ = some (.int .u64 o2)
  c8 : W.cell? ⟨b, 8, none⟩ = some (.int .u64 o3)
  c9 : W.cell? ⟨b, 9, none⟩ = some (.int .u64 s0)
  c10 : W.cell? ⟨b, 10, none⟩ = some (.int .u64 s1)
  c11 : W.cell? ⟨b, 11, none⟩ = some (.int .u64 s2)
  c12 : W.cell? ⟨b, 12, none⟩ = some (.int .u64 s3)
  fr : ∀ j, W.frozen? ⟨b, j, none⟩ = false
theorem Rw.below {W W' : World} {b : Nat} {m0 m1 m2 m3 f o0 o1 o2 o3 s0 s1 s2 s3 : Int} (h : Rw W b m0 m1 m2 m3 f o0 o1 o2 o3 s0 s1 s2 s3) (hb : Below W.heap.size W W') : Rw W' b m0 m1 m2 m3 f o0 o1 o2 o3 s0 s1 s2 s3 :=
  ⟨Nat.lt_of_lt_of_le h.lt hb.size, (hb.cell (p := ⟨b, 0, none⟩) h.lt).trans h.c0, (hb.cell (p := ⟨b, 1, none⟩) h.lt).trans h.c1, (hb.cell (p := ⟨b, 2, none⟩) h.lt).trans h.c2, (hb.cell (p := ⟨b, 3, none⟩) h.lt).trans h.c3, (hb.cell (p := ⟨b, 4, none⟩) h.lt).trans h.c4, (hb.cell (p := ⟨b, 5, none⟩) h.lt).trans h.c5, (hb.cell (p := ⟨b, 6, none⟩) h.lt).trans h.c6, (hb.cell (p := ⟨b, 7, none⟩) h.lt).trans h.c7, (hb.cell (p := ⟨b, 8, none⟩) h.lt).trans h.c8, (hb.cell (p := ⟨b, 9, none⟩) h.lt).trans h.c9, (hb.cell (p := ⟨b, 10, none⟩) h.lt).trans h.c10, (hb.cell (p := ⟨b, 11, none⟩) h.lt).trans h.c11, (hb.cell (p := ⟨b, 12, none⟩) h.lt).trans h.c12, fun j => (hb.frozen (p := ⟨b, j, none⟩) h.lt).trans (h.fr j)⟩
theorem Rw.drew {W : World} {b : Nat} {m0 m1 m2 m3 f o0 o1 o2 o3 s0 s1 s2 s3 : Int} (h : Rw W b m0 m1 m2 m3 f o0 o1 o2 o3 s0 s1 s2 s3) : Rw W.drew b m0 m1 m2 m3 f o0 o1 o2 o3 s0 s1 s2 s3 := h.below (Below.refl _ _).drew
theorem Rw.new_at (W : World) (g : Nat) (m0 m1 m2 m3 f o0 o1 o2 o3 s0 s1 s2 s3 : Int) (t : TypeId) (h : g = W.heap.size) : Rw (W.alloc (.cells #[.int .u64 m0, .int .u64 m1, .int .u64 m2, .int .u64 m3, .int .u64 f, .int .u64 o0, .int .u64 o1, .int .u64 o2, .int .u64 o3, .int .u64 s0, .int .u64 s1, .int .u64 s2, .int .u64 s3] t)) g m0 m1 m2 m3 f o0 o1 o2 o3 s0 s1 s2 s3 := by
  subst h
  exact ⟨by simp, by simp, by simp, by simp, by simp, by simp, by simp, by simp, by simp, by simp, by simp, by simp, by simp, by simp, fun j => by simp [go_sem]⟩
theorem Rw.set5 {W : World} {b : Nat} {m0 m1 m2 m3 f o0 o1 o2 o3 s0 s1 s2 s3 : Int} (h : Rw W b m0 m1 m2 m3 f o0 o1 o2 o3 s0 s1 s2 s3) (x0 x1 x2 x3 : Int) : Rw ((((W.setCell ⟨b, 5, none⟩ (.int .u64 x0)).setCell ⟨b, 6, none⟩ (.int .u64 x1)).setCell ⟨b, 7, none⟩ (.int .u64 x2)).setCell ⟨b, 8, none⟩ (.int .u64 x3)) b m0 m1 m2 m3 f x0 x1 x2 x3 s0 s1 s2 s3 := by
  obtain ⟨l, c0, c1, c2, c3, c4, c5, c6, c7, c8, c9, c10, c11, c12, fr⟩ := h
  refine ⟨by simpa using l, ?_, ?_, ?_, ?_, ?_, ?_, ?_, ?_, ?_, ?_, ?_, ?_, ?_, fun j => by simpa using fr j⟩ <;> simp [go_sem, c0, c1, c2, c3, c4, c5, c6, c7, c8, c9, c10, c11, c12]
theorem Rw.set9 {W : World} {b : Nat} {m0 m1 m2 m3 f o0 o1 o2 o3 s0 s1 s2 s3 : Int} (h : Rw W b m0 m1 m2 m3 f o0 o1 o2 o3 s0 s1 s2 s3) (x0 x1 x2 x3 : Int) : Rw ((((W.setCell ⟨b, 9, none⟩ (.int .u64 x0)).setCell ⟨b, 10, none⟩ (.int .u64 x1)).setCell ⟨b, 11, none⟩ (.int .u64 x2)).setCell ⟨b, 12, none⟩ (.int .u64 x3)) b m0 m1 m2 m3 f o0 o1 o2 o3 x0 x1 x2 x3 := by
  obtain ⟨l, c0, c1, c2, c3, c4, c5, c6, c7, c8, c9, c10, c11, c12, fr⟩ := h
  refine ⟨by simpa using l, ?_, ?_, ?_, ?_, ?_, ?_, ?_, ?_, ?_, ?_, ?_, ?_, ?_, fun j => by simpa using fr j⟩ <;> simp [go_sem, c0, c1, c2, c3, c4, c5, c6, c7, c8, c9, c10, c11, c12]
theorem Rw.five {W : World} {b : Nat} {m0 m1 m2 m3 f o0 o1 o2 o3 s0 s1 s2 s3 : Int} (h : Rw W b m0 m1 m2 m3 f o0 o1 o2 o3 s0 s1 s2 s3) : Five W b m0 m1 m2 m3 f := ⟨h.lt, h.c0, h.c1, h.c2, h.c3, h.c4⟩
theorem Rw.one {W : World} {b : Nat} {m0 m1 m2 m3 f o0 o1 o2 o3 s0 s1 s2 s3 : Int} (h : Rw W b m0 m1 m2 m3 f o0 o1 o2 o3 s0 s1 s2 s3) : At4 W b 5 o0 o1 o2 o3 := ⟨h.lt, h.c5, h.c6, h.c7, h.c8⟩
theorem Rw.square {W : World} {b : Nat} {m0 m1 m2 m3 f o0 o1 o2 o3 s0 s1 s2 s3 : Int} (h : Rw W b m0 m1 m2 m3 f o0 o1 o2 o3 s0 s1 s2 s3) : At4 W b 9 s0 s1 s2 s3 := ⟨h.lt, h.c9, h.c10, h.c11, h.c12⟩

/-- Two arrays of four words held against one another. -/
theorem eqlIn_four4 (a0 a1 a2 a3 b0 b1 b2 b3 : Int) (w : World) :
    (Op.equalIn 10000 24 (.agg #[.int .u64 a0, .int .u64 a1, .int .u64 a2, .int .u64 a3]) (.agg #[.int .u64 b0, .int .u64 b1, .int .u64 b2, .int .u64 b3])).run Try.prog w = .ok (decide (a0 = b0 ∧ a1 = b1 ∧ a2 = b2 ∧ a3 = b3)) w := by
  rw [show (10000 : Nat) = 9998 + 1 + 1 from rfl]
  unfold Op.equalIn
  have r : List.range' 0 4 = [0, 1, 2, 3] := rfl
  simp only [Sem.run_bind, run_underlying Try.underlying24, Result.andThen_ok]
  by_cases h0 : a0 = b0 <;> by_cases h1 : a1 = b1 <;> by_cases h2 : a2 = b2 <;> by_cases h3 : a3 = b3 <;> simp [go_sem, r, h0, h1, h2, h3]
theorem eql_diff4 (a0 a1 a2 a3 b0 b1 b2 b3 : Int) (h : ¬ (a0 = b0 ∧ a1 = b1 ∧ a2 = b2 ∧ a3 = b3)) (w : World) : (binOp .eql 24 (.agg #[.int .u64 a0, .int .u64 a1, .int .u64 a2, .int .u64 a3]) (.agg #[.int .u64 b0, .int .u64 b1, .int .u64 b2, .int .u64 b3])).run Try.prog w = .ok (.bool false) w := by
  simp [go_sem, eqlIn_four4, h]
theorem neq_diff4 (a0 a1 a2 a3 b0 b1 b2 b3 : Int) (h : ¬ (a0 = b0 ∧ a1 = b1 ∧ a2 = b2 ∧ a3 = b3)) (w : World) : (binOp .neq 24 (.agg #[.int .u64 a0, .int .u64 a1, .int .u64 a2, .int .u64 a3]) (.agg #[.int .u64 b0, .int .u64 b1, .int .u64 b2, .int .u64 b3])).run Try.prog w = .ok (.bool true) w := by
  simp [go_sem, eqlIn_four4, h]

end Go.Proofs.Ytkaekgjpjnnjpaa
