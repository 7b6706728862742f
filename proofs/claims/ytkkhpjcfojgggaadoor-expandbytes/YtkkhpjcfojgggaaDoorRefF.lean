/-
  The contracts of the document's own ToWords and Four over digits of 24 bits: a number's lowest words. Conditions: as each theorem says.
-/
import Derived.Test.YtkkhpjcfojgggaaDoorRefE
namespace Go.Proofs.YtkkhpjcfojgggaaDoor
open Go.RowKit
set_option linter.unusedVariables false

theorem info_word : (Tryd.prog.info? 45).map (fun i => (i.zero, i.size, i.bytes)) = some (some (.int .u64 0), 1, 8) := by kernel_rfl
theorem make_words (n : Nat) (hn : n ≤ 1000000) (w : World) : (Instr.makeSlice 56 (.int .i64 (n : Int)) (.int .i64 (n : Int))).run Tryd.prog w = .ok (.slice (some ⟨w.heap.size, 0, none⟩) n n) (w.alloc (.cells (madeCells #[.int .u64 0] n) 45)) := by
  obtain ⟨i0, hi, hz0, hz1, hz2⟩ := info_parts info_word
  have h := run_make (P := Tryd.prog) w 56 45 i0 (.int .u64 0) Tryd.underlying56 hi hz0 .i64 .i64 n n (by omega) (by omega) (by rw [hz2]; omega) (by omega)
  rw [h, hz1]
  simp [Value.cells]

theorem Row.drewN {k : IntKind} {base g : Nat} {l : List Nat} {W : World} (h : Row k base g l W) (n : Nat) : Row k base g l (W.drewN n) := ⟨h.cell, h.free, h.lt, h.ge⟩
theorem Joins_draws {B : Nat} {w W : World} (h : Below B w W) (n : Nat) : Below B w (W.drewN n) := ⟨h.os, h.tape, h.output, h.size, h.block⟩
theorem bcell' {W w1 : World} (hb : Below W.heap.size W w1) : (∀ b o, b < W.heap.size → w1.cell? ⟨b, o, none⟩ = W.cell? ⟨b, o, none⟩) ∧ (∀ b o, b < W.heap.size → w1.frozen? ⟨b, o, none⟩ = W.frozen? ⟨b, o, none⟩) :=
  ⟨fun b o h => hb.cell (p := ⟨b, o, none⟩) h, fun b o h => hb.frozen (p := ⟨b, o, none⟩) h⟩
theorem wrap_quo (d p e : Nat) (he : d / p = e) (hd : d ≤ 9223372036854775807) : IntKind.i64.wrap ((d : Int) / (p : Int)) = (e : Int) := by
  have h3 : ((d / p : Nat) : Int) = (d : Int) / (p : Int) := by simp
  have h4 := Nat.div_le_self d p
  rw [← h3, he, IntKind.wrap_i64]
  omega

set_option maxHeartbeats 4000000 in
theorem four_valW (o : List Nat) (hl : o.length = 4) (hw : Ww o) : four (valW o) = .agg #[.int .u64 (o.getD 0 0 : Int), .int .u64 (o.getD 1 0 : Int), .int .u64 (o.getD 2 0 : Int), .int .u64 (o.getD 3 0 : Int)] := by
  match o, hl with
  | [a, b, c, d], _ =>
    have h0 := hw 0
    have h1 := hw 1
    have h2 := hw 2
    have h3 := hw 3
    simp only [List.getD_cons_zero, List.getD_cons_succ] at h0 h1 h2 h3 ⊢
    refine four_eq _ _ _ _ _ ⟨by omega, by omega⟩ ⟨by omega, by omega⟩ ⟨by omega, by omega⟩ ⟨by omega, by omega⟩ ?_
    simp only [valW]
    omega

end Go.Proofs.YtkkhpjcfojgggaaDoor
