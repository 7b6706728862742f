/-
  The frame of layer 7: how long an argument that is a slice of bytes may be. Conditions: none beyond those written.
-/
import Derived.Test.YtlpmbhneffdcfaaDoorFrameG
namespace Go.Proofs.YtlpmbhneffdcfaaDoor
open Go.ChangeShapes Go.WideShapes Go.ChangeAt Go.WideMaps Go.WideElems Go.RowKit
set_option linter.unusedVariables false

theorem u8_of_wf {a : Int} (h : (Lit.int .u8 a).wf = true) : ∃ n : Nat, a = (n : Int) ∧ n < 256 := by
  simp [Lit.wf, IntKind.min, IntKind.max, IntKind.signed, IntKind.bits] at h
  exact ⟨a.toNat, by omega, by omega⟩
set_option maxRecDepth 100000 in
theorem octets_len {H : Type} {enc : TypeId × Value → H} {W : World} {base : Nat} {r : Reach} {v : Value} {d : DataW H} {p : List MemPlace} {l : List Nat}
    (hv : Value.okWide Tryd.prog W r base 25 v) (h : DataW.Trod enc Tryd.prog W 0 (fun _ => true) true 25 v d p) (hs : SK .u8 W v l) : l.length < 9223372036854775808 := by
  obtain ⟨a, c, e⟩ := hs.shape
  subst e
  obtain ⟨fuel, hf⟩ := h
  rcases open_ints Tryd.underlying25 Tryd.underlying5 (by kernel_rfl) hf with ⟨hcs, _⟩ | ⟨x, len, cap, zs, hcs, _, hl, hm, hz, _, hcell, hwz⟩
  · simp [Value.cells] at hcs
    obtain ⟨rfl, e, rfl⟩ := hcs
    simp [e]
  · simp [Value.cells] at hcs
    obtain ⟨rfl, e, rfl⟩ := hcs
    unfold maxLen at hm
    omega
end Go.Proofs.YtlpmbhneffdcfaaDoor
