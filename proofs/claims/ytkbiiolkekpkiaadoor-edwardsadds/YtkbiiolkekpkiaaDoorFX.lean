/-
  The contract of the document's own Same, for the 32 bytes of one number: an element's bytes and the document's. Conditions: as the theorem says.
-/
import Derived.Test.YtkbiiolkekpkiaaDoorFL
import Derived.Test.YtkbiiolkekpkiaaDoorOct
namespace Go.Proofs.YtkbiiolkekpkiaaDoor
open Go.RowKit
set_option linter.unusedVariables false

theorem leB_byte (n j : Nat) (h : j < 32) : ((leB n 32).getD j 0 : Int) = byteAt n j := by
  rw [leB_get n 32 j h]; rfl
set_option maxHeartbeats 1000000 in
theorem same32 (n g : Nat) (vb : Value) (w : World) (ha : Fil n g 32 w) (hb : SK .u8 w vb (leB n 32)) :
    Calls Tryd.prog 13 #[.slice (some ⟨g, 0, none⟩) 32 32, vb] w fun e w' => e = .returned (.bool true) ∧ Below w.heap.size w w' := by
  obtain ⟨a, cap, rfl, hcap, -, hc⟩ := hb
  rw [leB_length] at hc hcap
  obtain ⟨b, o, rfl, lb, -⟩ := hc 0 (by omega)
  have K1 : Hid (∀ j, j < 32 → w.cell? ⟨g, j, none⟩ = some (.int .u8 (byteAt n j))) := fun j hj => by rw [ha.cell j hj, if_pos hj]
  have K2 : Hid (∀ j, j < 32 → w.cell? ⟨b, o + j, none⟩ = some (.int .u8 (byteAt n j))) := by
    intro j hj
    obtain ⟨b', o', e, -, h⟩ := hc j hj
    simp only [Option.some.injEq, Addr.mk.injEq, and_true] at e
    obtain ⟨rfl, rfl⟩ := e
    rw [h, leB_byte n j hj]
  have lg := ha.size
  rw [leB_length]
  clear hc ha hcap
  go_enter Tryd.func13, Tryd.ntmps13
  go_wp2_with fail
  go_loopw [5] (fun y wr => ∃ i : Nat, i ≤ 32 ∧ y = .int .i64 i ∧ Below w.heap.size w wr) (fun y _ => 32 - (intOf y).toNat)
  case atStart => exact ⟨0, by omega, rfl, Below.refl _ _⟩
  case round =>
    obtain ⟨i, hi, rfl, hbel⟩ := hrel
    have Hb : Hid (Below w.heap.size w wr) := hbel
    by_cases hlt : i < 32
    · have hlt' : (i : Int) < 32 := by omega
      have d1 : wr.cell? ⟨g, i, none⟩ = some (.int .u8 (byteAt n i)) := (hbel.cell (p := ⟨g, i, none⟩) lg).trans (K1.out i hlt)
      have d2 : wr.cell? ⟨b, o + i, none⟩ = some (.int .u8 (byteAt n i)) := (hbel.cell (p := ⟨b, o + i, none⟩) lb).trans (K2.out i hlt)
      generalize byteAt n i = z at d1 d2
      clear hbel
      go_wp2_with fail
      go_region
      go_wp2_with fail
      go_roundw
      case rel => exact ⟨i + 1, by omega, by go_num, Hb.out.drew⟩
      case measure => simp [intOf]; omega
    · obtain rfl : i = 32 := by omega
      go_wp2_with fail
      go_ret
      exact ⟨rfl, Hb.out⟩
theorem toLittle32 (n : Nat) (va : Value) (w : World) (ha : Num w va n) (m : Nat) (hM : n < 16777216 ^ m) (hm : m ≤ 10000) :
    Calls Tryd.prog 64 #[va, .int .i64 32] w fun e w' => ∃ v, e = .returned v ∧ SK .u8 w' v (leB n 32) ∧ Below w.heap.size w w' := by
  obtain ⟨l, h1, h2, h3, rfl⟩ := ha
  have hl := nz_len l m h2 h3 hM
  exact toLittleN_any l va 32 w h1 h2 (by omega) (by omega)

end Go.Proofs.YtkbiiolkekpkiaaDoor
