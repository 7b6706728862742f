/-
  The document's own numbers: one word of a number, a number's bytes, the highest first. Conditions: as each theorem says.
-/
import Derived.Test.YtkkhpjcfojgggaaDoorGX
import Derived.Test.YtkkhpjcfojgggaaDoorRefF
import Derived.Test.YtkkhpjcfojgggaaDoorRefD
import Derived.Test.YtkkhpjcfojgggaaDoorNumLv
namespace Go.Proofs.YtkkhpjcfojgggaaDoor
open Go.RowKit
set_option linter.unusedVariables false
set_option linter.unusedSimpArgs false

set_option maxHeartbeats 1000000 in
theorem toBig5_num (x : Nat) (va : Value) (n : Nat) (w : World) (ha : Num w va x) (m : Nat) (hM : x < 16777216 ^ m) (hm : m ≤ 10000) (hn : n ≤ 100000) :
    Calls Tryd.prog 16 #[va, .int .i64 (n : Int)] w fun e w' => ∃ v, e = .returned v ∧ SK .u8 w' v (beB x n) ∧ Below w.heap.size w w' := by
  obtain ⟨la, s1, d1, z1, rfl⟩ := ha
  have hl := nz_len la m d1 z1 hM
  have HA : Hid (Sl w va la) := s1
  have HD : Hid (Dg la) := d1
  obtain ⟨aa, ac, rfl, -⟩ := s1
  clear d1 z1 hM
  go_enter Tryd.func16, Tryd.ntmps16
  go_wp2_with fail
  refine (toLittleN_any la _ n w HA.out HD.out (by omega) hn).mono ?_
  rintro e w1 ⟨v1, rfl, h1, g1⟩
  obtain ⟨b1, c1, hs1⟩ := h1.shape
  rw [leB_length] at hs1
  subst hs1
  have H1 : Hid (SK .u8 w1 (.slice b1 n c1) (leB (valD la) n)) := h1
  have G1 : Hid (Below w.heap.size w w1) := g1
  clear h1 g1
  go_wp2_with fail
  refine (turnedN_any _ _ _ H1.out (by rw [leB_length]; exact hn)).mono ?_
  rw [turn_leB]
  rintro e w2 ⟨v, rfl, h2, g2⟩
  have G2 : Hid (Below w1.heap.size w1 w2) := g2
  have H2 : Hid (SK .u8 w2 v (beB (valD la) n)) := h2
  obtain ⟨b, c, rfl⟩ := h2.shape
  clear g2 h2
  go_wp2_with fail
  go_ret
  exact ⟨_, rfl, H2.out, G1.out.trans (G2.out.mono G1.out.size)⟩

theorem sk_word (W : World) (x : Nat) (cs : Array Value) (h : cs = #[.int .u64 (x : Int)]) : SK .u64 (W.alloc (.cells cs 45)) (.slice (some ⟨W.heap.size, 0, none⟩) 1 1) [x] := by
  exact (Row.newA (k := .u64) W cs [x] 45 (by rw [h]; rfl)).sk
end Go.Proofs.YtkkhpjcfojgggaaDoor
