/-
  The law ExpandBytes walked: any message and tag come to the document's bytes, or not at all. Conditions: as the theorem says.
-/
import Derived.Test.YtkkhpjcfojgggaaDoorExF
import Derived.Test.YtkkhpjcfojgggaaDoorExC
namespace Go.Proofs.YtkkhpjcfojgggaaDoor.Br.Ex
open Go.RowKit
set_option linter.unusedVariables false
set_option linter.unusedSimpArgs false

set_option maxRecDepth 100000 in
set_option maxHeartbeats 4000000 in
theorem bytes_any9 (v1 v2 : Value) (l1 l2 : List Nat) (z : Int) (w : World) (hg : Gl6 w) (h1 : SK .u8 w v1 l1) (h2 : SK .u8 w v2 l2) (hb1 : Bb l1) (hb2 : Bb l2) (hz : -9223372036854775808 ≤ z ∧ z ≤ 9223372036854775807) :
    Calls Tryd.prog 3 #[v1, v2, .int .i64 z] w fun e w' => e = .returned (.bool true) ∧ Below w.heap.size w w' := by
  have kW : Hid (Calls Tryd.prog 5 #[] w fun e w' => e = .returned (.bool true) ∧ Below w.heap.size w w') := awake9 w hg
  obtain ⟨a1, c1, e1⟩ := h1.shape
  obtain ⟨a2, c2, e2⟩ := h2.shape
  subst e1 e2
  have H1 : Hid (SK .u8 w (.slice a1 l1.length c1) l1) := h1
  have H2 : Hid (SK .u8 w (.slice a2 l2.length c2) l2) := h2
  have HG : Hid (Gl6 w) := hg
  have HB1 : Hid (Bb l1) := hb1
  have HB2 : Hid (Bb l2) := hb2
  obtain ⟨n1, hn1⟩ : ∃ n, Hid (l1.length = n) := ⟨_, rfl⟩
  obtain ⟨n2, hn2⟩ : ∃ n, Hid (l2.length = n) := ⟨_, rfl⟩
  rw [hn1.out] at H1 ⊢
  rw [hn2.out] at H2 ⊢
  clear h1 h2 hg hb1 hb2
  go_enter Tryd.func3, Tryd.ntmps3
  go_wp2_with fail
  refine kW.out.mono ?_
  rintro e W1 ⟨rfl, hB1⟩
  have B1 : Hid (Below w.heap.size w W1) := hB1
  clear hB1 kW
  by_cases hlong1 : 1000 < n1
  · have hlong1' : (1000 : Int) < n1 := by omega
    go_wp2_with fail
    go_ret
    exact ⟨rfl, B1.out⟩
  by_cases hlong2 : 1000 < n2
  · have hlong1' : ¬ (1000 : Int) < n1 := by omega
    have hlong2' : (1000 : Int) < n2 := by omega
    go_wp2_with fail
    go_ret
    exact ⟨rfl, B1.out⟩
  have hlong1' : ¬ (1000 : Int) < n1 := by omega
  have hlong2' : ¬ (1000 : Int) < n2 := by omega
  by_cases hno : z < 0 ∨ 16320 < z ∨ 255 < n2
  · have kN : Hid (Calls Tryd.prog 6 #[.slice a1 n1 c1, .slice a2 n2 c2, .int .i64 z] W1 fun e w' => e = .returned (.tuple #[.slice none 0 0, .int .i64 2]) ∧ Below W1.heap.size W1 w') := expand_no z a1 a2 n1 n2 c1 c2 hno W1
    have hno2 : Hid (z < 0 ∨ 16320 < z ∨ 255 < n2) := hno
    clear hno hlong1 hlong2
    go_wp2_with fail
    refine kN.out.mono ?_
    rintro e W2 ⟨rfl, g⟩
    have B2 : Hid (Below w.heap.size w W2) := B1.out.trans (g.mono B1.out.size)
    clear g kN
    by_cases hz0 : z < 0
    · go_wp2_with fail
      go_ret
      exact ⟨rfl, B2.out⟩
    by_cases hz1 : 16320 < z
    · go_wp2_with fail
      go_ret
      exact ⟨rfl, B2.out⟩
    have hz2 : (255 : Int) < n2 := by have := hno2.out; omega
    go_wp2_with fail
    go_ret
    exact ⟨rfl, B2.out⟩
  · obtain ⟨n, rfl⟩ : ∃ n : Nat, z = (n : Int) := ⟨z.toNat, by omega⟩
    have hn : n ≤ 16320 := by omega
    have hn2' : n2 ≤ 255 := by omega
    have hz0 : ¬ (n : Int) < 0 := by omega
    have hz1 : ¬ (16320 : Int) < n := by omega
    have hz2 : ¬ (255 : Int) < n2 := by omega
    have kX : Hid (Calls Tryd.prog 6 #[.slice a1 n1 c1, .slice a2 n2 c2, .int .i64 (n : Int)] W1 fun e w' => ∃ v, e = .returned (.tuple #[v, .int .i64 0]) ∧ Own8 W1.heap.size w' v (what l1 l2 n) ∧ Below W1.heap.size W1 w') :=
      expand_own l1 l2 HB1.out (by rw [hn1.out]; omega) HB2.out (by rw [hn2.out]; omega) n hn _ _ W1 (HG.out.grown B1.out) (H1.out.below B1.out) (H2.out.below B1.out)
    have hwl : Hid ((what l1 l2 n).length = n) := what_length _ _ _
    clear hno hlong1 hlong2
    go_wp2_with fail
    refine kX.out.mono ?_
    rintro e W2 ⟨v2, rfl, ho2, g⟩
    have B2 : Hid (Below w.heap.size w W2) := B1.out.trans (g.mono B1.out.size)
    have S2 : Hid (SK .u8 W2 v2 (what l1 l2 n)) := ho2.sk
    obtain ⟨b2, d2, e2⟩ := ho2.sk.shape
    rw [hwl.out] at e2
    subst e2
    clear ho2 g kX B1
    by_cases hbig : 2000 < n
    · have hbig1 : (2000 : Int) < n := by omega
      have hbig2 : ¬ (n : Int) ≤ 2000 := by omega
      go_wp2_with fail
      go_ret
      exact ⟨rfl, B2.out⟩
    · have hbig1 : ¬ (2000 : Int) < n := by omega
      have hbig2 : (n : Int) ≤ 2000 := by omega
      have kR : Hid (Calls Tryd.prog 8 #[.slice a1 n1 c1, .slice a2 n2 c2, .int .i64 (n : Int)] W2 fun e w' => ∃ v, e = .returned v ∧ SK .u8 w' v (what l1 l2 n) ∧ Below W2.heap.size W2 w') :=
        ref_any l1 l2 HB1.out (by rw [hn1.out]; omega) HB2.out (by rw [hn2.out]; omega) n (by omega) _ _ W2 (H1.out.below B2.out) (H2.out.below B2.out)
      go_wp2_with fail
      refine kR.out.mono ?_
      rintro e W3 ⟨v3, rfl, hs3, g⟩
      have B3 : Hid (Below w.heap.size w W3) := B2.out.trans (g.mono B2.out.size)
      have S23 : Hid (SK .u8 W3 (.slice b2 n d2) (what l1 l2 n)) := S2.out.below g
      obtain ⟨b3, d3, e3⟩ := hs3.shape
      rw [hwl.out] at e3
      subst e3
      have k3 : Hid (Calls Tryd.prog 7 #[.slice b2 n d2, .slice b3 n d3] W3 fun e w' => e = .returned (.bool true) ∧ Below W3.heap.size W3 w') := same_sk (what l1 l2 n) (by rw [hwl.out]; omega) _ _ W3 S23.out hs3
      clear hs3 g kR B2 S2 S23
      go_wp2_with fail
      refine k3.out.mono ?_
      rintro e W4 ⟨rfl, g⟩
      have B4 : Hid (Below w.heap.size w W4) := B3.out.trans (g.mono B3.out.size)
      clear g k3
      go_wp2_with fail
      go_ret
      exact ⟨rfl, B4.out⟩
end Go.Proofs.YtkkhpjcfojgggaaDoor.Br.Ex
