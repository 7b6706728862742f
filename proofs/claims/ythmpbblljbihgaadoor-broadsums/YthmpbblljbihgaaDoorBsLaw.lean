/-
  The law BroadSums walked: any bytes have the document's sum. Conditions: as the theorem says.
-/
import Derived.Test.YthmpbblljbihgaaDoorBnC
namespace Go.Proofs.YthmpbblljbihgaaDoor.Br
open Go.RowKit
set_option linter.unusedVariables false
set_option linter.unusedSimpArgs false

theorem sums_any (v : Value) (l : List Nat) (w : World) (hg : Gl6 w) (hs : SK .u8 w v l) (hb : Bb l) :
    Calls Tryd.prog 3 #[v] w fun e w' => e = .returned (.bool true) ∧ Below w.heap.size w w' := by
  have kW : Hid (Calls Tryd.prog 6 #[] w fun e w' => e = .returned (.bool true) ∧ Below w.heap.size w w') := awake6 w hg
  obtain ⟨a, c, e⟩ := hs.shape
  subst e
  have HS : Hid (SK .u8 w (.slice a l.length c) l) := hs
  have HG : Hid (Gl6 w) := hg
  have HB : Hid (Bb l) := hb
  obtain ⟨n, hn⟩ : ∃ n, Hid (l.length = n) := ⟨_, rfl⟩
  rw [hn.out] at HS ⊢
  clear hs hg hb
  go_enter Tryd.func3, Tryd.ntmps3
  go_wp2_with fail
  refine kW.out.mono ?_
  rintro e W1 ⟨rfl, hB1⟩
  have B1 : Hid (Below w.heap.size w W1) := hB1
  clear hB1 kW
  by_cases hbig : 2000 < n
  · have hbig' : (2000 : Int) < n := by omega
    go_wp2_with fail
    go_ret
    exact ⟨rfl, B1.out⟩
  · have hbig' : ¬ (2000 : Int) < n := by omega
    have k1 : Hid (Calls Tryd.prog 8 #[.slice a n c] W1 fun e w' => ∃ v', e = .returned v' ∧ SK .u8 w' v' (sumB l) ∧ Below W1.heap.size W1 w') := sum_any l HB.out (by rw [hn.out]; omega) _ W1 (HG.out.grown B1.out) (HS.out.below B1.out)
    go_wp2_with fail
    refine k1.out.mono ?_
    rintro e W2 ⟨v2, rfl, hv2, g⟩
    have B2 : Hid (Below w.heap.size w W2) := B1.out.trans (g.mono B1.out.size)
    have V2 : Hid (SK .u8 W2 v2 (sumB l)) := hv2
    obtain ⟨a2, c2, e2⟩ := hv2.shape
    subst e2
    have k2 : Hid (Calls Tryd.prog 9 #[.slice a n c] W2 fun e w' => ∃ v', e = .returned v' ∧ SK .u8 w' v' (sumB l) ∧ Below W2.heap.size W2 w') := refsum_any l HB.out (by rw [hn.out]; omega) _ W2 (HS.out.below B2.out)
    clear hv2 g k1 B1
    go_wp2_with fail
    refine k2.out.mono ?_
    rintro e W3 ⟨v3, rfl, hv3, g⟩
    have B3 : Hid (Below w.heap.size w W3) := B2.out.trans (g.mono B2.out.size)
    obtain ⟨a3, c3, e3⟩ := hv3.shape
    subst e3
    have k3 : Hid (Calls Tryd.prog 7 #[.slice a2 (sumB l).length c2, .slice a3 (sumB l).length c3] W3 fun e w' => e = .returned (.bool true) ∧ Below W3.heap.size W3 w') := same_sk (sumB l) (by rw [sumB_length]; omega) _ _ W3 (V2.out.below g) hv3
    clear hv3 g k2 B2 V2
    go_wp2_with fail
    refine k3.out.mono ?_
    rintro e W4 ⟨rfl, g⟩
    have B4 : Hid (Below w.heap.size w W4) := B3.out.trans (g.mono B3.out.size)
    clear g k3
    go_wp2_with fail
    go_ret
    exact ⟨rfl, B4.out⟩
end Go.Proofs.YthmpbblljbihgaaDoor.Br
