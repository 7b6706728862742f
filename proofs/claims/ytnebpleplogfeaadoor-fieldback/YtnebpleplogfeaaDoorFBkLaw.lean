/-
  The walk of the law FieldBack: for any three elements it returns true and changes no memory that was there, where the package's variables are as the program lays them. Conditions: as each theorem says.
-/
import Derived.Test.YtnebpleplogfeaaDoorFBk1
import Derived.Test.YtnebpleplogfeaaDoorFBk2
import Derived.Test.YtnebpleplogfeaaDoorFBk3
import Derived.Test.YtnebpleplogfeaaDoorFBk4
import Derived.Test.YtnebpleplogfeaaDoorFBk5
import Derived.Test.YtnebpleplogfeaaDoorFBk6
import Derived.Test.YtnebpleplogfeaaDoorFBk7
import Derived.Test.YtnebpleplogfeaaDoorFBk8
namespace Go.Proofs.YtnebpleplogfeaaDoor
open Go.RowKit
set_option linter.unusedVariables false
set_option linter.unusedSimpArgs false

set_option maxRecDepth 100000 in
set_option maxHeartbeats 16000000 in
theorem fbk_any (x y z : L5) (hx : x.Wds) (hy : y.Wds) (hz : z.Wds) (w : World) (hg : Gl w) : Calls Tryd.prog 7 #[.agg #[.int .u64 x.l0, .int .u64 x.l1, .int .u64 x.l2, .int .u64 x.l3, .int .u64 x.l4], .agg #[.int .u64 y.l0, .int .u64 y.l1, .int .u64 y.l2, .int .u64 y.l3, .int .u64 y.l4], .agg #[.int .u64 z.l0, .int .u64 z.l1, .int .u64 z.l2, .int .u64 z.l3, .int .u64 z.l4]] w fun e w' => e = .returned (.bool true) ∧ Below w.heap.size w w' := by
  by_cases ht : x.Tm ∧ y.Tm ∧ z.Tm
  · obtain ⟨tx, ty, tz⟩ := ht
    by_cases h0 : x.nn = 0
    · rcases hk : codeOk x.nn y.nn with _ | _
      · by_cases h2 : codeN (x.nn * x.nn % P25) 1 = x.nn
        · exact fbk_zos x y z tx ty tz h0 hk h2 w hg
        · exact fbk_zot x y z tx ty tz h0 hk h2 w hg
      · by_cases h2 : codeN (x.nn * x.nn % P25) 1 = x.nn
        · exact fbk_zys x y z tx ty tz h0 hk h2 w hg
        · exact fbk_zyt x y z tx ty tz h0 hk h2 w hg
    · rcases hk : codeOk x.nn y.nn with _ | _
      · by_cases h2 : codeN (x.nn * x.nn % P25) 1 = x.nn
        · exact fbk_nos x y z tx ty tz h0 hk h2 w hg
        · exact fbk_not x y z tx ty tz h0 hk h2 w hg
      · by_cases h2 : codeN (x.nn * x.nn % P25) 1 = x.nn
        · exact fbk_nys x y z tx ty tz h0 hk h2 w hg
        · exact fbk_nyt x y z tx ty tz h0 hk h2 w hg
  · have HG : Hid (Gl w) := hg
    have kw : Hid (∀ W, Gl W → Calls Tryd.prog 8 #[] W fun e w' => e = .returned (.bool true) ∧ Below W.heap.size W w') := fun W h => awake4_any W h
    have kt' : ∀ W g, Els W g 3 (pickL x y z) → Calls Tryd.prog 9 #[.slice (some ⟨g, 0, none⟩) 3 3] W fun e w' => e = .returned (.bool false) ∧ Below W.heap.size W w' := by
      intro W g h
      refine tame_any (pickL x y z) 3 g (by omega) (fun i hi => ?_) W h false ⟨fun h => by simp at h, fun h => absurd ⟨h 0 (by omega), h 1 (by omega), h 2 (by omega)⟩ ht⟩
      rcases (show i = 0 ∨ i = 1 ∨ i = 2 by omega) with rfl | rfl | rfl
      · exact hx
      · exact hy
      · exact hz
    have HE : Hid (∀ W : World, Els (W.alloc (.cells #[.int .u64 x.l0, .int .u64 x.l1, .int .u64 x.l2, .int .u64 x.l3, .int .u64 x.l4, .int .u64 y.l0, .int .u64 y.l1, .int .u64 y.l2, .int .u64 y.l3, .int .u64 y.l4, .int .u64 z.l0, .int .u64 z.l1, .int .u64 z.l2, .int .u64 z.l3, .int .u64 z.l4] 24)) W.heap.size 3 (pickL x y z)) := fun W => els_three W x y z
    have gl := hg.lt
    clear hg ht hx hy hz
    obtain ⟨x0, x1, x2, x3, x4⟩ := x
    obtain ⟨y0, y1, y2, y3, y4⟩ := y
    obtain ⟨z0, z1, z2, z3, z4⟩ := z
    dsimp only at kt' HE ⊢
    have Kt : Hid (∀ W g, Els W g 3 (pickL ⟨x0, x1, x2, x3, x4⟩ ⟨y0, y1, y2, y3, y4⟩ ⟨z0, z1, z2, z3, z4⟩) → Calls Tryd.prog 9 #[.slice (some ⟨g, 0, none⟩) 3 3] W fun e w' => e = .returned (.bool false) ∧ Below W.heap.size W w') := kt'
    clear kt'
    go_enter Tryd.func7, Tryd.ntmps7
    go_wp2_with fail
    refine calls_at (fun V => Bl5 V w.heap.size x0 x1 x2 x3 x4 ∧ Bl5 V (w.heap.size + 1) y0 y1 y2 y3 y4 ∧ Bl5 V (w.heap.size + 1 + 1) z0 z1 z2 z3 z4 ∧ Gl V ∧ Below w.heap.size w V) ⟨?_, ?_, ?_, ?_, ?_⟩ ?_
    · (repeat (first | refine Bl5.drew ?_ | refine Bl5.drewN ?_ _ | (refine Bl5.new _ _ _ _ _ _ _ _ ?_; simp; done) | refine Bl5.alloc ?_ _))
    · (repeat (first | refine Bl5.drew ?_ | refine Bl5.drewN ?_ _ | (refine Bl5.new _ _ _ _ _ _ _ _ ?_; simp; done) | refine Bl5.alloc ?_ _))
    · (repeat (first | refine Bl5.drew ?_ | refine Bl5.drewN ?_ _ | (refine Bl5.new _ _ _ _ _ _ _ _ ?_; simp; done) | refine Bl5.alloc ?_ _))
    · refine Gl.grown HG.out ?_
      (repeat (first | exact Below.refl _ _ | refine Below.drew ?_ | refine below_drewN ?_ _ | refine Below.alloc ?_ (by simp <;> omega) _))
    · (repeat (first | exact Below.refl _ _ | refine Below.drew ?_ | refine below_drewN ?_ _ | refine Below.alloc ?_ (by simp <;> omega) _ | refine Below.setCell ?_ (by simp <;> omega) _))
    rintro v1 ⟨k0, k1, k2, k3, k4⟩
    have A_1 : Hid (Bl5 v1 w.heap.size x0 x1 x2 x3 x4) := k0
    have B_1 : Hid (Bl5 v1 (w.heap.size + 1) y0 y1 y2 y3 y4) := k1
    have C_1 : Hid (Bl5 v1 (w.heap.size + 1 + 1) z0 z1 z2 z3 z4) := k2
    have Z_1 : Hid (Gl v1) := k3
    have G_1 : Hid (Below w.heap.size w v1) := k4
    clear k0 k1 k2 k3 k4
    refine (kw.out _ Z_1.out).mono ?_
    rintro e v2 ⟨rfl, g⟩
    have A_2 : Hid (Bl5 v2 w.heap.size x0 x1 x2 x3 x4) := A_1.out.below g
    have B_2 : Hid (Bl5 v2 (w.heap.size + 1) y0 y1 y2 y3 y4) := B_1.out.below g
    have C_2 : Hid (Bl5 v2 (w.heap.size + 1 + 1) z0 z1 z2 z3 z4) := C_1.out.below g
    have Z_2 : Hid (Gl v2) := Z_1.out.grown g
    have G_2 : Hid (Below w.heap.size w v2) := G_1.out.trans (g.mono G_1.out.size)
    clear A_1 B_1 C_1 Z_1 G_1 g
    obtain ⟨cal, ca0, ca1, ca2, ca3, ca4, caf⟩ := A_2.out
    obtain ⟨cbl, cb0, cb1, cb2, cb3, cb4, cbf⟩ := B_2.out
    obtain ⟨ccl, cc0, cc1, cc2, cc3, cc4, ccf⟩ := C_2.out
    go_wp2_with fail
    clear cal ca0 ca1 ca2 ca3 ca4 caf cbl cb0 cb1 cb2 cb3 cb4 cbf ccl cc0 cc1 cc2 cc3 cc4 ccf
    refine calls_at (fun V => Els V v2.heap.size 3 (pickL ⟨x0, x1, x2, x3, x4⟩ ⟨y0, y1, y2, y3, y4⟩ ⟨z0, z1, z2, z3, z4⟩) ∧ Bl5 V w.heap.size x0 x1 x2 x3 x4 ∧ Bl5 V (w.heap.size + 1) y0 y1 y2 y3 y4 ∧ Bl5 V (w.heap.size + 1 + 1) z0 z1 z2 z3 z4 ∧ Gl V ∧ Below w.heap.size w V) ⟨HE.out v2, A_2.out.alloc _, B_2.out.alloc _, C_2.out.alloc _, Z_2.out.grown ((Below.refl _ _).alloc (Nat.le_refl _) _), G_2.out.alloc G_2.out.size _⟩ ?_
    rintro v3 ⟨hE, hA, hB, hC, hZ, hG⟩
    have A_3 : Hid (Bl5 v3 w.heap.size x0 x1 x2 x3 x4) := hA
    have B_3 : Hid (Bl5 v3 (w.heap.size + 1) y0 y1 y2 y3 y4) := hB
    have C_3 : Hid (Bl5 v3 (w.heap.size + 1 + 1) z0 z1 z2 z3 z4) := hC
    have Z_3 : Hid (Gl v3) := hZ
    have G_3 : Hid (Below w.heap.size w v3) := hG
    have hE' : Hid (Els v3 v2.heap.size 3 (pickL ⟨x0, x1, x2, x3, x4⟩ ⟨y0, y1, y2, y3, y4⟩ ⟨z0, z1, z2, z3, z4⟩)) := hE
    clear hE hA hB hC hZ hG A_2 B_2 C_2 Z_2 G_2
    refine (Kt.out _ _ hE'.out).mono ?_
    rintro e v4 ⟨rfl, g⟩
    have A_4 : Hid (Bl5 v4 w.heap.size x0 x1 x2 x3 x4) := A_3.out.below g
    have B_4 : Hid (Bl5 v4 (w.heap.size + 1) y0 y1 y2 y3 y4) := B_3.out.below g
    have C_4 : Hid (Bl5 v4 (w.heap.size + 1 + 1) z0 z1 z2 z3 z4) := C_3.out.below g
    have Z_4 : Hid (Gl v4) := Z_3.out.grown g
    have G_4 : Hid (Below w.heap.size w v4) := G_3.out.trans (g.mono G_3.out.size)
    clear A_3 B_3 C_3 Z_3 G_3 g
    clear hE'
    go_wp2_with fail
    go_ret
    exact ⟨rfl, G_4.out⟩

end Go.Proofs.YtnebpleplogfeaaDoor
