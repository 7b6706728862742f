/-
  The contracts of the laws' own tame, is and awake. Conditions: as each theorem says.
-/
import Derived.Test.YtnebpleplogfeaaDoorFK
import Derived.Test.YtnebpleplogfeaaDoorFN
import Derived.Test.YtnebpleplogfeaaDoorDB
namespace Go.Proofs.YtnebpleplogfeaaDoor
open Go.RowKit
set_option linter.unusedVariables false
set_option linter.unusedSimpArgs false

theorem idx5_1 (k : IntKind) (v0 v1 v2 v3 v4 : Int) (w : World) : (Instr.index 24 (.agg #[.int k v0, .int k v1, .int k v2, .int k v3, .int k v4]) (.int .i64 1)).run Tryd.prog w = .ok (.int k v1) w := by
  simp [Instr.index, run_underlying Tryd.underlying24, asIntOf, go_sem]
theorem idx5_2 (k : IntKind) (v0 v1 v2 v3 v4 : Int) (w : World) : (Instr.index 24 (.agg #[.int k v0, .int k v1, .int k v2, .int k v3, .int k v4]) (.int .i64 2)).run Tryd.prog w = .ok (.int k v2) w := by
  simp [Instr.index, run_underlying Tryd.underlying24, asIntOf, go_sem]
theorem idx5_3 (k : IntKind) (v0 v1 v2 v3 v4 : Int) (w : World) : (Instr.index 24 (.agg #[.int k v0, .int k v1, .int k v2, .int k v3, .int k v4]) (.int .i64 3)).run Tryd.prog w = .ok (.int k v3) w := by
  simp [Instr.index, run_underlying Tryd.underlying24, asIntOf, go_sem]
theorem idx5_4 (k : IntKind) (v0 v1 v2 v3 v4 : Int) (w : World) : (Instr.index 24 (.agg #[.int k v0, .int k v1, .int k v2, .int k v3, .int k v4]) (.int .i64 4)).run Tryd.prog w = .ok (.int k v4) w := by
  simp [Instr.index, run_underlying Tryd.underlying24, asIntOf, go_sem]
attribute [local go_sem] idx5_0 idx5_1 idx5_2 idx5_3 idx5_4
/-- Words all. -/
def L5.Wds (x : L5) : Prop := Wd x.l0 ∧ Wd x.l1 ∧ Wd x.l2 ∧ Wd x.l3 ∧ Wd x.l4
theorem L5.Tm.wds {x : L5} (h : x.Tm) : x.Wds := by unfold L5.Tm Tame at h; unfold L5.Wds Wd; omega
/-- k elements lie in block g, one behind the other. -/
structure Els (W : World) (g k : Nat) (f : Nat → L5) : Prop where
  lt : g < W.heap.size
  c0 : ∀ i, i < k → W.cell? ⟨g, i * 5, none⟩ = some (.int .u64 (f i).l0)
  c1 : ∀ i, i < k → W.cell? ⟨g, i * 5 + 1, none⟩ = some (.int .u64 (f i).l1)
  c2 : ∀ i, i < k → W.cell? ⟨g, i * 5 + 2, none⟩ = some (.int .u64 (f i).l2)
  c3 : ∀ i, i < k → W.cell? ⟨g, i * 5 + 3, none⟩ = some (.int .u64 (f i).l3)
  c4 : ∀ i, i < k → W.cell? ⟨g, i * 5 + 4, none⟩ = some (.int .u64 (f i).l4)
theorem Els.below {W W' : World} {g k : Nat} {f : Nat → L5} (h : Els W g k f) (hb : Below W.heap.size W W') : Els W' g k f :=
  ⟨Nat.lt_of_lt_of_le h.lt hb.size, fun i hi => (hb.cell (p := ⟨g, i * 5, none⟩) h.lt).trans (h.c0 i hi), fun i hi => (hb.cell (p := ⟨g, i * 5 + 1, none⟩) h.lt).trans (h.c1 i hi), fun i hi => (hb.cell (p := ⟨g, i * 5 + 2, none⟩) h.lt).trans (h.c2 i hi), fun i hi => (hb.cell (p := ⟨g, i * 5 + 3, none⟩) h.lt).trans (h.c3 i hi), fun i hi => (hb.cell (p := ⟨g, i * 5 + 4, none⟩) h.lt).trans (h.c4 i hi)⟩
set_option maxRecDepth 100000 in
set_option maxHeartbeats 8000000 in
theorem tame_any (f : Nat → L5) (k g : Nat) (hk : k ≤ 3) (hf : ∀ i, i < k → (f i).Wds) (w : World) (he : Els w g k f) (b : Bool) (hb : b = true ↔ ∀ i, i < k → (f i).Tm) : Calls Tryd.prog 9 #[.slice (some ⟨g, 0, none⟩) k k] w fun e w' => e = .returned (.bool b) ∧ Below w.heap.size w w' := by
  have HE : Hid (Els w g k f) := he
  have HF : Hid (∀ i, i < k → (f i).Wds) := hf
  have HB : Hid (b = true ↔ ∀ i, i < k → (f i).Tm) := hb
  have hk' : (k : Int) ≤ 3 := by omega
  clear he hf hb
  go_enter Tryd.func9, Tryd.ntmps9
  go_wp2_with fail
  go_loopw [9] (fun y wr => ∃ i : Nat, i ≤ k ∧ y = .int .i64 (i : Int) ∧ Hid (∀ j, j < i → (f j).Tm) ∧ Hid (Below w.heap.size w wr)) (fun y _ => k - (intOf y).toNat)
  case atStart => exact ⟨0, by omega, rfl, fun j hj => by omega, Below.refl _ _⟩
  case round =>
    obtain ⟨i, hi, rfl, hT, hG⟩ := hrel
    obtain ⟨w0, hw0⟩ : ∃ w0, wr = w0 := ⟨_, rfl⟩
    subst hw0
    by_cases hlt : i < k
    · have E := HE.out.below hG.out
      have c0 := E.c0 i hlt
      have c1 := E.c1 i hlt
      have c2 := E.c2 i hlt
      have c3 := E.c3 i hlt
      have c4 := E.c4 i hlt
      have wd := HF.out i hlt
      have hlt' : (i : Int) < (k : Int) := by omega
      have I : Hid (i < k) := hlt
      obtain ⟨⟨x0, x1, x2, x3, x4⟩, hx⟩ : ∃ x, f i = x := ⟨_, rfl⟩
      have HX : Hid (f i = ⟨x0, x1, x2, x3, x4⟩) := hx
      rw [hx] at c0 c1 c2 c3 c4 wd
      unfold L5.Wds Wd at wd
      dsimp only at c0 c1 c2 c3 c4 wd
      have el := E.lt
      clear E hx hlt
      by_cases ht : x0 < 4503599627370496 ∧ x1 < 4503599627370496 ∧ x2 < 4503599627370496 ∧ x3 < 4503599627370496 ∧ x4 < 4503599627370496
      · obtain ⟨t0, t1, t2, t3, t4⟩ := ht
        have TT : Hid ((f i).Tm) := by unfold Hid; rw [HX.out]; unfold L5.Tm Tame; dsimp only; omega
        clear wd
        go_wp2_with fail
        refine wp_unr 6 ?_
        iterate 5 (refine unr_succ ?_; go_wp2_with fail)
        refine unr_succ ?_
        go_wp2_with fail
        go_roundw
        case rel =>
          refine ⟨i + 1, by have := I.out; omega, by go_num, fun j hj => ?_, ?_⟩
          · rcases Nat.lt_or_ge j i with h | h
            · exact hT.out j h
            · obtain rfl : j = i := by omega
              exact TT.out
          · exact hG.out.alloc hG.out.size _
        case measure => have := I.out; simp [intOf]; omega
      · have NB : Hid (b = false) := by
          rcases hbb : b with _ | _
          · rfl
          · exfalso
            have := HB.out.1 hbb i I.out
            rw [HX.out] at this
            unfold L5.Tm Tame at this
            dsimp only at this
            omega
        have nb := NB.out
        subst nb
        have BB : Hid (Below w.heap.size w (wr.alloc (.cells #[.int .u64 x0, .int .u64 x1, .int .u64 x2, .int .u64 x3, .int .u64 x4] 24))) := hG.out.alloc hG.out.size _
        clear HB HX NB
        by_cases t0 : x0 < 4503599627370496
        · by_cases t1 : x1 < 4503599627370496
          · by_cases t2 : x2 < 4503599627370496
            · by_cases t3 : x3 < 4503599627370496
              · have t4 : ¬ x4 < 4503599627370496 := fun h => ht ⟨t0, t1, t2, t3, h⟩
                clear ht wd
                go_wp2_with fail
                refine wp_unr 6 ?_
                iterate 5 (refine unr_succ ?_; go_wp2_with fail)
                go_ret
                exact ⟨rfl, BB.out⟩
              · clear ht wd
                go_wp2_with fail
                refine wp_unr 6 ?_
                iterate 4 (refine unr_succ ?_; go_wp2_with fail)
                go_ret
                exact ⟨rfl, BB.out⟩
            · clear ht wd
              go_wp2_with fail
              refine wp_unr 6 ?_
              iterate 3 (refine unr_succ ?_; go_wp2_with fail)
              go_ret
              exact ⟨rfl, BB.out⟩
          · clear ht wd
            go_wp2_with fail
            refine wp_unr 6 ?_
            iterate 2 (refine unr_succ ?_; go_wp2_with fail)
            go_ret
            exact ⟨rfl, BB.out⟩
        · clear ht wd
          go_wp2_with fail
          refine wp_unr 6 ?_
          refine unr_succ ?_
          go_wp2_with fail
          go_ret
          exact ⟨rfl, BB.out⟩
    · obtain rfl : i = k := by omega
      have bt : b = true := HB.out.2 hT.out
      subst bt
      go_wp2_with fail
      go_ret
      exact ⟨rfl, hG.out⟩

end Go.Proofs.YtnebpleplogfeaaDoor
