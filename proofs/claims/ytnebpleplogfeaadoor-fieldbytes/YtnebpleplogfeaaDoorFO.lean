/-
  The contracts of the laws' own tame, is and awake. Conditions: as each theorem says.
-/
import Derived.Test.YtnebpleplogfeaaDoorFK
import Derived.Test.YtnebpleplogfeaaDoorFL
import Derived.Test.YtnebpleplogfeaaDoorDB
import Derived.Test.YtnebpleplogfeaaDoorDA
import Derived.Test.YtnebpleplogfeaaDoorFH
namespace Go.Proofs.YtnebpleplogfeaaDoor
open Go.RowKit
set_option linter.unusedVariables false
set_option linter.unusedSimpArgs false

theorem idx5_1 (k : IntKind) (v0 v1 v2 v3 v4 : Int) (w : World) : (Instr.index 24 (.agg #[.int k v0, .int k v1, .int k v2, .int k v3, .int k v4]) (.int .i64 1)).run Tryd.prog w = .ok (.int k v1) w := by
  simp [Instr.index, run_underlying Tryd.underlying24, asIntOf, go_sem]
theorem idx5_2 (k : IntKind) (v0 v1 v2 v3 v4 : Int) (w : World) : (Instr.index 24 (.agg #[.int k v0, .int k v1, .int k v2, .int k v3, .int k v4]) (.int .i64 2)).run Tryd.prog w = .ok (.int k v2) w := by
  simp [Instr.index, run_underlying Tryd.underlying24, asIntOf, go_sem]
theorem idx5_3 (k : IntKind) (v0 v1 v2 v3 v4 : Int) (w : World) : (Instr.index 24 (.agg #[.int k v0, .int k v1, .int k v2, .int k v3, .int k v4]) (.int .i64 3)).run Tryd.prog w = .ok (.int k v3) w := by
  simp [Instr.index, run_underlying Tryd.underlying24, asIntOf, go_sem]
theorem idx5_4 (k : IntKind) (v0 v1 v2 v3 v4 : Int) (w : World) : (Instr.index 24 (.agg #[.int k v0, .int k v1, .int k v2, .int k v3, .int k v4]) (.int .i64 4)).run Tryd.prog w = .ok (.int k v4) w := by
  simp [Instr.index, run_underlying Tryd.underlying24, asIntOf, go_sem]
attribute [local go_sem] idx5_0 idx5_1 idx5_2 idx5_3 idx5_4
/-- Words all. -/
def L5.Wds (x : L5) : Prop := Wd x.l0 ∧ Wd x.l1 ∧ Wd x.l2 ∧ Wd x.l3 ∧ Wd x.l4
theorem L5.Tm.wds {x : L5} (h : x.Tm) : x.Wds := by unfold L5.Tm Tame at h; unfold L5.Wds Wd; omega
/-- k elements lie in block g, one behind the other. -/
structure Els (W : World) (g k : Nat) (f : Nat → L5) : Prop where
  lt : g < W.heap.size
  c0 : ∀ i, i < k → W.cell? ⟨g, i * 5, none⟩ = some (.int .u64 (f i).l0)
  c1 : ∀ i, i < k → W.cell? ⟨g, i * 5 + 1, none⟩ = some (.int .u64 (f i).l1)
  c2 : ∀ i, i < k → W.cell? ⟨g, i * 5 + 2, none⟩ = some (.int .u64 (f i).l2)
  c3 : ∀ i, i < k → W.cell? ⟨g, i * 5 + 3, none⟩ = some (.int .u64 (f i).l3)
  c4 : ∀ i, i < k → W.cell? ⟨g, i * 5 + 4, none⟩ = some (.int .u64 (f i).l4)
theorem Els.below {W W' : World} {g k : Nat} {f : Nat → L5} (h : Els W g k f) (hb : Below W.heap.size W W') : Els W' g k f :=
  ⟨Nat.lt_of_lt_of_le h.lt hb.size, fun i hi => (hb.cell (p := ⟨g, i * 5, none⟩) h.lt).trans (h.c0 i hi), fun i hi => (hb.cell (p := ⟨g, i * 5 + 1, none⟩) h.lt).trans (h.c1 i hi), fun i hi => (hb.cell (p := ⟨g, i * 5 + 2, none⟩) h.lt).trans (h.c2 i hi), fun i hi => (hb.cell (p := ⟨g, i * 5 + 3, none⟩) h.lt).trans (h.c3 i hi), fun i hi => (hb.cell (p := ⟨g, i * 5 + 4, none⟩) h.lt).trans (h.c4 i hi)⟩
set_option maxRecDepth 100000 in
set_option maxHeartbeats 8000000 in
theorem tame_any (f : Nat → L5) (k g : Nat) (hk : k ≤ 3) (hf : ∀ i, i < k → (f i).Wds) (w : World) (he : Els w g k f) (b : Bool) (hb : b = true ↔ ∀ i, i < k → (f i).Tm) : Calls Tryd.prog 9 #[.slice (some ⟨g, 0, none⟩) k k] w fun e w' => e = .returned (.bool b) ∧ Below w.heap.size w w' := by
  have HE : Hid (Els w g k f) := he
  have HF : Hid (∀ i, i < k → (f i).Wds) := hf
  have HB : Hid (b = true ↔ ∀ i, i < k → (f i).Tm) := hb
  have hk' : (k : Int) ≤ 3 := by omega
  clear he hf hb
  go_enter Tryd.func9, Tryd.ntmps9
  go_wp2_with fail
  go_loopw [9] (fun y wr => ∃ i : Nat, i ≤ k ∧ y = .int .i64 (i : Int) ∧ Hid (∀ j, j < i → (f j).Tm) ∧ Hid (Below w.heap.size w wr)) (fun y _ => k - (intOf y).toNat)
  case atStart => exact ⟨0, by omega, rfl, fun j hj => by omega, Below.refl _ _⟩
  case round =>
    obtain ⟨i, hi, rfl, hT, hG⟩ := hrel
    obtain ⟨w0, hw0⟩ : ∃ w0, wr = w0 := ⟨_, rfl⟩
    subst hw0
    by_cases hlt : i < k
    · have E := HE.out.below hG.out
      have c0 := E.c0 i hlt
      have c1 := E.c1 i hlt
      have c2 := E.c2 i hlt
      have c3 := E.c3 i hlt
      have c4 := E.c4 i hlt
      have wd := HF.out i hlt
      have hlt' : (i : Int) < (k : Int) := by omega
      have I : Hid (i < k) := hlt
      obtain ⟨⟨x0, x1, x2, x3, x4⟩, hx⟩ : ∃ x, f i = x := ⟨_, rfl⟩
      have HX : Hid (f i = ⟨x0, x1, x2, x3, x4⟩) := hx
      rw [hx] at c0 c1 c2 c3 c4 wd
      unfold L5.Wds Wd at wd
      dsimp only at c0 c1 c2 c3 c4 wd
      have el := E.lt
      clear E hx hlt
      by_cases ht : x0 < 4503599627370496 ∧ x1 < 4503599627370496 ∧ x2 < 4503599627370496 ∧ x3 < 4503599627370496 ∧ x4 < 4503599627370496
      · obtain ⟨t0, t1, t2, t3, t4⟩ := ht
        have TT : Hid ((f i).Tm) := by unfold Hid; rw [HX.out]; unfold L5.Tm Tame; dsimp only; omega
        clear wd
        go_wp2_with fail
        refine wp_unr 6 ?_
        iterate 5 (refine unr_succ ?_; go_wp2_with fail)
        refine unr_succ ?_
        go_wp2_with fail
        go_roundw
        case rel =>
          refine ⟨i + 1, by have := I.out; omega, by go_num, fun j hj => ?_, ?_⟩
          · rcases Nat.lt_or_ge j i with h | h
            · exact hT.out j h
            · obtain rfl : j = i := by omega
              exact TT.out
          · exact hG.out.alloc hG.out.size _
        case measure => have := I.out; simp [intOf]; omega
      · have NB : Hid (b = false) := by
          rcases hbb : b with _ | _
          · rfl
          · exfalso
            have := HB.out.1 hbb i I.out
            rw [HX.out] at this
            unfold L5.Tm Tame at this
            dsimp only at this
            omega
        have nb := NB.out
        subst nb
        have BB : Hid (Below w.heap.size w (wr.alloc (.cells #[.int .u64 x0, .int .u64 x1, .int .u64 x2, .int .u64 x3, .int .u64 x4] 24))) := hG.out.alloc hG.out.size _
        clear HB HX NB
        by_cases t0 : x0 < 4503599627370496
        · by_cases t1 : x1 < 4503599627370496
          · by_cases t2 : x2 < 4503599627370496
            · by_cases t3 : x3 < 4503599627370496
              · have t4 : ¬ x4 < 4503599627370496 := fun h => ht ⟨t0, t1, t2, t3, h⟩
                clear ht wd
                go_wp2_with fail
                refine wp_unr 6 ?_
                iterate 5 (refine unr_succ ?_; go_wp2_with fail)
                go_ret
                exact ⟨rfl, BB.out⟩
              · clear ht wd
                go_wp2_with fail
                refine wp_unr 6 ?_
                iterate 4 (refine unr_succ ?_; go_wp2_with fail)
                go_ret
                exact ⟨rfl, BB.out⟩
            · clear ht wd
              go_wp2_with fail
              refine wp_unr 6 ?_
              iterate 3 (refine unr_succ ?_; go_wp2_with fail)
              go_ret
              exact ⟨rfl, BB.out⟩
          · clear ht wd
            go_wp2_with fail
            refine wp_unr 6 ?_
            iterate 2 (refine unr_succ ?_; go_wp2_with fail)
            go_ret
            exact ⟨rfl, BB.out⟩
        · clear ht wd
          go_wp2_with fail
          refine wp_unr 6 ?_
          refine unr_succ ?_
          go_wp2_with fail
          go_ret
          exact ⟨rfl, BB.out⟩
    · obtain rfl : i = k := by omega
      have bt : b = true := HB.out.2 hT.out
      subst bt
      go_wp2_with fail
      go_ret
      exact ⟨rfl, hG.out⟩

end Go.Proofs.YtnebpleplogfeaaDoor

/-
  The contracts of the laws' own is and awake. Conditions: as each theorem says.
-/
namespace Go.Proofs.YtnebpleplogfeaaDoor
open Go.RowKit
set_option linter.unusedVariables false
set_option linter.unusedSimpArgs false

theorem els_one (W : World) (x : L5) : Els (W.alloc (.cells #[.int .u64 x.l0, .int .u64 x.l1, .int .u64 x.l2, .int .u64 x.l3, .int .u64 x.l4] 24)) W.heap.size 1 (fun _ => x) := by
  refine ⟨by simp, fun i hi => ?_, fun i hi => ?_, fun i hi => ?_, fun i hi => ?_, fun i hi => ?_⟩ <;> (obtain rfl : i = 0 := by omega) <;> simp
set_option maxRecDepth 100000 in
set_option maxHeartbeats 4000000 in
theorem is_yes (x : L5) (hx : x.Tm) (n : Nat) (hn : x.nn = n) (vn : Value) (w : World) (hv : Num w vn n) : Calls Tryd.prog 11 #[.agg #[.int .u64 x.l0, .int .u64 x.l1, .int .u64 x.l2, .int .u64 x.l3, .int .u64 x.l4], vn] w fun e w' => e = .returned (.bool true) ∧ Below w.heap.size w w' := by
  have kt : Hid (∀ W g, Els W g 1 (fun _ => x) → Calls Tryd.prog 9 #[.slice (some ⟨g, 0, none⟩) 1 1] W fun e w' => e = .returned (.bool true) ∧ Below W.heap.size W w') := fun W g h => tame_any (fun _ => x) 1 g (by omega) (fun i hi => hx.wds) W h true ⟨fun _ i hi => hx, fun _ => rfl⟩
  have ko : Hid (∀ W, Calls Tryd.prog 10 #[.agg #[.int .u64 x.l0, .int .u64 x.l1, .int .u64 x.l2, .int .u64 x.l3, .int .u64 x.l4]] W fun e w' => ∃ v, e = .returned v ∧ Num w' v n ∧ Below W.heap.size W w') := by
    intro W; have := ofD_num x hx W; rwa [show (x.num % (P25 : Int)).toNat = n from hn] at this
  have hlt : n < 16777216 ^ 22 := by rw [← hn]; exact Nat.lt_trans x.nn_lt P25_lt22
  have kc : Hid (∀ u v W, Num W u n → Num W v n → Calls Tryd.prog 29 #[u, v] W fun e w' => e = .returned (.int .i64 0) ∧ Below W.heap.size W w') := by
    intro u v W h h'; have := cmp_num n n u v W h h' 22 hlt hlt (by omega); rwa [(ord_zero n n).2 rfl] at this
  have HE : Hid (∀ W : World, Els (W.alloc (.cells #[.int .u64 x.l0, .int .u64 x.l1, .int .u64 x.l2, .int .u64 x.l3, .int .u64 x.l4] 24)) W.heap.size 1 (fun _ => x)) := fun W => els_one W x
  obtain ⟨va, vc, vd, rfl⟩ := hv.shape
  have HV : Hid (Num w (.slice va vc vd) n) := hv
  obtain ⟨⟨x0, x1, x2, x3, x4⟩, hX⟩ : ∃ y, x = y := ⟨_, rfl⟩
  subst hX
  dsimp only at ko HE ⊢
  clear hv hn hlt hx
  go_enter Tryd.func11, Tryd.ntmps11
  go_wp2_with fail
  have e1 : Hid (Els ((w.alloc (.cells #[.int .u64 x0, .int .u64 x1, .int .u64 x2, .int .u64 x3, .int .u64 x4] 24)).alloc (.cells #[.int .u64 x0, .int .u64 x1, .int .u64 x2, .int .u64 x3, .int .u64 x4] 24)) (w.heap.size + 1) 1 (fun _ => ⟨x0, x1, x2, x3, x4⟩)) := by
    have := HE.out (w.alloc (.cells #[.int .u64 x0, .int .u64 x1, .int .u64 x2, .int .u64 x3, .int .u64 x4] 24)); unfold Hid; simpa using this
  refine (kt.out _ _ e1.out).mono ?_
  rintro e v1 ⟨rfl, g⟩
  have A1 : Hid (Bl5 v1 w.heap.size x0 x1 x2 x3 x4) := ((Bl5.new w _ _ _ _ _ _ _ rfl).alloc _).below g
  have b0 : Below w.heap.size w ((w.alloc (.cells #[.int .u64 x0, .int .u64 x1, .int .u64 x2, .int .u64 x3, .int .u64 x4] 24)).alloc (.cells #[.int .u64 x0, .int .u64 x1, .int .u64 x2, .int .u64 x3, .int .u64 x4] 24)) := ((Below.refl _ _).alloc (Nat.le_refl _) _).alloc (by simp) _
  have G1 : Hid (Below w.heap.size w v1) := b0.trans (g.mono b0.size)
  have V1 : Hid (Num v1 (.slice va vc vd) n) := HV.out.below G1.out
  clear g b0 e1 HV HE kt
  obtain ⟨al, a0, a1, a2, a3, a4, af⟩ := A1.out
  go_wp2_with fail
  refine (ko.out _).mono ?_
  rintro e v2 ⟨u, rfl, hu, g⟩
  obtain ⟨ua, uc, ud, rfl⟩ := hu.shape
  have U2 : Hid (Num v2 (.slice ua uc ud) n) := hu
  have V2 : Hid (Num v2 (.slice va vc vd) n) := V1.out.below g
  have G2 : Hid (Below w.heap.size w v2) := G1.out.trans (g.mono G1.out.size)
  clear g hu V1 G1 A1 al a0 a1 a2 a3 a4 af
  go_wp2_with fail
  refine (kc.out _ _ _ U2.out V2.out).mono ?_
  rintro e v3 ⟨rfl, g⟩
  have G3 : Hid (Below w.heap.size w v3) := G2.out.trans (g.mono G2.out.size)
  clear g U2 V2 G2
  go_wp2_with fail
  go_ret
  exact ⟨rfl, G3.out⟩

theorem nn_small (n : Nat) (hn : n < P25) : L5.nn ⟨(n : Int), 0, 0, 0, 0⟩ = n := by
  refine nn_low ?_ hn
  unfold L5.num val5; dsimp only; omega
theorem tm_small (n : Nat) (hn : n < 4503599627370496) : L5.Tm ⟨(n : Int), 0, 0, 0, 0⟩ := by
  unfold L5.Tm Tame; dsimp only; omega
theorem rt1_pm (a : Nat) : rt1 a = pm 252 a ((P25 + 3) / 8) P25 % P25 := (pm_eq P25 252 a ((P25 + 3) / 8) (by decide +kernel)).symm
theorem root_of2 {a x y : Nat} (h1 : rt1 a = x) (hx : x * x % P25 ≠ a) (hy : x * I25 % P25 = y) (hyy : y * y % P25 = a) : rootOk a = true ∧ rootN a = evn y := by
  have h2 : rt2 a = y := by unfold rt2; rw [h1, hy]
  have k1 : ¬ rt1 a * rt1 a % P25 = a := by rw [h1]; exact hx
  have k2 : rt2 a * rt2 a % P25 = a := by rw [h2]; exact hyy
  unfold rootOk rootN
  rw [if_neg k1, if_neg k1, if_pos k2, if_pos k2, h2]
  exact ⟨rfl, rfl⟩
theorem evn_four : evn 57896044618658097711785492504343953926634992332820282019728792003956564819947 = 2 := by decide +kernel
theorem root_four (a : Nat) (h : a = 4) : rootOk a = true ∧ rootN a = 2 := by
  have h1 : rt1 4 = 39362322753415011913614158609977084030892133031847780325488042146247659569504 := (rt1_pm 4).trans (by decide +kernel)
  have := root_of2 (y := 57896044618658097711785492504343953926634992332820282019728792003956564819947) h1 (by decide +kernel) (by decide +kernel) (by decide +kernel)
  rw [h]
  exact ⟨this.1, this.2.trans evn_four⟩
theorem code_four : codeOk 4 1 = true ∧ codeN 4 1 = 2 := by
  have h := code_rat (U := 4) (V := 1) (by decide +kernel) (by decide +kernel)
  have h1 := rat_of (U := 4) (V := 1) (by omega)
  have h2 : ∀ e : Nat, 4 * (1 ^ e % P25) % P25 = 4 := by
    intro e
    rw [Nat.one_pow]
    decide +kernel
  have h3 := root_four _ (h2 (P25 - 2))
  exact ⟨h.1.trans (h1.1.trans h3.1), h.2.trans (h1.2.trans h3.2)⟩
theorem bytes_P : ∀ j, j < 32 → (if j = 0 then (237 : Int) else byteAt (P25 - 1) j) = byteAt P25 j := by decide +kernel
theorem vb_P : vb (byteAt P25) 32 = P25 := by rw [vb_byteAt]; decide +kernel
attribute [local go_sem] ext_cell ext_frozen
set_option maxRecDepth 100000 in
set_option maxHeartbeats 8000000 in
theorem awake4_any (w : World) (hg : Gl w) : Calls Tryd.prog 8 #[] w fun e w' => e = .returned (.bool true) ∧ Below w.heap.size w w' := by
  obtain ⟨r, hr, er, kr⟩ := root_fe ⟨4, 0, 0, 0, 0⟩ ⟨1, 0, 0, 0, 0⟩ (tm_small 4 (by omega)) (tm_small 1 (by omega))
  have n4 : L5.nn ⟨4, 0, 0, 0, 0⟩ = 4 := nn_small 4 (by decide +kernel)
  have n1 : L5.nn ⟨1, 0, 0, 0, 0⟩ = 1 := nn_small 1 (by decide +kernel)
  have n2 : L5.nn ⟨2, 0, 0, 0, 0⟩ = 2 := nn_small 2 (by decide +kernel)
  rw [n4, n1, code_four.1] at kr
  rw [n4, n1, code_four.2] at er
  obtain ⟨s, hs, es, ks⟩ := sub_fe ⟨0, 0, 0, 0, 0⟩ ⟨1, 0, 0, 0, 0⟩ tame_zero (tm_small 1 (by omega))
  have ns : s.nn = P25 - 1 := by
    have := nn_neg ⟨1, 0, 0, 0, 0⟩ s (by rw [es.out]; congr 1)
    rw [n1, Nat.mod_eq_of_lt (by decide +kernel)] at this
    exact this
  have kb : Hid (∀ W, Calls Tryd.prog 38 #[.agg #[.int .u64 s.l0, .int .u64 s.l1, .int .u64 s.l2, .int .u64 s.l3, .int .u64 s.l4]] W fun e w' => ∃ g, e = .returned (.slice (some ⟨g, 0, none⟩) 32 32) ∧ Fil (P25 - 1) g 32 w' ∧ W.heap.size ≤ g ∧ Below W.heap.size W w') := by
    intro W; have := bytes_fe s hs W; rwa [ns] at this
  have ko : Hid (∀ g W, g < W.heap.size → (∀ j, j < 32 → W.cell? ⟨g, 0 + j, none⟩ = some (.int .u8 (byteAt P25 j))) → Calls Tryd.prog 31 #[.slice (some ⟨g, 0, none⟩) 32 32] W fun e w' => e = .returned (.tuple #[.agg #[.int .u64 0, .int .u64 0, .int .u64 0, .int .u64 0, .int .u64 0], .bool false]) ∧ Below W.heap.size W w') := fun g W h h' => of_no (byteAt P25) (byteAt_rng P25) g 0 32 W h h' (by rw [vb_P]; omega)
  have k2 : Hid (∀ W, Calls Tryd.prog 28 #[.agg #[.int .u64 r.l0, .int .u64 r.l1, .int .u64 r.l2, .int .u64 r.l3, .int .u64 r.l4], .agg #[.int .u64 2, .int .u64 0, .int .u64 0, .int .u64 0, .int .u64 0]] W fun e w' => e = .returned (.bool true) ∧ Below W.heap.size W w') := fun W => same_fe r ⟨2, 0, 0, 0, 0⟩ hr.tm (tm_small 2 (by omega)) true (by
      have h1 : r.num % (P25 : Int) = L5.num ⟨2, 0, 0, 0, 0⟩ % (P25 : Int) := by rw [er]; congr 1
      rw [decide_eq_true h1]) W
  have q4 : Hid (∀ W, Calls Tryd.prog 19 #[.int .u32 4] W fun e w' => e = .returned (.agg #[.int .u64 4, .int .u64 0, .int .u64 0, .int .u64 0, .int .u64 0]) ∧ Below W.heap.size W w') := fun W => small_fe 4 (by omega) W
  have q1 : Hid (∀ W, Calls Tryd.prog 19 #[.int .u32 1] W fun e w' => e = .returned (.agg #[.int .u64 1, .int .u64 0, .int .u64 0, .int .u64 0, .int .u64 0]) ∧ Below W.heap.size W w') := fun W => small_fe 1 (by omega) W
  have q2 : Hid (∀ W, Calls Tryd.prog 19 #[.int .u32 2] W fun e w' => e = .returned (.agg #[.int .u64 2, .int .u64 0, .int .u64 0, .int .u64 0, .int .u64 0]) ∧ Below W.heap.size W w') := fun W => small_fe 2 (by omega) W
  have BY : Hid (byteAt (P25 - 1) 0 = 236 ∧ byteAt (P25 - 1) 31 = 127) := by unfold Hid; decide +kernel
  obtain ⟨r0, r1, r2, r3, r4⟩ := r
  obtain ⟨s0, s1, s2, s3, s4⟩ := s
  dsimp only at kr kb ks k2 ⊢
  have KR : Hid (∀ w : World, Gl w → Calls Tryd.prog 24 #[.agg #[.int .u64 4, .int .u64 0, .int .u64 0, .int .u64 0, .int .u64 0], .agg #[.int .u64 1, .int .u64 0, .int .u64 0, .int .u64 0, .int .u64 0]] w fun e w' => e = .returned (.tuple #[.agg #[.int .u64 r0, .int .u64 r1, .int .u64 r2, .int .u64 r3, .int .u64 r4], .bool true]) ∧ Below w.heap.size w w') := kr
  have KS : Hid (∀ w : World, Gl w → Calls Tryd.prog 14 #[.agg #[.int .u64 0, .int .u64 0, .int .u64 0, .int .u64 0, .int .u64 0], .agg #[.int .u64 1, .int .u64 0, .int .u64 0, .int .u64 0, .int .u64 0]] w fun e w' => e = .returned (.agg #[.int .u64 s0, .int .u64 s1, .int .u64 s2, .int .u64 s3, .int .u64 s4]) ∧ Below w.heap.size w w') := ks
  have Z_0 : Hid (Gl w) := hg
  clear kr ks er es hr hs n4 n1 n2 ns hg
  go_enter Tryd.func8, Tryd.ntmps8
  go_wp2_with fail
  refine (q4.out _).mono ?_
  rintro e v1 ⟨rfl, g⟩
  have Z_1 : Hid (Gl v1) := Z_0.out.grown g
  have G_1 : Hid (Below w.heap.size w v1) := g
  clear g Z_0
  go_wp2_with fail
  refine (q1.out _).mono ?_
  rintro e v2 ⟨rfl, g⟩
  have Z_2 : Hid (Gl v2) := Z_1.out.grown g
  have G_2 : Hid (Below w.heap.size w v2) := G_1.out.trans (g.mono G_1.out.size)
  clear g Z_1 G_1
  go_wp2_with fail
  refine (KR.out _ Z_2.out).mono ?_
  rintro e v3 ⟨rfl, g⟩
  have Z_3 : Hid (Gl v3) := Z_2.out.grown g
  have G_3 : Hid (Below w.heap.size w v3) := G_2.out.trans (g.mono G_2.out.size)
  clear g Z_2 G_2
  go_wp2_with fail
  refine calls_at (fun V => Gl V ∧ Bl5 V v3.heap.size r0 r1 r2 r3 r4 ∧ Below w.heap.size w V) ⟨Z_3.out.grown ((Below.refl _ _).alloc (Nat.le_refl _) _), Bl5.new v3 _ _ _ _ _ _ _ rfl, G_3.out.alloc G_3.out.size _⟩ ?_
  rintro v4 ⟨hz, hx, hg⟩
  have Z_4 : Hid (Gl v4) := hz
  have X_4 : Hid (Bl5 v4 v3.heap.size r0 r1 r2 r3 r4) := hx
  have G_4 : Hid (Below w.heap.size w v4) := hg
  clear hz hx hg Z_3 G_3
  refine (q1.out _).mono ?_
  rintro e v5 ⟨rfl, g⟩
  have Z_5 : Hid (Gl v5) := Z_4.out.grown g
  have X_5 : Hid (Bl5 v5 v3.heap.size r0 r1 r2 r3 r4) := X_4.out.below g
  have G_5 : Hid (Below w.heap.size w v5) := G_4.out.trans (g.mono G_4.out.size)
  clear g Z_4 X_4 G_4
  go_wp2_with fail
  refine (KS.out _ Z_5.out).mono ?_
  rintro e v6 ⟨rfl, g⟩
  have Z_6 : Hid (Gl v6) := Z_5.out.grown g
  have X_6 : Hid (Bl5 v6 v3.heap.size r0 r1 r2 r3 r4) := X_5.out.below g
  have G_6 : Hid (Below w.heap.size w v6) := G_5.out.trans (g.mono G_5.out.size)
  clear g Z_5 X_5 G_5
  go_wp2_with fail
  refine (kb.out _).mono ?_
  rintro e v7 ⟨b, rfl, hf, hle, g⟩
  have F_7 : Hid (Fil (P25 - 1) b 32 v7) := hf
  have X_7 : Hid (Bl5 v7 v3.heap.size r0 r1 r2 r3 r4) := X_6.out.below g
  have G_7 : Hid (Below w.heap.size w v7) := G_6.out.trans (g.mono G_6.out.size)
  have hb : Hid (w.heap.size ≤ b ∧ v3.heap.size < b) := ⟨by have := G_6.out.size; omega, by have := X_6.out.lt; omega⟩
  clear g hf hle Z_6 X_6 G_6
  have c0 := F_7.out.cell 0 (by decide)
  rw [if_pos (by decide), BY.out.1] at c0
  have cf := F_7.out.free
  have cl := F_7.out.size
  have w8 : IntKind.u8.wrap (236 + 1) = 237 := by decide
  go_wp2_with fail
  refine calls_at (fun V => (∀ j, j < 32 → V.cell? ⟨b, 0 + j, none⟩ = some (.int .u8 (byteAt P25 j))) ∧ b < V.heap.size ∧ Bl5 V v3.heap.size r0 r1 r2 r3 r4 ∧ Below w.heap.size w V) ⟨?_, ?_, ?_, ?_⟩ ?_
  · intro j hj
    rw [← bytes_P j hj, Nat.zero_add]
    by_cases h : j = 0
    · subst h
      rw [if_pos rfl, World.cell?_setCell_same _ _ _ c0]
    · rw [if_neg h, World.cell?_setCell_other _ _ _ _ (fun p => h (by simpa using (congrArg Addr.off p).symm)), F_7.out.cell j hj, if_pos hj]
  · simpa using cl
  · exact X_7.out.other _ _ _ (by have := hb.out; omega)
  · exact G_7.out.setCell (by have := hb.out; simp; omega) _
  rintro v8 ⟨hc, hl, hx, hg⟩
  have C_8 : Hid (∀ j, j < 32 → v8.cell? ⟨b, 0 + j, none⟩ = some (.int .u8 (byteAt P25 j))) := hc
  have X_8 : Hid (Bl5 v8 v3.heap.size r0 r1 r2 r3 r4) := hx
  have G_8 : Hid (Below w.heap.size w v8) := hg
  have hl8 : Hid (b < v8.heap.size) := hl
  clear hc hx hg hl c0 cf cl F_7 X_7 G_7 w8
  refine (ko.out _ _ hl8.out C_8.out).mono ?_
  rintro e v9 ⟨rfl, g⟩
  have d0 : v9.cell? ⟨b, 0, none⟩ = some (.int .u8 237) := (g.cell (p := ⟨b, 0, none⟩) hl8.out).trans ((C_8.out 0 (by decide)).trans (by rw [← bytes_P 0 (by decide)]; rfl))
  have d31 : v9.cell? ⟨b, 31, none⟩ = some (.int .u8 127) := (g.cell (p := ⟨b, 31, none⟩) hl8.out).trans ((C_8.out 31 (by decide)).trans (by rw [← bytes_P 31 (by decide), if_neg (by decide), BY.out.2]))
  have X_9 : Hid (Bl5 v9 v3.heap.size r0 r1 r2 r3 r4) := X_8.out.below g
  have G_9 : Hid (Below w.heap.size w v9) := G_8.out.trans (g.mono G_8.out.size)
  have hl9 : b < v9.heap.size := Nat.lt_of_lt_of_le hl8.out g.size
  clear g C_8 X_8 G_8 hl8
  go_wp2_with fail
  refine wp_cut (fun V => V.cell? ⟨b, 0, none⟩ = some (.int .u8 237) ∧ V.cell? ⟨b, 31, none⟩ = some (.int .u8 127) ∧ b < V.heap.size ∧ Bl5 V v3.heap.size r0 r1 r2 r3 r4 ∧ Below w.heap.size w V) ⟨?_, ?_, ?_, ?_, ?_⟩ ?_
  · exact (((Below.refl _ _).alloc (Nat.le_refl _) _ : Below v9.heap.size v9 _).cell (p := ⟨b, 0, none⟩) hl9).trans d0
  · exact (((Below.refl _ _).alloc (Nat.le_refl _) _ : Below v9.heap.size v9 _).cell (p := ⟨b, 31, none⟩) hl9).trans d31
  · simp; omega
  · exact X_9.out.alloc _
  · exact G_9.out.alloc G_9.out.size _
  clear d0 d31 hl9 X_9 G_9
  rintro u0 ⟨d0, d31, hl, hx, hg⟩
  obtain ⟨xl, x0, x1, x2, x3, x4, xf⟩ := hx
  have G_u : Hid (Below w.heap.size w u0) := hg
  clear hg hb KR KS kb ko BY
  refine wp_region_ext (by kernel_rfl) (by kernel_rfl) ?_
  repeat (go_big_quiet_step ((first | with_reducible exact calls_ext (q2.out _) | with_reducible exact calls_ext (k2.out _) | fail)))
  refine wpQuiet_nil ?_
  intro W1 hw
  obtain ⟨m, rfl⟩ := hw
  have Hb := ext_below u0 m
  go_wp2_with fail
  go_ret
  exact ⟨rfl, G_u.out.trans (Hb.mono G_u.out.size)⟩

end Go.Proofs.YtnebpleplogfeaaDoor

/-
  Elements that lie one behind the other; what the document's elements, sums and differences are, by an element's number. Conditions: as each theorem says.
-/
namespace Go.Proofs.YtnebpleplogfeaaDoor
open Go.RowKit
set_option linter.unusedVariables false
set_option linter.unusedSimpArgs false

def pickL (x y z : L5) : Nat → L5
  | 0 => x | 1 => y | _ => z
theorem els_two (W : World) (x y : L5) : Els (W.alloc (.cells #[.int .u64 x.l0, .int .u64 x.l1, .int .u64 x.l2, .int .u64 x.l3, .int .u64 x.l4, .int .u64 y.l0, .int .u64 y.l1, .int .u64 y.l2, .int .u64 y.l3, .int .u64 y.l4] 24)) W.heap.size 2 (pickL x y y) := by
  refine ⟨by simp, fun i hi => ?_, fun i hi => ?_, fun i hi => ?_, fun i hi => ?_, fun i hi => ?_⟩ <;> rcases (show i = 0 ∨ i = 1 by omega) with rfl | rfl <;> simp [pickL]
theorem els_three (W : World) (x y z : L5) : Els (W.alloc (.cells #[.int .u64 x.l0, .int .u64 x.l1, .int .u64 x.l2, .int .u64 x.l3, .int .u64 x.l4, .int .u64 y.l0, .int .u64 y.l1, .int .u64 y.l2, .int .u64 y.l3, .int .u64 y.l4, .int .u64 z.l0, .int .u64 z.l1, .int .u64 z.l2, .int .u64 z.l3, .int .u64 z.l4] 24)) W.heap.size 3 (pickL x y z) := by
  refine ⟨by simp, fun i hi => ?_, fun i hi => ?_, fun i hi => ?_, fun i hi => ?_, fun i hi => ?_⟩ <;> rcases (show i = 0 ∨ i = 1 ∨ i = 2 by omega) with rfl | rfl | rfl <;> simp [pickL]
theorem nn_add (x y z : L5) (h : z.num % (P25 : Int) = (x.num + y.num) % (P25 : Int)) : z.nn = (x.nn + y.nn) % P25 := by
  refine L5.nn_of ?_
  rw [h, Int.natCast_add, Int.add_emod, x.nn_mod, y.nn_mod, ← Int.add_emod]
theorem nn_sub (x y z : L5) (h : z.num % (P25 : Int) = (x.num - y.num) % (P25 : Int)) : z.nn = (x.nn + P25 - y.nn) % P25 := by
  refine L5.nn_of ?_
  have hl := y.nn_lt
  rw [h, show ((x.nn + P25 - y.nn : Nat) : Int) = ((x.nn : Int) - (y.nn : Int)) + (P25 : Int) * 1 by omega, Int.add_mul_emod_self_left, Int.sub_emod, x.nn_mod, y.nn_mod, ← Int.sub_emod]
theorem of_nn (x : L5) (hx : x.Tm) (w : World) : Calls Tryd.prog 10 #[.agg #[.int .u64 x.l0, .int .u64 x.l1, .int .u64 x.l2, .int .u64 x.l3, .int .u64 x.l4]] w fun e w' => ∃ v, e = .returned v ∧ Num w' v x.nn ∧ Below w.heap.size w w' := ofD_num x hx w
theorem nn_lt11 (x : L5) : x.nn < 16777216 ^ 11 := Nat.lt_trans x.nn_lt P25_lt11

end Go.Proofs.YtnebpleplogfeaaDoor
