/-
  The law MacKeys walked: noughts behind a short key, and the sum in the place of a long one, make no difference to the sums under it; nor do pieces. Conditions: as the theorems say.
-/
import Derived.Test.YteoaiamfpefcbaaDoorMcV
import Derived.Test.YteoaiamfpefcbaaDoorMcD
import Derived.Deep.RegionHeld3
namespace Go.Proofs.YteoaiamfpefcbaaDoor
open Go.RowKit
set_option linter.unusedVariables false
set_option linter.unusedSimpArgs false

theorem mkeys_far (v1 v2 : Value) (key b : List Nat) (z : Nat) (w : World) (hg : Gl5 w) (h1 : SK .u8 w v1 key) (h2 : SK .u8 w v2 b) (hbig : 1000 < key.length ∨ 1000 < b.length) :
    Calls Tryd.prog 4 #[v1, v2, .int .u8 (z : Int)] w fun e w' => e = .returned (.bool true) ∧ Below w.heap.size w w' := by
  have kW : Hid (Calls Tryd.prog 5 #[] w fun e w' => e = .returned (.bool true) ∧ Below w.heap.size w w') := awake7 w hg
  obtain ⟨a1, c1, e1⟩ := h1.shape
  subst e1
  obtain ⟨a2, c2, e2⟩ := h2.shape
  subst e2
  obtain ⟨n1, hn1⟩ : ∃ n, key.length = n := ⟨_, rfl⟩
  obtain ⟨n2, hn2⟩ : ∃ n, b.length = n := ⟨_, rfl⟩
  rw [hn1, hn2] at hbig ⊢
  clear h1 h2 hg hn1 hn2
  go_enter Tryd.func4, Tryd.ntmps4
  go_wp2_with fail
  refine kW.out.mono ?_
  rintro e W1 ⟨rfl, hB1⟩
  have B1 : Hid (Below w.heap.size w W1) := hB1
  clear hB1 kW
  by_cases hbig1 : 1000 < n1
  · have hbig1' : (1000 : Int) < n1 := by omega
    go_wp2_with fail
    go_ret
    exact ⟨rfl, B1.out⟩
  · have hbig1' : ¬ (1000 : Int) < n1 := by omega
    have hbig2' : (1000 : Int) < n2 := by omega
    go_wp2_with fail
    go_ret
    exact ⟨rfl, B1.out⟩
theorem ll_below' {W W' : World} {v : Value} {ls : List (List Nat)} (h : LL W v ls) (hb : Below W.heap.size W W') : LL W' v ls := by
  obtain ⟨a, c, e, hc, k⟩ := h
  refine ⟨a, c, e, hc, fun j hj => ?_⟩
  obtain ⟨b, o, u, h1, h2, h3, h4, h5⟩ := k j hj
  exact ⟨b, o, u, h1, Nat.lt_of_lt_of_le h2 hb.size, (hb.cell (p := ⟨b, o + j, none⟩) h2).trans h3, h4.below hb, h5⟩
theorem first_slice (a : Option Addr) (n c h : Nat) (h1 : h ≤ n) (h2 : n ≤ c) (W : World) : (Instr.sliceAt 22 (.slice a n c) none (some (.int .i64 (h : Int))) none).run Tryd.prog W = .ok (.slice a h c) W := by
  have k0 : (0 : Int) ≤ h := by omega
  have k1 : (h : Int) ≤ c := by omega
  simp [go_sem, k0, k1]
theorem last_slice (a : Option Addr) (n c h : Nat) (h1 : h ≤ n) (h2 : n ≤ c) (W : World) : (Instr.sliceAt 22 (.slice a n c) (some (.int .i64 (h : Int))) none none).run Tryd.prog W = .ok (cutV a h n c) W := by
  have k0 : (0 : Int) ≤ h := by omega
  have k1 : (h : Int) ≤ n := by omega
  simp [cutV, go_sem, k0, k1]
theorem own8_empty (w : World) : Own8 w.heap.size (w.alloc (.cells #[] 5)) (.slice (some ⟨w.heap.size, 0, none⟩) 0 0) [] := by
  refine ⟨rfl, Or.inr ⟨w.heap.size, 0, #[], rfl, Nat.le_refl _, ?_, by simp, by unfold maxLen; omega, by simp, rfl⟩⟩
  show (w.heap.push _)[w.heap.size]? = _
  simp
theorem cat_one (b : List Nat) : cat [b] 1 = b := by simp [cat]
theorem cat_cut (b : List Nat) (h : Nat) : cat [b.take h, [], b.drop h] 3 = b := by simp [cat]
theorem mac_one (key m : List Nat) (hbk : Bb key) (hk : key.length ≤ 10000) (hbm : Bb m) (hm : m.length ≤ 10000) (v1 v2 : Value) (w : World) (hg : Gl5 w) (h1 : SK .u8 w v1 key) (h2 : SK .u8 w v2 m) (W : World) (hW : Below (w.alloc (.cells #[v2] 22)).heap.size (w.alloc (.cells #[v2] 22)) W) :
    Calls Tryd.prog 7 #[v1, .slice (some ⟨w.heap.size, 0, none⟩) 1 1] W fun e w' => ∃ v, e = .returned v ∧ SK .u8 w' v (macB key m) ∧ Below w.heap.size w w' := by
  have g : Below w.heap.size w (w.alloc (.cells #[v2] 22)) := (Below.refl _ _).alloc (Nat.le_refl _) _
  have hL : LL (w.alloc (.cells #[v2] 22)) (.slice (some ⟨w.heap.size, 0, none⟩) 1 1) [m] :=
    ll_new w [v2] [m] _ _ 1 rfl rfl rfl (fun j hj => by
      match j, hj with
      | 0, _ => exact ⟨_, rfl, h2, hbm⟩)
  have e : cat [m] [m].length = m := cat_one m
  have h := mac_any key hbk (by omega) v1 [m] (by simp) (by rw [e]; omega) _ W (hg.grown (g.trans (hW.mono g.size))) (h1.below (g.trans (hW.mono g.size))) (ll_below' hL hW)
  rw [e] at h
  exact h.mono fun e w' ⟨v, h1, h2, h3⟩ => ⟨v, h1, h2, (g.trans (hW.mono g.size)).trans (h3.mono (g.trans (hW.mono g.size)).size)⟩
theorem mac_three (key m : List Nat) (t : Nat) (hbk : Bb key) (hk : key.length ≤ 10000) (hbm : Bb m) (hm : m.length ≤ 10000) (v1 v2 v3 v4 : Value) (w : World) (hg : Gl5 w) (h1 : SK .u8 w v1 key) (h2 : SK .u8 w v2 (m.take t)) (h3 : SK .u8 w v3 []) (h4 : SK .u8 w v4 (m.drop t)) (W : World) (hW : Below (w.alloc (.cells #[v2, v3, v4] 22)).heap.size (w.alloc (.cells #[v2, v3, v4] 22)) W) :
    Calls Tryd.prog 7 #[v1, .slice (some ⟨w.heap.size, 0, none⟩) 3 3] W fun e w' => ∃ v, e = .returned v ∧ SK .u8 w' v (macB key m) ∧ Below w.heap.size w w' := by
  have g : Below w.heap.size w (w.alloc (.cells #[v2, v3, v4] 22)) := (Below.refl _ _).alloc (Nat.le_refl _) _
  have hL : LL (w.alloc (.cells #[v2, v3, v4] 22)) (.slice (some ⟨w.heap.size, 0, none⟩) 3 3) [m.take t, [], m.drop t] :=
    ll_new w [v2, v3, v4] [m.take t, [], m.drop t] _ _ 3 rfl rfl rfl (fun j hj => by
      match j, hj with
      | 0, _ => exact ⟨_, rfl, h2, hbm.take t⟩
      | 1, _ => exact ⟨_, rfl, h3, Bb.nil⟩
      | 2, _ => exact ⟨_, rfl, h4, hbm.drop t⟩)
  have e : cat [m.take t, [], m.drop t] [m.take t, [], m.drop t].length = m := cat_cut m t
  have h := mac_any key hbk (by omega) v1 [m.take t, [], m.drop t] (by simp) (by rw [e]; omega) _ W (hg.grown (g.trans (hW.mono g.size))) (h1.below (g.trans (hW.mono g.size))) (ll_below' hL hW)
  rw [e] at h
  exact h.mono fun e w' ⟨v, h1, h2, h3⟩ => ⟨v, h1, h2, (g.trans (hW.mono g.size)).trans (h3.mono (g.trans (hW.mono g.size)).size)⟩

set_option maxRecDepth 100000 in
set_option maxHeartbeats 4000000 in
theorem mkeys_near_b (v1 v2 : Value) (key b : List Nat) (z : Nat) (w : World) (hg : Gl5 w) (h1 : SK .u8 w v1 key) (h2 : SK .u8 w v2 b) (hb1 : Bb key) (hb2 : Bb b) (hz : z < 256)
    (hn1 : key.length ≤ 1000) (hn2 : b.length ≤ 1000) (hcut : ∀ a c, v2 = .slice a b.length c → c ≠ b.length / 2) :
    Calls Tryd.prog 4 #[v1, v2, .int .u8 (z : Int)] w fun e w' => e = .returned (.bool true) ∧ Below w.heap.size w w' := by
  have kW : Hid (Calls Tryd.prog 5 #[] w fun e w' => e = .returned (.bool true) ∧ Below w.heap.size w w') := awake7 w hg
  obtain ⟨a1, c1, e1⟩ := h1.shape
  subst e1
  obtain ⟨a2, c2, e2⟩ := h2.shape
  subst e2
  have hne0 := hcut _ _ rfl
  have hca0 := h2.cap.1
  have H1 : Hid (SK .u8 w (.slice a1 key.length c1) key) := h1
  have H2 : Hid (SK .u8 w (.slice a2 b.length c2) b) := h2
  have HB1 : Hid (Bb key) := hb1
  have HB2 : Hid (Bb b) := hb2
  obtain ⟨n1, hq1⟩ : ∃ n, Hid (key.length = n) := ⟨_, rfl⟩
  obtain ⟨n2, hq2⟩ : ∃ n, Hid (b.length = n) := ⟨_, rfl⟩
  rw [hq1.out] at hn1 H1 ⊢
  rw [hq2.out] at hn2 H2 hne0 hca0 ⊢
  have HG : Hid (Gl5 w) := hg
  have hn1' : ¬ (1000 : Int) < n1 := by omega
  have hn2' : ¬ (1000 : Int) < n2 := by omega
  have hMl : Hid ((macB key b).length = 32) := macB_length _ _
  clear h1 h2 hg hb1 hb2 hcut
  obtain ⟨h, hh⟩ : ∃ h : Nat, h = n2 / 2 := ⟨_, rfl⟩
  rw [← hh] at hne0
  have hh2 : (n2 : Int) / 2 = (h : Int) := by omega
  have hh4 : IntKind.i64.wrap (h : Int) = (h : Int) := wrapI _ (by omega) (by omega)
  have hhn : h ≤ n2 := by omega
  have hb0 : (0 : Int) ≤ h := by omega
  have hb1' : (h : Int) ≤ n2 := by omega
  have hb2' : (h : Int) ≤ c2 := by omega
  have hb3' : h ≤ c2 := by omega
  clear hh
  go_enter Tryd.func4, Tryd.ntmps4
  go_wp2_with fail
  refine kW.out.mono ?_
  rintro e W1 ⟨rfl, hB1⟩
  have B1 : Hid (Below w.heap.size w W1) := hB1
  clear hB1 kW
  have k1 : Hid (Calls Tryd.prog 7 #[.slice a1 n1 c1, .slice (some ⟨W1.heap.size, 0, none⟩) 1 1] (W1.alloc (.cells #[.slice a2 n2 c2] 22)) fun e w' => ∃ v, e = .returned v ∧ SK .u8 w' v (macB key b) ∧ Below W1.heap.size W1 w') :=
    mac_one key b HB1.out (by rw [hq1.out]; omega) HB2.out (by rw [hq2.out]; omega) _ _ W1 (HG.out.grown B1.out) (H1.out.below B1.out) (H2.out.below B1.out) _ (Below.refl _ _)
  go_wp2_with fail
  refine k1.out.mono ?_
  rintro e W2 ⟨v2, rfl, hs2, g2⟩
  have T2 : Hid (SK .u8 W2 v2 (macB key b)) := hs2
  have B2 : Hid (Below w.heap.size w W2) := B1.out.trans (g2.mono B1.out.size)
  obtain ⟨wa, wc, we⟩ := hs2.shape
  rw [hMl.out] at we
  subst we
  clear hs2 g2 k1 B1
  have hB2' := B2.out
  obtain ⟨base, hbase⟩ : ∃ base, Hid (W2.heap.size = base) := ⟨_, rfl⟩
  have O2 : Hid (Own8 base (W2.alloc (.cells #[] 5)) (.slice (some ⟨W2.heap.size, 0, none⟩) 0 0) []) := by unfold Hid; rw [← hbase.out]; exact own8_empty W2
  have g2 : Below W2.heap.size W2 (W2.alloc (.cells #[] 5)) := (Below.refl _ _).alloc (Nat.le_refl _) _
  have Z2 : Hid (base ≤ (W2.alloc (.cells #[] 5)).heap.size) := by unfold Hid; rw [← hbase.out]; exact g2.size
  have hwb : Hid (w.heap.size ≤ base) := by unfold Hid; rw [← hbase.out]; exact B2.out.size
  have BA : Hid (Below w.heap.size w (W2.alloc (.cells #[] 5))) := B2.out.trans (g2.mono B2.out.size)
  have K2 : Hid (SK .u8 (W2.alloc (.cells #[] 5)) (.slice a1 n1 c1) key) := H1.out.below BA.out
  have TA : Hid (SK .u8 (W2.alloc (.cells #[] 5)) (.slice wa 32 wc) (macB key b)) := T2.out.below g2
  have hkl : Hid (key.length ≤ 1000000) := by unfold Hid; rw [hq1.out]; omega
  have hwl : Hid (∀ W, Below base (W2.alloc (.cells #[] 5)) W → SK .u8 W (.slice wa 32 wc) (macB key b)) := by
    intro W hW
    exact T2.out.below (by rw [hbase.out]; exact Below.trans (by rw [← hbase.out]; exact g2) hW)
  clear hB2' g2 B2 T2 TA
  have hz' : IntKind.i64.wrap (z : Int) = (z : Int) := wrapI _ (by omega) (by omega)
  have hz3 : (z : Int) < 256 := by omega
  obtain ⟨q, hqk⟩ : ∃ q, Hid (ks key = q) := ⟨_, rfl⟩
  have hqb : Hid (Bb q) := by unfold Hid; rw [← hqk.out]; exact ks_bb key HB1.out
  obtain ⟨m, hqm⟩ : ∃ m, Hid (q.length = m) := ⟨_, rfl⟩
  have hm64 : m ≤ 64 := by rw [← hqm.out, ← hqk.out]; exact ks_length key
  by_cases hbig : 64 < n1
  · have hbig' : (64 : Int) < n1 := by omega
    have hqs : Hid (q = sumB key) := by unfold Hid; rw [← hqk.out]; exact ks_long key (by rw [hq1.out]; exact hbig)
    go_wp2_with (at_builtin; refine wpList_app8S rfl _ _ rfl base (.slice (some ⟨W2.heap.size, 0, none⟩) 0 0) [] key (.slice a1 n1 c1) rfl O2.out rfl K2.out (by simp) hkl.out Z2.out ?_; intro v3 W3 hown3 hb3)
    have B3 : Hid (Below w.heap.size w W3) := BA.out.trans (hb3.mono hwb.out)
    have F3 : Hid (Below base (W2.alloc (.cells #[] 5)) W3) := hb3
    have kD : Hid (Calls Tryd.prog 10 #[.slice a1 n1 c1] W3 fun e w' => ∃ v', e = .returned v' ∧ Own8 W3.heap.size w' v' (sumB key) ∧ Below W3.heap.size W3 w') := sum_own key HB1.out (by rw [hq1.out]; omega) _ W3 (HG.out.grown B3.out) (H1.out.below B3.out)
    obtain ⟨a3, c3, e3⟩ := hown3.sk.shape
    have e3' : v3 = .slice a3 n1 c3 := by rw [e3, List.nil_append, hq1.out]
    subst e3'
    clear hown3 hb3 O2 BA K2 hkl e3
    go_wp2_with fail
    refine kD.out.mono ?_
    rintro e W4 ⟨v4, rfl, ho4, g4⟩
    have Z3 : base ≤ W3.heap.size := Nat.le_trans Z2.out F3.out.size
    have O4 : Hid (Own8 base W4 v4 q) := by unfold Hid; rw [hqs.out]; exact ho4.wider Z3
    have B4 : Hid (Below w.heap.size w W4) := B3.out.trans (g4.mono B3.out.size)
    have F4 : Hid (Below base (W2.alloc (.cells #[] 5)) W4) := F3.out.trans (g4.mono Z3)
    obtain ⟨a4, c4, e4⟩ := ho4.sk.shape
    have e4' : v4 = .slice a4 m c4 := by rw [e4, ← hqs.out, hqm.out]
    subst e4'
    clear ho4 g4 kD B3 F3 e4 Z3
    go_wp2_with fail
    go_loopw [8, 9] (fun u y W => ∃ j : Nat, y = .int .i64 j ∧ m + j ≤ 64 ∧ j ≤ z ∧ Own8 base W u (q ++ List.replicate j 0) ∧ Below w.heap.size w W ∧ Below base (W2.alloc (.cells #[] 5)) W) (fun _ y _ => 64 - (intOf y).toNat)
    case atStart => exact ⟨0, rfl, by omega, by omega, by rw [List.replicate_zero, List.append_nil]; exact O4.out, B4.out, F4.out⟩
    case round =>
      clear O4 B4 F4 hbig'
      obtain ⟨j, rfl, hmj, hjz, hown, hB, hF⟩ := hrel
      have OW : Hid (Own8 base wr u8 (q ++ List.replicate j 0)) := hown
      have BW : Hid (Below w.heap.size w wr) := hB
      have FW : Hid (Below base (W2.alloc (.cells #[] 5)) wr) := hF
      have SW : Hid (base ≤ wr.heap.size) := Nat.le_trans Z2.out hF.size
      clear hown hB hF
      have hl1 : (q ++ List.replicate j 0).length = m + j := by rw [List.length_append, List.length_replicate, hqm.out]
      obtain ⟨ra, rc, hre⟩ := OW.out.sk.shape
      rw [hl1] at hre
      subst hre
      have hl2 : Hid ((q ++ List.replicate j 0).length ≤ 1000000) := by unfold Hid; rw [hl1]; omega
      by_cases hgo : j < z ∧ m + j < 64
      · obtain ⟨hj1, hj2⟩ := hgo
        have hj1' : (j : Int) < z := by omega
        have hj2' : (m : Int) + j < 64 := by omega
        go_wp2_with (at_builtin; refine wpList_app8 rfl _ _ rfl base (.slice ra (m + j) rc) (q ++ List.replicate j 0) 0 rfl OW.out rfl hl2.out SW.out ?_; intro v5 W5 hown5 hb5)
        have O5 : Hid (Own8 base W5 v5 (q ++ List.replicate (j + 1) 0)) := by
          have e : q ++ List.replicate (j + 1) 0 = q ++ List.replicate j 0 ++ [0] := by rw [List.replicate_succ']; simp only [List.append_assoc]
          rw [e]; exact hown5
        have B5 : Hid (Below base wr W5) := hb5
        clear hown5 hb5
        go_roundw
        case rel => exact ⟨j + 1, by go_num, by omega, by omega, O5.out, BW.out.trans (B5.out.mono hwb.out), FW.out.trans B5.out⟩
        case measure => simp [intOf]; omega
      · have hS : Hid (SK .u8 wr (.slice ra (m + j) rc) (q ++ List.replicate j 0)) := OW.out.sk
        have hmq : Hid (macB (q ++ List.replicate j 0) b = macB key b) := by
          unfold Hid
          rw [← hqk.out]
          exact macB_more key b j (by rw [hqk.out, hqm.out]; omega)
        have hTW : Hid (SK .u8 wr (.slice wa 32 wc) (macB key b)) := hwl.out wr FW.out
        have kX : Hid (∀ W, Below (wr.alloc (.cells #[.slice a2 n2 c2] 22)).heap.size (wr.alloc (.cells #[.slice a2 n2 c2] 22)) W → Calls Tryd.prog 7 #[.slice ra (m + j) rc, .slice (some ⟨wr.heap.size, 0, none⟩) 1 1] W fun e w' => ∃ v, e = .returned v ∧ SK .u8 w' v (macB key b) ∧ Below wr.heap.size wr w') := by
          intro W hW
          have h := mac_one (q ++ List.replicate j 0) b (hqb.out.app (bb_rep j)) (by rw [hl1]; omega) HB2.out (by rw [hq2.out]; omega) (.slice ra (m + j) rc) (.slice a2 n2 c2) wr (HG.out.grown BW.out) hS.out (H2.out.below BW.out) W hW
          rw [hmq.out] at h
          exact h
        have kT : Hid (∀ V, Below w.heap.size w V → ∀ W, Below (V.alloc (.cells #[.slice a2 h c2, .slice none 0 0, .slice (a2.map (·.add h)) (n2 - h) (c2 - h)] 22)).heap.size (V.alloc (.cells #[.slice a2 h c2, .slice none 0 0, .slice (a2.map (·.add h)) (n2 - h) (c2 - h)] 22)) W → Calls Tryd.prog 7 #[.slice a1 n1 c1, .slice (some ⟨V.heap.size, 0, none⟩) 3 3] W fun e w' => ∃ v, e = .returned v ∧ SK .u8 w' v (macB key b) ∧ Below V.heap.size V w') := by
          intro V hV W hW
          have hbV := H2.out.below hV
          rw [← hq2.out] at hbV
          have hc := hbV.cap
          exact mac_three key b h HB1.out (by rw [hq1.out]; omega) HB2.out (by rw [hq2.out]; omega) (.slice a1 n1 c1) _ _ _ V (HG.out.grown hV) (H1.out.below hV) (hbV.take (by rw [hq2.out]; omega) (by rw [hq2.out] at hc; omega) hc.2) (SK.nil _ _) (by have := hbV.cut (n := h) (by rw [hq2.out]; omega); unfold cutV at this; rw [hq2.out, if_neg hne0] at this; exact this) W hW
        have kF : Hid (∀ W, Below w.heap.size w W → SK .u8 W (.slice wa 32 wc) (macB key b) → ∀ v, SK .u8 W v (macB key b) → Calls Tryd.prog 9 #[.slice wa 32 wc, v] W fun e w' => e = .returned (.bool true) ∧ Below W.heap.size W w') := by
          intro W hW h1 v h2
          have h := msame_any (macB key b) (macB key b) (by rw [macB_length]; omega) (by rw [macB_length]; omega) (sumB_bb _) (sumB_bb _) _ _ W h1 h2
          have e : decide (macB key b = macB key b) = true := by simp
          rw [e] at h
          exact h
        clear OW FW SW hl1 hl2 hmq hS
        by_cases hj1 : j < z
        · have hj1' : (j : Int) < z := by omega
          have hj2' : ¬ (m : Int) + j < 64 := by omega
          go_wp2_with fail
          go_region_held3 (fun _ => True) (trivial) (first
            | (go_at_call 7; (refine (kX.out _ (by first | exact Below.refl _ _ | exact (Below.refl _ _).drew)).mono ?_); (rintro e V1 ⟨v1, rfl, hs1, g1⟩; have T1 : Hid (SK .u8 V1 v1 (macB key b)) := hs1; have C1 : Hid (Below w.heap.size w V1) := BW.out.trans (g1.mono BW.out.size); have U1 : Hid (SK .u8 V1 (.slice wa 32 wc) (macB key b)) := hTW.out.below g1; obtain ⟨ya, yc, ye⟩ := hs1.shape; subst ye; clear hs1 g1 kX))
            | (go_at_call 9; (refine (kF.out V1 C1.out U1.out _ T1.out).mono ?_); (rintro e V2 ⟨rfl, g2⟩; have C2 : Hid (Below w.heap.size w V2) := C1.out.trans (g2.mono C1.out.size); have U2 : Hid (SK .u8 V2 (.slice wa 32 wc) (macB key b)) := U1.out.below g2; clear g2 C1 U1 T1))
            | (go_at_call 7; (refine (kT.out V2 C2.out _ (by first | exact Below.refl _ _ | exact (Below.refl _ _).drew)).mono ?_); (rintro e V3 ⟨v3, rfl, hs3, g3⟩; have T3 : Hid (SK .u8 V3 v3 (macB key b)) := hs3; have C3 : Hid (Below w.heap.size w V3) := C2.out.trans (g3.mono C2.out.size); have U3 : Hid (SK .u8 V3 (.slice wa 32 wc) (macB key b)) := U2.out.below g3; obtain ⟨xa, xc, xe⟩ := hs3.shape; subst xe; clear hs3 g3 kT))
            | (go_at_call 9; (refine (kF.out V3 C3.out U3.out _ T3.out).mono ?_); (rintro e V4 ⟨rfl, g4⟩; have C4 : Hid (Below w.heap.size w V4) := C3.out.trans (g4.mono C3.out.size); clear g4 C3 U3 T3 kF))
            | fail)
          go_wp2_with fail
          go_ret
          exact ⟨rfl, C4.out⟩
        · have hj1' : ¬ (j : Int) < z := by omega
          go_wp2_with fail
          go_region_held3 (fun _ => True) (trivial) (first
            | (go_at_call 7; (refine (kX.out _ (by first | exact Below.refl _ _ | exact (Below.refl _ _).drew)).mono ?_); (rintro e V1 ⟨v1, rfl, hs1, g1⟩; have T1 : Hid (SK .u8 V1 v1 (macB key b)) := hs1; have C1 : Hid (Below w.heap.size w V1) := BW.out.trans (g1.mono BW.out.size); have U1 : Hid (SK .u8 V1 (.slice wa 32 wc) (macB key b)) := hTW.out.below g1; obtain ⟨ya, yc, ye⟩ := hs1.shape; subst ye; clear hs1 g1 kX))
            | (go_at_call 9; (refine (kF.out V1 C1.out U1.out _ T1.out).mono ?_); (rintro e V2 ⟨rfl, g2⟩; have C2 : Hid (Below w.heap.size w V2) := C1.out.trans (g2.mono C1.out.size); have U2 : Hid (SK .u8 V2 (.slice wa 32 wc) (macB key b)) := U1.out.below g2; clear g2 C1 U1 T1))
            | (go_at_call 7; (refine (kT.out V2 C2.out _ (by first | exact Below.refl _ _ | exact (Below.refl _ _).drew)).mono ?_); (rintro e V3 ⟨v3, rfl, hs3, g3⟩; have T3 : Hid (SK .u8 V3 v3 (macB key b)) := hs3; have C3 : Hid (Below w.heap.size w V3) := C2.out.trans (g3.mono C2.out.size); have U3 : Hid (SK .u8 V3 (.slice wa 32 wc) (macB key b)) := U2.out.below g3; obtain ⟨xa, xc, xe⟩ := hs3.shape; subst xe; clear hs3 g3 kT))
            | (go_at_call 9; (refine (kF.out V3 C3.out U3.out _ T3.out).mono ?_); (rintro e V4 ⟨rfl, g4⟩; have C4 : Hid (Below w.heap.size w V4) := C3.out.trans (g4.mono C3.out.size); clear g4 C3 U3 T3 kF))
            | fail)
          go_wp2_with fail
          go_ret
          exact ⟨rfl, C4.out⟩
  · have hbig' : ¬ (64 : Int) < n1 := by omega
    have hqs : Hid (q = key) := by unfold Hid; rw [← hqk.out]; exact ks_short key (by rw [hq1.out]; omega)
    go_wp2_with (at_builtin; refine wpList_app8S rfl _ _ rfl base (.slice (some ⟨W2.heap.size, 0, none⟩) 0 0) [] key (.slice a1 n1 c1) rfl O2.out rfl K2.out (by simp) hkl.out Z2.out ?_; intro v3 W3 hown3 hb3)
    rw [List.nil_append, ← hqs.out] at hown3
    have O4 : Hid (Own8 base W3 v3 q) := hown3
    have B4 : Hid (Below w.heap.size w W3) := BA.out.trans (hb3.mono hwb.out)
    have F4 : Hid (Below base (W2.alloc (.cells #[] 5)) W3) := hb3
    obtain ⟨a3, c3, e3⟩ := hown3.sk.shape
    rw [hqm.out] at e3
    subst e3
    clear hown3 hb3 O2 BA K2 hkl
    go_wp2_with fail
    go_loopw [8, 9] (fun u y W => ∃ j : Nat, y = .int .i64 j ∧ m + j ≤ 64 ∧ j ≤ z ∧ Own8 base W u (q ++ List.replicate j 0) ∧ Below w.heap.size w W ∧ Below base (W2.alloc (.cells #[] 5)) W) (fun _ y _ => 64 - (intOf y).toNat)
    case atStart => exact ⟨0, rfl, by omega, by omega, by rw [List.replicate_zero, List.append_nil]; exact O4.out, B4.out, F4.out⟩
    case round =>
      clear O4 B4 F4 hbig'
      obtain ⟨j, rfl, hmj, hjz, hown, hB, hF⟩ := hrel
      have OW : Hid (Own8 base wr u8 (q ++ List.replicate j 0)) := hown
      have BW : Hid (Below w.heap.size w wr) := hB
      have FW : Hid (Below base (W2.alloc (.cells #[] 5)) wr) := hF
      have SW : Hid (base ≤ wr.heap.size) := Nat.le_trans Z2.out hF.size
      clear hown hB hF
      have hl1 : (q ++ List.replicate j 0).length = m + j := by rw [List.length_append, List.length_replicate, hqm.out]
      obtain ⟨ra, rc, hre⟩ := OW.out.sk.shape
      rw [hl1] at hre
      subst hre
      have hl2 : Hid ((q ++ List.replicate j 0).length ≤ 1000000) := by unfold Hid; rw [hl1]; omega
      by_cases hgo : j < z ∧ m + j < 64
      · obtain ⟨hj1, hj2⟩ := hgo
        have hj1' : (j : Int) < z := by omega
        have hj2' : (m : Int) + j < 64 := by omega
        go_wp2_with (at_builtin; refine wpList_app8 rfl _ _ rfl base (.slice ra (m + j) rc) (q ++ List.replicate j 0) 0 rfl OW.out rfl hl2.out SW.out ?_; intro v5 W5 hown5 hb5)
        have O5 : Hid (Own8 base W5 v5 (q ++ List.replicate (j + 1) 0)) := by
          have e : q ++ List.replicate (j + 1) 0 = q ++ List.replicate j 0 ++ [0] := by rw [List.replicate_succ']; simp only [List.append_assoc]
          rw [e]; exact hown5
        have B5 : Hid (Below base wr W5) := hb5
        clear hown5 hb5
        go_roundw
        case rel => exact ⟨j + 1, by go_num, by omega, by omega, O5.out, BW.out.trans (B5.out.mono hwb.out), FW.out.trans B5.out⟩
        case measure => simp [intOf]; omega
      · have hS : Hid (SK .u8 wr (.slice ra (m + j) rc) (q ++ List.replicate j 0)) := OW.out.sk
        have hmq : Hid (macB (q ++ List.replicate j 0) b = macB key b) := by
          unfold Hid
          rw [← hqk.out]
          exact macB_more key b j (by rw [hqk.out, hqm.out]; omega)
        have hTW : Hid (SK .u8 wr (.slice wa 32 wc) (macB key b)) := hwl.out wr FW.out
        have kX : Hid (∀ W, Below (wr.alloc (.cells #[.slice a2 n2 c2] 22)).heap.size (wr.alloc (.cells #[.slice a2 n2 c2] 22)) W → Calls Tryd.prog 7 #[.slice ra (m + j) rc, .slice (some ⟨wr.heap.size, 0, none⟩) 1 1] W fun e w' => ∃ v, e = .returned v ∧ SK .u8 w' v (macB key b) ∧ Below wr.heap.size wr w') := by
          intro W hW
          have h := mac_one (q ++ List.replicate j 0) b (hqb.out.app (bb_rep j)) (by rw [hl1]; omega) HB2.out (by rw [hq2.out]; omega) (.slice ra (m + j) rc) (.slice a2 n2 c2) wr (HG.out.grown BW.out) hS.out (H2.out.below BW.out) W hW
          rw [hmq.out] at h
          exact h
        have kT : Hid (∀ V, Below w.heap.size w V → ∀ W, Below (V.alloc (.cells #[.slice a2 h c2, .slice none 0 0, .slice (a2.map (·.add h)) (n2 - h) (c2 - h)] 22)).heap.size (V.alloc (.cells #[.slice a2 h c2, .slice none 0 0, .slice (a2.map (·.add h)) (n2 - h) (c2 - h)] 22)) W → Calls Tryd.prog 7 #[.slice a1 n1 c1, .slice (some ⟨V.heap.size, 0, none⟩) 3 3] W fun e w' => ∃ v, e = .returned v ∧ SK .u8 w' v (macB key b) ∧ Below V.heap.size V w') := by
          intro V hV W hW
          have hbV := H2.out.below hV
          rw [← hq2.out] at hbV
          have hc := hbV.cap
          exact mac_three key b h HB1.out (by rw [hq1.out]; omega) HB2.out (by rw [hq2.out]; omega) (.slice a1 n1 c1) _ _ _ V (HG.out.grown hV) (H1.out.below hV) (hbV.take (by rw [hq2.out]; omega) (by rw [hq2.out] at hc; omega) hc.2) (SK.nil _ _) (by have := hbV.cut (n := h) (by rw [hq2.out]; omega); unfold cutV at this; rw [hq2.out, if_neg hne0] at this; exact this) W hW
        have kF : Hid (∀ W, Below w.heap.size w W → SK .u8 W (.slice wa 32 wc) (macB key b) → ∀ v, SK .u8 W v (macB key b) → Calls Tryd.prog 9 #[.slice wa 32 wc, v] W fun e w' => e = .returned (.bool true) ∧ Below W.heap.size W w') := by
          intro W hW h1 v h2
          have h := msame_any (macB key b) (macB key b) (by rw [macB_length]; omega) (by rw [macB_length]; omega) (sumB_bb _) (sumB_bb _) _ _ W h1 h2
          have e : decide (macB key b = macB key b) = true := by simp
          rw [e] at h
          exact h
        clear OW FW SW hl1 hl2 hmq hS
        by_cases hj1 : j < z
        · have hj1' : (j : Int) < z := by omega
          have hj2' : ¬ (m : Int) + j < 64 := by omega
          go_wp2_with fail
          go_region_held3 (fun _ => True) (trivial) (first
            | (go_at_call 7; (refine (kX.out _ (by first | exact Below.refl _ _ | exact (Below.refl _ _).drew)).mono ?_); (rintro e V1 ⟨v1, rfl, hs1, g1⟩; have T1 : Hid (SK .u8 V1 v1 (macB key b)) := hs1; have C1 : Hid (Below w.heap.size w V1) := BW.out.trans (g1.mono BW.out.size); have U1 : Hid (SK .u8 V1 (.slice wa 32 wc) (macB key b)) := hTW.out.below g1; obtain ⟨ya, yc, ye⟩ := hs1.shape; subst ye; clear hs1 g1 kX))
            | (go_at_call 9; (refine (kF.out V1 C1.out U1.out _ T1.out).mono ?_); (rintro e V2 ⟨rfl, g2⟩; have C2 : Hid (Below w.heap.size w V2) := C1.out.trans (g2.mono C1.out.size); have U2 : Hid (SK .u8 V2 (.slice wa 32 wc) (macB key b)) := U1.out.below g2; clear g2 C1 U1 T1))
            | (go_at_call 7; (refine (kT.out V2 C2.out _ (by first | exact Below.refl _ _ | exact (Below.refl _ _).drew)).mono ?_); (rintro e V3 ⟨v3, rfl, hs3, g3⟩; have T3 : Hid (SK .u8 V3 v3 (macB key b)) := hs3; have C3 : Hid (Below w.heap.size w V3) := C2.out.trans (g3.mono C2.out.size); have U3 : Hid (SK .u8 V3 (.slice wa 32 wc) (macB key b)) := U2.out.below g3; obtain ⟨xa, xc, xe⟩ := hs3.shape; subst xe; clear hs3 g3 kT))
            | (go_at_call 9; (refine (kF.out V3 C3.out U3.out _ T3.out).mono ?_); (rintro e V4 ⟨rfl, g4⟩; have C4 : Hid (Below w.heap.size w V4) := C3.out.trans (g4.mono C3.out.size); clear g4 C3 U3 T3 kF))
            | fail)
          go_wp2_with fail
          go_ret
          exact ⟨rfl, C4.out⟩
        · have hj1' : ¬ (j : Int) < z := by omega
          go_wp2_with fail
          go_region_held3 (fun _ => True) (trivial) (first
            | (go_at_call 7; (refine (kX.out _ (by first | exact Below.refl _ _ | exact (Below.refl _ _).drew)).mono ?_); (rintro e V1 ⟨v1, rfl, hs1, g1⟩; have T1 : Hid (SK .u8 V1 v1 (macB key b)) := hs1; have C1 : Hid (Below w.heap.size w V1) := BW.out.trans (g1.mono BW.out.size); have U1 : Hid (SK .u8 V1 (.slice wa 32 wc) (macB key b)) := hTW.out.below g1; obtain ⟨ya, yc, ye⟩ := hs1.shape; subst ye; clear hs1 g1 kX))
            | (go_at_call 9; (refine (kF.out V1 C1.out U1.out _ T1.out).mono ?_); (rintro e V2 ⟨rfl, g2⟩; have C2 : Hid (Below w.heap.size w V2) := C1.out.trans (g2.mono C1.out.size); have U2 : Hid (SK .u8 V2 (.slice wa 32 wc) (macB key b)) := U1.out.below g2; clear g2 C1 U1 T1))
            | (go_at_call 7; (refine (kT.out V2 C2.out _ (by first | exact Below.refl _ _ | exact (Below.refl _ _).drew)).mono ?_); (rintro e V3 ⟨v3, rfl, hs3, g3⟩; have T3 : Hid (SK .u8 V3 v3 (macB key b)) := hs3; have C3 : Hid (Below w.heap.size w V3) := C2.out.trans (g3.mono C2.out.size); have U3 : Hid (SK .u8 V3 (.slice wa 32 wc) (macB key b)) := U2.out.below g3; obtain ⟨xa, xc, xe⟩ := hs3.shape; subst xe; clear hs3 g3 kT))
            | (go_at_call 9; (refine (kF.out V3 C3.out U3.out _ T3.out).mono ?_); (rintro e V4 ⟨rfl, g4⟩; have C4 : Hid (Below w.heap.size w V4) := C3.out.trans (g4.mono C3.out.size); clear g4 C3 U3 T3 kF))
            | fail)
          go_wp2_with fail
          go_ret
          exact ⟨rfl, C4.out⟩
set_option maxRecDepth 100000 in
set_option maxHeartbeats 4000000 in
theorem mkeys_near_a (v1 v2 : Value) (key b : List Nat) (z : Nat) (w : World) (hg : Gl5 w) (h1 : SK .u8 w v1 key) (h2 : SK .u8 w v2 b) (hb1 : Bb key) (hb2 : Bb b) (hz : z < 256)
    (hn1 : key.length ≤ 1000) (hn2 : b.length ≤ 1000) (hcut : ∀ a c, v2 = .slice a b.length c → c = 0) :
    Calls Tryd.prog 4 #[v1, v2, .int .u8 (z : Int)] w fun e w' => e = .returned (.bool true) ∧ Below w.heap.size w w' := by
  have kW : Hid (Calls Tryd.prog 5 #[] w fun e w' => e = .returned (.bool true) ∧ Below w.heap.size w w') := awake7 w hg
  obtain ⟨a1, c1, e1⟩ := h1.shape
  subst e1
  obtain ⟨a2, c2, e2⟩ := h2.shape
  subst e2
  obtain rfl := hcut _ _ rfl
  have hca0 := h2.cap.1
  have H1 : Hid (SK .u8 w (.slice a1 key.length c1) key) := h1
  have H2 : Hid (SK .u8 w (.slice a2 b.length 0) b) := h2
  have HB1 : Hid (Bb key) := hb1
  have HB2 : Hid (Bb b) := hb2
  obtain ⟨n1, hq1⟩ : ∃ n, Hid (key.length = n) := ⟨_, rfl⟩
  obtain ⟨n2, hq2⟩ : ∃ n, Hid (b.length = n) := ⟨_, rfl⟩
  rw [hq1.out] at hn1 H1 ⊢
  rw [hq2.out] at hn2 H2 hca0 ⊢
  obtain rfl : n2 = 0 := by omega
  have HG : Hid (Gl5 w) := hg
  have hn1' : ¬ (1000 : Int) < n1 := by omega
  have hMl : Hid ((macB key b).length = 32) := macB_length _ _
  have hw00 : IntKind.i64.wrap (0 : Int) = 0 := wrapI _ (by omega) (by omega)
  clear h1 h2 hg hb1 hb2 hcut hca0
  go_enter Tryd.func4, Tryd.ntmps4
  go_wp2_with fail
  refine kW.out.mono ?_
  rintro e W1 ⟨rfl, hB1⟩
  have B1 : Hid (Below w.heap.size w W1) := hB1
  clear hB1 kW
  have k1 : Hid (Calls Tryd.prog 7 #[.slice a1 n1 c1, .slice (some ⟨W1.heap.size, 0, none⟩) 1 1] (W1.alloc (.cells #[.slice a2 0 0] 22)) fun e w' => ∃ v, e = .returned v ∧ SK .u8 w' v (macB key b) ∧ Below W1.heap.size W1 w') :=
    mac_one key b HB1.out (by rw [hq1.out]; omega) HB2.out (by rw [hq2.out]; omega) _ _ W1 (HG.out.grown B1.out) (H1.out.below B1.out) (H2.out.below B1.out) _ (Below.refl _ _)
  go_wp2_with fail
  refine k1.out.mono ?_
  rintro e W2 ⟨v2, rfl, hs2, g2⟩
  have T2 : Hid (SK .u8 W2 v2 (macB key b)) := hs2
  have B2 : Hid (Below w.heap.size w W2) := B1.out.trans (g2.mono B1.out.size)
  obtain ⟨wa, wc, we⟩ := hs2.shape
  rw [hMl.out] at we
  subst we
  clear hs2 g2 k1 B1
  have hB2' := B2.out
  obtain ⟨base, hbase⟩ : ∃ base, Hid (W2.heap.size = base) := ⟨_, rfl⟩
  have O2 : Hid (Own8 base (W2.alloc (.cells #[] 5)) (.slice (some ⟨W2.heap.size, 0, none⟩) 0 0) []) := by unfold Hid; rw [← hbase.out]; exact own8_empty W2
  have g2 : Below W2.heap.size W2 (W2.alloc (.cells #[] 5)) := (Below.refl _ _).alloc (Nat.le_refl _) _
  have Z2 : Hid (base ≤ (W2.alloc (.cells #[] 5)).heap.size) := by unfold Hid; rw [← hbase.out]; exact g2.size
  have hwb : Hid (w.heap.size ≤ base) := by unfold Hid; rw [← hbase.out]; exact B2.out.size
  have BA : Hid (Below w.heap.size w (W2.alloc (.cells #[] 5))) := B2.out.trans (g2.mono B2.out.size)
  have K2 : Hid (SK .u8 (W2.alloc (.cells #[] 5)) (.slice a1 n1 c1) key) := H1.out.below BA.out
  have TA : Hid (SK .u8 (W2.alloc (.cells #[] 5)) (.slice wa 32 wc) (macB key b)) := T2.out.below g2
  have hkl : Hid (key.length ≤ 1000000) := by unfold Hid; rw [hq1.out]; omega
  have hwl : Hid (∀ W, Below base (W2.alloc (.cells #[] 5)) W → SK .u8 W (.slice wa 32 wc) (macB key b)) := by
    intro W hW
    exact T2.out.below (by rw [hbase.out]; exact Below.trans (by rw [← hbase.out]; exact g2) hW)
  clear hB2' g2 B2 T2 TA
  have hz' : IntKind.i64.wrap (z : Int) = (z : Int) := wrapI _ (by omega) (by omega)
  have hz3 : (z : Int) < 256 := by omega
  obtain ⟨q, hqk⟩ : ∃ q, Hid (ks key = q) := ⟨_, rfl⟩
  have hqb : Hid (Bb q) := by unfold Hid; rw [← hqk.out]; exact ks_bb key HB1.out
  obtain ⟨m, hqm⟩ : ∃ m, Hid (q.length = m) := ⟨_, rfl⟩
  have hm64 : m ≤ 64 := by rw [← hqm.out, ← hqk.out]; exact ks_length key
  by_cases hbig : 64 < n1
  · have hbig' : (64 : Int) < n1 := by omega
    have hqs : Hid (q = sumB key) := by unfold Hid; rw [← hqk.out]; exact ks_long key (by rw [hq1.out]; exact hbig)
    go_wp2_with (at_builtin; refine wpList_app8S rfl _ _ rfl base (.slice (some ⟨W2.heap.size, 0, none⟩) 0 0) [] key (.slice a1 n1 c1) rfl O2.out rfl K2.out (by simp) hkl.out Z2.out ?_; intro v3 W3 hown3 hb3)
    have B3 : Hid (Below w.heap.size w W3) := BA.out.trans (hb3.mono hwb.out)
    have F3 : Hid (Below base (W2.alloc (.cells #[] 5)) W3) := hb3
    have kD : Hid (Calls Tryd.prog 10 #[.slice a1 n1 c1] W3 fun e w' => ∃ v', e = .returned v' ∧ Own8 W3.heap.size w' v' (sumB key) ∧ Below W3.heap.size W3 w') := sum_own key HB1.out (by rw [hq1.out]; omega) _ W3 (HG.out.grown B3.out) (H1.out.below B3.out)
    obtain ⟨a3, c3, e3⟩ := hown3.sk.shape
    have e3' : v3 = .slice a3 n1 c3 := by rw [e3, List.nil_append, hq1.out]
    subst e3'
    clear hown3 hb3 O2 BA K2 hkl e3
    go_wp2_with fail
    refine kD.out.mono ?_
    rintro e W4 ⟨v4, rfl, ho4, g4⟩
    have Z3 : base ≤ W3.heap.size := Nat.le_trans Z2.out F3.out.size
    have O4 : Hid (Own8 base W4 v4 q) := by unfold Hid; rw [hqs.out]; exact ho4.wider Z3
    have B4 : Hid (Below w.heap.size w W4) := B3.out.trans (g4.mono B3.out.size)
    have F4 : Hid (Below base (W2.alloc (.cells #[] 5)) W4) := F3.out.trans (g4.mono Z3)
    obtain ⟨a4, c4, e4⟩ := ho4.sk.shape
    have e4' : v4 = .slice a4 m c4 := by rw [e4, ← hqs.out, hqm.out]
    subst e4'
    clear ho4 g4 kD B3 F3 e4 Z3
    go_wp2_with fail
    go_loopw [8, 9] (fun u y W => ∃ j : Nat, y = .int .i64 j ∧ m + j ≤ 64 ∧ j ≤ z ∧ Own8 base W u (q ++ List.replicate j 0) ∧ Below w.heap.size w W ∧ Below base (W2.alloc (.cells #[] 5)) W) (fun _ y _ => 64 - (intOf y).toNat)
    case atStart => exact ⟨0, rfl, by omega, by omega, by rw [List.replicate_zero, List.append_nil]; exact O4.out, B4.out, F4.out⟩
    case round =>
      clear O4 B4 F4 hbig'
      obtain ⟨j, rfl, hmj, hjz, hown, hB, hF⟩ := hrel
      have OW : Hid (Own8 base wr u8 (q ++ List.replicate j 0)) := hown
      have BW : Hid (Below w.heap.size w wr) := hB
      have FW : Hid (Below base (W2.alloc (.cells #[] 5)) wr) := hF
      have SW : Hid (base ≤ wr.heap.size) := Nat.le_trans Z2.out hF.size
      clear hown hB hF
      have hl1 : (q ++ List.replicate j 0).length = m + j := by rw [List.length_append, List.length_replicate, hqm.out]
      obtain ⟨ra, rc, hre⟩ := OW.out.sk.shape
      rw [hl1] at hre
      subst hre
      have hl2 : Hid ((q ++ List.replicate j 0).length ≤ 1000000) := by unfold Hid; rw [hl1]; omega
      by_cases hgo : j < z ∧ m + j < 64
      · obtain ⟨hj1, hj2⟩ := hgo
        have hj1' : (j : Int) < z := by omega
        have hj2' : (m : Int) + j < 64 := by omega
        go_wp2_with (at_builtin; refine wpList_app8 rfl _ _ rfl base (.slice ra (m + j) rc) (q ++ List.replicate j 0) 0 rfl OW.out rfl hl2.out SW.out ?_; intro v5 W5 hown5 hb5)
        have O5 : Hid (Own8 base W5 v5 (q ++ List.replicate (j + 1) 0)) := by
          have e : q ++ List.replicate (j + 1) 0 = q ++ List.replicate j 0 ++ [0] := by rw [List.replicate_succ']; simp only [List.append_assoc]
          rw [e]; exact hown5
        have B5 : Hid (Below base wr W5) := hb5
        clear hown5 hb5
        go_roundw
        case rel => exact ⟨j + 1, by go_num, by omega, by omega, O5.out, BW.out.trans (B5.out.mono hwb.out), FW.out.trans B5.out⟩
        case measure => simp [intOf]; omega
      · have hS : Hid (SK .u8 wr (.slice ra (m + j) rc) (q ++ List.replicate j 0)) := OW.out.sk
        have hmq : Hid (macB (q ++ List.replicate j 0) b = macB key b) := by
          unfold Hid
          rw [← hqk.out]
          exact macB_more key b j (by rw [hqk.out, hqm.out]; omega)
        have hTW : Hid (SK .u8 wr (.slice wa 32 wc) (macB key b)) := hwl.out wr FW.out
        have kX : Hid (∀ W, Below (wr.alloc (.cells #[.slice a2 0 0] 22)).heap.size (wr.alloc (.cells #[.slice a2 0 0] 22)) W → Calls Tryd.prog 7 #[.slice ra (m + j) rc, .slice (some ⟨wr.heap.size, 0, none⟩) 1 1] W fun e w' => ∃ v, e = .returned v ∧ SK .u8 w' v (macB key b) ∧ Below wr.heap.size wr w') := by
          intro W hW
          have h := mac_one (q ++ List.replicate j 0) b (hqb.out.app (bb_rep j)) (by rw [hl1]; omega) HB2.out (by rw [hq2.out]; omega) (.slice ra (m + j) rc) (.slice a2 0 0) wr (HG.out.grown BW.out) hS.out (H2.out.below BW.out) W hW
          rw [hmq.out] at h
          exact h
        have kT : Hid (∀ V, Below w.heap.size w V → ∀ W, Below (V.alloc (.cells #[.slice a2 0 0, .slice none 0 0, .slice a2 0 0] 22)).heap.size (V.alloc (.cells #[.slice a2 0 0, .slice none 0 0, .slice a2 0 0] 22)) W → Calls Tryd.prog 7 #[.slice a1 n1 c1, .slice (some ⟨V.heap.size, 0, none⟩) 3 3] W fun e w' => ∃ v, e = .returned v ∧ SK .u8 w' v (macB key b) ∧ Below V.heap.size V w') := by
          intro V hV W hW
          have hbV := H2.out.below hV
          rw [← hq2.out] at hbV
          have hc := hbV.cap
          exact mac_three key b 0 HB1.out (by rw [hq1.out]; omega) HB2.out (by rw [hq2.out]; omega) (.slice a1 n1 c1) _ _ _ V (HG.out.grown hV) (H1.out.below hV) (hbV.take (Nat.zero_le _) (Nat.zero_le _) (fun _ => rfl)) (SK.nil _ _) (by have := hbV.cut (n := 0) (Nat.zero_le _); rw [hq2.out] at this; exact this) W hW
        have kF : Hid (∀ W, Below w.heap.size w W → SK .u8 W (.slice wa 32 wc) (macB key b) → ∀ v, SK .u8 W v (macB key b) → Calls Tryd.prog 9 #[.slice wa 32 wc, v] W fun e w' => e = .returned (.bool true) ∧ Below W.heap.size W w') := by
          intro W hW h1 v h2
          have h := msame_any (macB key b) (macB key b) (by rw [macB_length]; omega) (by rw [macB_length]; omega) (sumB_bb _) (sumB_bb _) _ _ W h1 h2
          have e : decide (macB key b = macB key b) = true := by simp
          rw [e] at h
          exact h
        clear OW FW SW hl1 hl2 hmq hS
        by_cases hj1 : j < z
        · have hj1' : (j : Int) < z := by omega
          have hj2' : ¬ (m : Int) + j < 64 := by omega
          go_wp2_with fail
          go_region_held3 (fun _ => True) (trivial) (first
            | (go_at_call 7; (refine (kX.out _ (by first | exact Below.refl _ _ | exact (Below.refl _ _).drew)).mono ?_); (rintro e V1 ⟨v1, rfl, hs1, g1⟩; have T1 : Hid (SK .u8 V1 v1 (macB key b)) := hs1; have C1 : Hid (Below w.heap.size w V1) := BW.out.trans (g1.mono BW.out.size); have U1 : Hid (SK .u8 V1 (.slice wa 32 wc) (macB key b)) := hTW.out.below g1; obtain ⟨ya, yc, ye⟩ := hs1.shape; subst ye; clear hs1 g1 kX))
            | (go_at_call 9; (refine (kF.out V1 C1.out U1.out _ T1.out).mono ?_); (rintro e V2 ⟨rfl, g2⟩; have C2 : Hid (Below w.heap.size w V2) := C1.out.trans (g2.mono C1.out.size); have U2 : Hid (SK .u8 V2 (.slice wa 32 wc) (macB key b)) := U1.out.below g2; clear g2 C1 U1 T1))
            | (go_at_call 7; (refine (kT.out V2 C2.out _ (by first | exact Below.refl _ _ | exact (Below.refl _ _).drew)).mono ?_); (rintro e V3 ⟨v3, rfl, hs3, g3⟩; have T3 : Hid (SK .u8 V3 v3 (macB key b)) := hs3; have C3 : Hid (Below w.heap.size w V3) := C2.out.trans (g3.mono C2.out.size); have U3 : Hid (SK .u8 V3 (.slice wa 32 wc) (macB key b)) := U2.out.below g3; obtain ⟨xa, xc, xe⟩ := hs3.shape; subst xe; clear hs3 g3 kT))
            | (go_at_call 9; (refine (kF.out V3 C3.out U3.out _ T3.out).mono ?_); (rintro e V4 ⟨rfl, g4⟩; have C4 : Hid (Below w.heap.size w V4) := C3.out.trans (g4.mono C3.out.size); clear g4 C3 U3 T3 kF))
            | fail)
          all_goals
            go_wp2_with fail
            go_ret
            exact ⟨rfl, C4.out⟩
        · have hj1' : ¬ (j : Int) < z := by omega
          go_wp2_with fail
          go_region_held3 (fun _ => True) (trivial) (first
            | (go_at_call 7; (refine (kX.out _ (by first | exact Below.refl _ _ | exact (Below.refl _ _).drew)).mono ?_); (rintro e V1 ⟨v1, rfl, hs1, g1⟩; have T1 : Hid (SK .u8 V1 v1 (macB key b)) := hs1; have C1 : Hid (Below w.heap.size w V1) := BW.out.trans (g1.mono BW.out.size); have U1 : Hid (SK .u8 V1 (.slice wa 32 wc) (macB key b)) := hTW.out.below g1; obtain ⟨ya, yc, ye⟩ := hs1.shape; subst ye; clear hs1 g1 kX))
            | (go_at_call 9; (refine (kF.out V1 C1.out U1.out _ T1.out).mono ?_); (rintro e V2 ⟨rfl, g2⟩; have C2 : Hid (Below w.heap.size w V2) := C1.out.trans (g2.mono C1.out.size); have U2 : Hid (SK .u8 V2 (.slice wa 32 wc) (macB key b)) := U1.out.below g2; clear g2 C1 U1 T1))
            | (go_at_call 7; (refine (kT.out V2 C2.out _ (by first | exact Below.refl _ _ | exact (Below.refl _ _).drew)).mono ?_); (rintro e V3 ⟨v3, rfl, hs3, g3⟩; have T3 : Hid (SK .u8 V3 v3 (macB key b)) := hs3; have C3 : Hid (Below w.heap.size w V3) := C2.out.trans (g3.mono C2.out.size); have U3 : Hid (SK .u8 V3 (.slice wa 32 wc) (macB key b)) := U2.out.below g3; obtain ⟨xa, xc, xe⟩ := hs3.shape; subst xe; clear hs3 g3 kT))
            | (go_at_call 9; (refine (kF.out V3 C3.out U3.out _ T3.out).mono ?_); (rintro e V4 ⟨rfl, g4⟩; have C4 : Hid (Below w.heap.size w V4) := C3.out.trans (g4.mono C3.out.size); clear g4 C3 U3 T3 kF))
            | fail)
          all_goals
            go_wp2_with fail
            go_ret
            exact ⟨rfl, C4.out⟩
  · have hbig' : ¬ (64 : Int) < n1 := by omega
    have hqs : Hid (q = key) := by unfold Hid; rw [← hqk.out]; exact ks_short key (by rw [hq1.out]; omega)
    go_wp2_with (at_builtin; refine wpList_app8S rfl _ _ rfl base (.slice (some ⟨W2.heap.size, 0, none⟩) 0 0) [] key (.slice a1 n1 c1) rfl O2.out rfl K2.out (by simp) hkl.out Z2.out ?_; intro v3 W3 hown3 hb3)
    rw [List.nil_append, ← hqs.out] at hown3
    have O4 : Hid (Own8 base W3 v3 q) := hown3
    have B4 : Hid (Below w.heap.size w W3) := BA.out.trans (hb3.mono hwb.out)
    have F4 : Hid (Below base (W2.alloc (.cells #[] 5)) W3) := hb3
    obtain ⟨a3, c3, e3⟩ := hown3.sk.shape
    rw [hqm.out] at e3
    subst e3
    clear hown3 hb3 O2 BA K2 hkl
    go_wp2_with fail
    go_loopw [8, 9] (fun u y W => ∃ j : Nat, y = .int .i64 j ∧ m + j ≤ 64 ∧ j ≤ z ∧ Own8 base W u (q ++ List.replicate j 0) ∧ Below w.heap.size w W ∧ Below base (W2.alloc (.cells #[] 5)) W) (fun _ y _ => 64 - (intOf y).toNat)
    case atStart => exact ⟨0, rfl, by omega, by omega, by rw [List.replicate_zero, List.append_nil]; exact O4.out, B4.out, F4.out⟩
    case round =>
      clear O4 B4 F4 hbig'
      obtain ⟨j, rfl, hmj, hjz, hown, hB, hF⟩ := hrel
      have OW : Hid (Own8 base wr u8 (q ++ List.replicate j 0)) := hown
      have BW : Hid (Below w.heap.size w wr) := hB
      have FW : Hid (Below base (W2.alloc (.cells #[] 5)) wr) := hF
      have SW : Hid (base ≤ wr.heap.size) := Nat.le_trans Z2.out hF.size
      clear hown hB hF
      have hl1 : (q ++ List.replicate j 0).length = m + j := by rw [List.length_append, List.length_replicate, hqm.out]
      obtain ⟨ra, rc, hre⟩ := OW.out.sk.shape
      rw [hl1] at hre
      subst hre
      have hl2 : Hid ((q ++ List.replicate j 0).length ≤ 1000000) := by unfold Hid; rw [hl1]; omega
      by_cases hgo : j < z ∧ m + j < 64
      · obtain ⟨hj1, hj2⟩ := hgo
        have hj1' : (j : Int) < z := by omega
        have hj2' : (m : Int) + j < 64 := by omega
        go_wp2_with (at_builtin; refine wpList_app8 rfl _ _ rfl base (.slice ra (m + j) rc) (q ++ List.replicate j 0) 0 rfl OW.out rfl hl2.out SW.out ?_; intro v5 W5 hown5 hb5)
        have O5 : Hid (Own8 base W5 v5 (q ++ List.replicate (j + 1) 0)) := by
          have e : q ++ List.replicate (j + 1) 0 = q ++ List.replicate j 0 ++ [0] := by rw [List.replicate_succ']; simp only [List.append_assoc]
          rw [e]; exact hown5
        have B5 : Hid (Below base wr W5) := hb5
        clear hown5 hb5
        go_roundw
        case rel => exact ⟨j + 1, by go_num, by omega, by omega, O5.out, BW.out.trans (B5.out.mono hwb.out), FW.out.trans B5.out⟩
        case measure => simp [intOf]; omega
      · have hS : Hid (SK .u8 wr (.slice ra (m + j) rc) (q ++ List.replicate j 0)) := OW.out.sk
        have hmq : Hid (macB (q ++ List.replicate j 0) b = macB key b) := by
          unfold Hid
          rw [← hqk.out]
          exact macB_more key b j (by rw [hqk.out, hqm.out]; omega)
        have hTW : Hid (SK .u8 wr (.slice wa 32 wc) (macB key b)) := hwl.out wr FW.out
        have kX : Hid (∀ W, Below (wr.alloc (.cells #[.slice a2 0 0] 22)).heap.size (wr.alloc (.cells #[.slice a2 0 0] 22)) W → Calls Tryd.prog 7 #[.slice ra (m + j) rc, .slice (some ⟨wr.heap.size, 0, none⟩) 1 1] W fun e w' => ∃ v, e = .returned v ∧ SK .u8 w' v (macB key b) ∧ Below wr.heap.size wr w') := by
          intro W hW
          have h := mac_one (q ++ List.replicate j 0) b (hqb.out.app (bb_rep j)) (by rw [hl1]; omega) HB2.out (by rw [hq2.out]; omega) (.slice ra (m + j) rc) (.slice a2 0 0) wr (HG.out.grown BW.out) hS.out (H2.out.below BW.out) W hW
          rw [hmq.out] at h
          exact h
        have kT : Hid (∀ V, Below w.heap.size w V → ∀ W, Below (V.alloc (.cells #[.slice a2 0 0, .slice none 0 0, .slice a2 0 0] 22)).heap.size (V.alloc (.cells #[.slice a2 0 0, .slice none 0 0, .slice a2 0 0] 22)) W → Calls Tryd.prog 7 #[.slice a1 n1 c1, .slice (some ⟨V.heap.size, 0, none⟩) 3 3] W fun e w' => ∃ v, e = .returned v ∧ SK .u8 w' v (macB key b) ∧ Below V.heap.size V w') := by
          intro V hV W hW
          have hbV := H2.out.below hV
          rw [← hq2.out] at hbV
          have hc := hbV.cap
          exact mac_three key b 0 HB1.out (by rw [hq1.out]; omega) HB2.out (by rw [hq2.out]; omega) (.slice a1 n1 c1) _ _ _ V (HG.out.grown hV) (H1.out.below hV) (hbV.take (Nat.zero_le _) (Nat.zero_le _) (fun _ => rfl)) (SK.nil _ _) (by have := hbV.cut (n := 0) (Nat.zero_le _); rw [hq2.out] at this; exact this) W hW
        have kF : Hid (∀ W, Below w.heap.size w W → SK .u8 W (.slice wa 32 wc) (macB key b) → ∀ v, SK .u8 W v (macB key b) → Calls Tryd.prog 9 #[.slice wa 32 wc, v] W fun e w' => e = .returned (.bool true) ∧ Below W.heap.size W w') := by
          intro W hW h1 v h2
          have h := msame_any (macB key b) (macB key b) (by rw [macB_length]; omega) (by rw [macB_length]; omega) (sumB_bb _) (sumB_bb _) _ _ W h1 h2
          have e : decide (macB key b = macB key b) = true := by simp
          rw [e] at h
          exact h
        clear OW FW SW hl1 hl2 hmq hS
        by_cases hj1 : j < z
        · have hj1' : (j : Int) < z := by omega
          have hj2' : ¬ (m : Int) + j < 64 := by omega
          go_wp2_with fail
          go_region_held3 (fun _ => True) (trivial) (first
            | (go_at_call 7; (refine (kX.out _ (by first | exact Below.refl _ _ | exact (Below.refl _ _).drew)).mono ?_); (rintro e V1 ⟨v1, rfl, hs1, g1⟩; have T1 : Hid (SK .u8 V1 v1 (macB key b)) := hs1; have C1 : Hid (Below w.heap.size w V1) := BW.out.trans (g1.mono BW.out.size); have U1 : Hid (SK .u8 V1 (.slice wa 32 wc) (macB key b)) := hTW.out.below g1; obtain ⟨ya, yc, ye⟩ := hs1.shape; subst ye; clear hs1 g1 kX))
            | (go_at_call 9; (refine (kF.out V1 C1.out U1.out _ T1.out).mono ?_); (rintro e V2 ⟨rfl, g2⟩; have C2 : Hid (Below w.heap.size w V2) := C1.out.trans (g2.mono C1.out.size); have U2 : Hid (SK .u8 V2 (.slice wa 32 wc) (macB key b)) := U1.out.below g2; clear g2 C1 U1 T1))
            | (go_at_call 7; (refine (kT.out V2 C2.out _ (by first | exact Below.refl _ _ | exact (Below.refl _ _).drew)).mono ?_); (rintro e V3 ⟨v3, rfl, hs3, g3⟩; have T3 : Hid (SK .u8 V3 v3 (macB key b)) := hs3; have C3 : Hid (Below w.heap.size w V3) := C2.out.trans (g3.mono C2.out.size); have U3 : Hid (SK .u8 V3 (.slice wa 32 wc) (macB key b)) := U2.out.below g3; obtain ⟨xa, xc, xe⟩ := hs3.shape; subst xe; clear hs3 g3 kT))
            | (go_at_call 9; (refine (kF.out V3 C3.out U3.out _ T3.out).mono ?_); (rintro e V4 ⟨rfl, g4⟩; have C4 : Hid (Below w.heap.size w V4) := C3.out.trans (g4.mono C3.out.size); clear g4 C3 U3 T3 kF))
            | fail)
          all_goals
            go_wp2_with fail
            go_ret
            exact ⟨rfl, C4.out⟩
        · have hj1' : ¬ (j : Int) < z := by omega
          go_wp2_with fail
          go_region_held3 (fun _ => True) (trivial) (first
            | (go_at_call 7; (refine (kX.out _ (by first | exact Below.refl _ _ | exact (Below.refl _ _).drew)).mono ?_); (rintro e V1 ⟨v1, rfl, hs1, g1⟩; have T1 : Hid (SK .u8 V1 v1 (macB key b)) := hs1; have C1 : Hid (Below w.heap.size w V1) := BW.out.trans (g1.mono BW.out.size); have U1 : Hid (SK .u8 V1 (.slice wa 32 wc) (macB key b)) := hTW.out.below g1; obtain ⟨ya, yc, ye⟩ := hs1.shape; subst ye; clear hs1 g1 kX))
            | (go_at_call 9; (refine (kF.out V1 C1.out U1.out _ T1.out).mono ?_); (rintro e V2 ⟨rfl, g2⟩; have C2 : Hid (Below w.heap.size w V2) := C1.out.trans (g2.mono C1.out.size); have U2 : Hid (SK .u8 V2 (.slice wa 32 wc) (macB key b)) := U1.out.below g2; clear g2 C1 U1 T1))
            | (go_at_call 7; (refine (kT.out V2 C2.out _ (by first | exact Below.refl _ _ | exact (Below.refl _ _).drew)).mono ?_); (rintro e V3 ⟨v3, rfl, hs3, g3⟩; have T3 : Hid (SK .u8 V3 v3 (macB key b)) := hs3; have C3 : Hid (Below w.heap.size w V3) := C2.out.trans (g3.mono C2.out.size); have U3 : Hid (SK .u8 V3 (.slice wa 32 wc) (macB key b)) := U2.out.below g3; obtain ⟨xa, xc, xe⟩ := hs3.shape; subst xe; clear hs3 g3 kT))
            | (go_at_call 9; (refine (kF.out V3 C3.out U3.out _ T3.out).mono ?_); (rintro e V4 ⟨rfl, g4⟩; have C4 : Hid (Below w.heap.size w V4) := C3.out.trans (g4.mono C3.out.size); clear g4 C3 U3 T3 kF))
            | fail)
          all_goals
            go_wp2_with fail
            go_ret
            exact ⟨rfl, C4.out⟩
theorem mkeys_any (v1 v2 : Value) (key b : List Nat) (z : Nat) (w : World) (hg : Gl5 w) (h1 : SK .u8 w v1 key) (h2 : SK .u8 w v2 b) (hb1 : Bb key) (hb2 : Bb b) (hz : z < 256) :
    Calls Tryd.prog 4 #[v1, v2, .int .u8 (z : Int)] w fun e w' => e = .returned (.bool true) ∧ Below w.heap.size w w' := by
  by_cases h : 1000 < key.length ∨ 1000 < b.length
  · exact mkeys_far v1 v2 key b z w hg h1 h2 h
  · obtain ⟨a, c, e⟩ := h2.shape
    by_cases hc : c = b.length / 2
    · refine mkeys_near_a v1 v2 key b z w hg h1 h2 hb1 hb2 hz (by omega) (by omega) (fun a' c' e' => ?_)
      rw [e] at e' h2
      have := h2.cap.1
      simp only [Value.slice.injEq] at e'
      omega
    · refine mkeys_near_b v1 v2 key b z w hg h1 h2 hb1 hb2 hz (by omega) (by omega) (fun a' c' e' => ?_)
      rw [e] at e'
      simp only [Value.slice.injEq] at e'
      omega
end Go.Proofs.YteoaiamfpefcbaaDoor
