/-
  The law MacSums walked: any parts have the document's sum under any key; lists of bytes are the same just if all are. Conditions: as the theorems say.
-/
import Derived.Test.YteoaiamfpefcbaaDoorMcV
import Derived.Test.YteoaiamfpefcbaaDoorMcE
import Derived.Test.YteoaiamfpefcbaaDoorMcD
namespace Go.Proofs.YteoaiamfpefcbaaDoor
open Go.RowKit
set_option linter.unusedVariables false
set_option linter.unusedSimpArgs false

theorem ll_below {W W' : World} {v : Value} {ls : List (List Nat)} (h : LL W v ls) (hb : Below W.heap.size W W') : LL W' v ls := by
  obtain ⟨a, c, e, hc, k⟩ := h
  refine ⟨a, c, e, hc, fun j hj => ?_⟩
  obtain ⟨b, o, u, h1, h2, h3, h4, h5⟩ := k j hj
  exact ⟨b, o, u, h1, Nat.lt_of_lt_of_le h2 hb.size, (hb.cell (p := ⟨b, o + j, none⟩) h2).trans h3, h4.below hb, h5⟩

theorem msums_far (v1 v2 v3 : Value) (key : List Nat) (ls : List (List Nat)) (other : List Nat) (w : World) (hg : Gl5 w) (h1 : SK .u8 w v1 key) (h2 : LL w v2 ls) (h3 : SK .u8 w v3 other) (hbig : 1000 < key.length ∨ 20 < ls.length) :
    Calls Tryd.prog 3 #[v1, v2, v3] w fun e w' => e = .returned (.bool true) ∧ Below w.heap.size w w' := by
  have kW : Hid (Calls Tryd.prog 5 #[] w fun e w' => e = .returned (.bool true) ∧ Below w.heap.size w w') := awake7 w hg
  obtain ⟨a1, c1, e1⟩ := h1.shape
  subst e1
  obtain ⟨a2, c2, rfl, hc2, -⟩ := h2
  obtain ⟨a3, c3, e3⟩ := h3.shape
  subst e3
  obtain ⟨n1, hn1⟩ : ∃ n, key.length = n := ⟨_, rfl⟩
  obtain ⟨n2, hn2⟩ : ∃ n, ls.length = n := ⟨_, rfl⟩
  obtain ⟨n3, hn3⟩ : ∃ n, other.length = n := ⟨_, rfl⟩
  rw [hn1, hn2] at hbig
  rw [hn1, hn2, hn3]
  clear h1 h3 hg hn1 hn2 hn3 hc2
  go_enter Tryd.func3, Tryd.ntmps3
  go_wp2_with fail
  refine kW.out.mono ?_
  rintro e W1 ⟨rfl, hB1⟩
  have B1 : Hid (Below w.heap.size w W1) := hB1
  clear hB1 kW
  by_cases hbig1 : 1000 < n1
  · have hbig1' : (1000 : Int) < n1 := by omega
    go_wp2_with fail
    go_ret
    exact ⟨rfl, B1.out⟩
  · have hbig1' : ¬ (1000 : Int) < n1 := by omega
    have hbig2' : (20 : Int) < n2 := by omega
    go_wp2_with fail
    go_ret
    exact ⟨rfl, B1.out⟩

set_option maxRecDepth 100000 in
set_option maxHeartbeats 4000000 in
theorem msums_near (v1 v2 v3 : Value) (key : List Nat) (ls : List (List Nat)) (other : List Nat) (w : World) (hg : Gl5 w) (h1 : SK .u8 w v1 key) (h2 : LL w v2 ls) (h3 : SK .u8 w v3 other) (hb1 : Bb key) (hb3 : Bb other)
    (hn1 : key.length ≤ 1000) (hn2 : ls.length ≤ 20) (hn3 : other.length < 9223372036854775808) :
    Calls Tryd.prog 3 #[v1, v2, v3] w fun e w' => e = .returned (.bool true) ∧ Below w.heap.size w w' := by
  have kW : Hid (Calls Tryd.prog 5 #[] w fun e w' => e = .returned (.bool true) ∧ Below w.heap.size w w') := awake7 w hg
  have H2 : Hid (LL w v2 ls) := h2
  obtain ⟨a1, c1, e1⟩ := h1.shape
  subst e1
  obtain ⟨a2, c2, rfl, hc2, K2⟩ := h2
  obtain ⟨a3, c3, e3⟩ := h3.shape
  subst e3
  have HK : Hid (∀ j, j < ls.length → ∃ b o u, a2 = some ⟨b, o, none⟩ ∧ b < w.heap.size ∧ w.cell? ⟨b, o + j, none⟩ = some u ∧ SK .u8 w u (ls.getD j []) ∧ Bb (ls.getD j [])) := K2
  have HBB : Hid (∀ j, j ≤ ls.length → Bb (cat ls j)) := cat_bb ls (fun j hj => by obtain ⟨b, o, u, _, _, _, _, h⟩ := K2 j hj; exact h)
  have H1 : Hid (SK .u8 w (.slice a1 key.length c1) key) := h1
  have H3 : Hid (SK .u8 w (.slice a3 other.length c3) other) := h3
  have HB1 : Hid (Bb key) := hb1
  have HB3 : Hid (Bb other) := hb3
  have HN3 : Hid (other.length < 9223372036854775808) := hn3
  obtain ⟨n1, hq1⟩ : ∃ n, Hid (key.length = n) := ⟨_, rfl⟩
  obtain ⟨n2, hq2⟩ : ∃ n, Hid (ls.length = n) := ⟨_, rfl⟩
  obtain ⟨n3, hq3⟩ : ∃ n, Hid (other.length = n) := ⟨_, rfl⟩
  rw [hq1.out] at hn1 H1 ⊢
  rw [hq2.out] at hc2 hn2 HK HBB H2 ⊢
  rw [hq3.out] at H3 ⊢
  have HG : Hid (Gl5 w) := hg
  have hn1' : ¬ (1000 : Int) < n1 := by omega
  have hn2' : ¬ (20 : Int) < n2 := by omega
  obtain ⟨t, ht⟩ : ∃ t, Hid (decide (key = other) = t) := ⟨_, rfl⟩
  clear h1 h3 hg K2 hb1 hb3 hn3
  go_enter Tryd.func3, Tryd.ntmps3
  go_wp2_with fail
  refine kW.out.mono ?_
  rintro e W1 ⟨rfl, hB1⟩
  have B1 : Hid (Below w.heap.size w W1) := hB1
  clear hB1 kW
  go_wp2_with fail
  obtain ⟨base, hbase⟩ : ∃ base, Hid (W1.heap.size = base) := ⟨_, rfl⟩
  have hwb : Hid (w.heap.size ≤ base) := by unfold Hid; rw [← hbase.out]; exact B1.out.size
  have S1 : Hid (base ≤ W1.heap.size) := by unfold Hid; rw [hbase.out]; exact Nat.le_refl _
  go_loopw [7, 22] (fun u y W => ∃ j : Nat, j ≤ n2 ∧ y = .int .i64 j ∧ Own8 base W u (cat ls j) ∧ Below w.heap.size w W ∧ base ≤ W.heap.size ∧ Hid ((cat ls j).length ≤ 500 * j)) (fun _ y _ => n2 - (intOf y).toNat)
  case atStart => exact ⟨0, by omega, rfl, Own8.nil _ _, B1.out, S1.out, Nat.le_refl _⟩
  case round =>
    clear B1 S1
    obtain ⟨j, hj, rfl, hown, hB, hS, hlen⟩ := hrel
    have OW : Hid (Own8 base wr u7 (cat ls j)) := hown
    have BW : Hid (Below w.heap.size w wr) := hB
    have SW : Hid (base ≤ wr.heap.size) := hS
    clear hown hB hS
    obtain ⟨ra, rc, hre⟩ := OW.out.sk.shape
    subst hre
    have hlen0 := hlen.out
    obtain ⟨N, hN⟩ : ∃ N, Hid ((cat ls j).length = N) := ⟨_, rfl⟩
    rw [hN.out] at OW hlen0 ⊢
    by_cases hlt : j < n2
    · have hlt' : (j : Int) < n2 := by omega
      obtain ⟨b0, o0, u, rfl, hb0, hcell, hsu, hbu⟩ := HK.out j hlt
      have hcell' := (BW.out.cell (p := ⟨b0, o0 + j, none⟩) hb0).trans hcell
      have ecat : Hid (cat ls (j + 1) = cat ls j ++ ls.getD j []) := rfl
      obtain ⟨p, hp⟩ : ∃ p, Hid (ls.getD j [] = p) := ⟨_, rfl⟩
      rw [hp.out] at hsu hbu ecat
      obtain ⟨ua, uc, hue⟩ := hsu.shape
      subst hue
      obtain ⟨P, hP⟩ : ∃ P, Hid (p.length = P) := ⟨_, rfl⟩
      rw [hP.out] at hcell' hsu
      have SU : Hid (SK .u8 wr (.slice ua P uc) p) := hsu.below BW.out
      clear hcell hsu hbu
      by_cases hbig : 500 < P
      · have hbig' : (500 : Int) < P := by omega
        go_wp2_with fail
        go_ret
        exact ⟨rfl, BW.out⟩
      · have hbig' : ¬ (500 : Int) < P := by omega
        have hNl : Hid ((cat ls j).length ≤ 1000000) := by unfold Hid; rw [hN.out]; omega
        have hPl : Hid (p.length ≤ 1000000) := by unfold Hid; rw [hP.out]; omega
        go_wp2_with (at_builtin; refine wpList_app8S rfl _ _ rfl base (.slice ra N rc) (cat ls j) p (.slice ua P uc) rfl OW.out rfl SU.out hNl.out hPl.out SW.out ?_; intro v' V2 hown' hb')
        have BV2 : Hid (Below w.heap.size w V2) := BW.out.trans (hb'.mono hwb.out)
        have OV2 : Hid (Own8 base V2 v' (cat ls (j + 1))) := by rw [ecat.out]; exact hown'
        have SV2 : Hid (base ≤ V2.heap.size) := Nat.le_trans SW.out hb'.size
        have hlen1 : Hid ((cat ls (j + 1)).length ≤ 500 * (j + 1)) := by unfold Hid; rw [ecat.out, List.length_append, hN.out, hP.out]; omega
        clear hown' hb' BW OW SW SU hcell'
        go_roundw
        case rel => exact ⟨j + 1, by omega, by go_num, OV2.out, BV2.out, SV2.out, hlen1⟩
        case measure => simp [intOf]; omega
    · obtain rfl : j = n2 := by omega
      have hM1 : Hid ((cat ls j).length ≤ 10000) := by unfold Hid; rw [hN.out]; omega
      have hMB : Hid (Bb (cat ls j)) := HBB.out j (Nat.le_refl _)
      have AW : Hid (SK .u8 wr (.slice ra N rc) (cat ls j)) := OW.out.sk
      have kM : Hid (Calls Tryd.prog 7 #[.slice a1 n1 c1, .slice a2 j c2] wr fun e w' => ∃ v, e = .returned v ∧ SK .u8 w' v (macB key (cat ls j)) ∧ Below wr.heap.size wr w') := by
        have := mac_any key HB1.out (by rw [hq1.out]; omega) (.slice a1 n1 c1) ls (by rw [hq2.out]; omega) (by rw [hq2.out]; exact Nat.le_trans hM1.out (by omega)) (.slice a2 j c2) wr (HG.out.grown BW.out) (H1.out.below BW.out) (ll_below H2.out BW.out)
        rw [hq2.out] at this
        exact this
      clear OW hlen
      go_wp2_with fail
      refine kM.out.mono ?_
      rintro e V1 ⟨v1, rfl, hs1, g1⟩
      have B1 : Hid (Below w.heap.size w V1) := BW.out.trans (g1.mono BW.out.size)
      have A1 : Hid (SK .u8 V1 (.slice ra N rc) (cat ls j)) := AW.out.below g1
      have T1 : Hid (SK .u8 V1 v1 (macB key (cat ls j))) := hs1
      obtain ⟨ya, yc, ye⟩ := hs1.shape
      subst ye
      have kR : Hid (Calls Tryd.prog 8 #[.slice a1 n1 c1, .slice ra N rc] V1 fun e w' => ∃ v', e = .returned v' ∧ SK .u8 w' v' (macB key (cat ls j)) ∧ Below V1.heap.size V1 w') :=
        refmac_any key HB1.out (by rw [hq1.out]; omega) _ (cat ls j) hMB.out (by have := hM1.out; omega) _ V1 (H1.out.below B1.out) A1.out
      clear hs1 g1 kM BW AW
      go_wp2_with fail
      refine kR.out.mono ?_
      rintro e V2 ⟨v2, rfl, hs2, g2⟩
      have B2 : Hid (Below w.heap.size w V2) := B1.out.trans (g2.mono B1.out.size)
      have A2 : Hid (SK .u8 V2 (.slice ra N rc) (cat ls j)) := A1.out.below g2
      have T2 : SK .u8 V2 (.slice ya (macB key (cat ls j)).length yc) (macB key (cat ls j)) := T1.out.below g2
      obtain ⟨za, zc, ze⟩ := hs2.shape
      subst ze
      have kQ : Hid (Calls Tryd.prog 6 #[.slice ya (macB key (cat ls j)).length yc, .slice za (macB key (cat ls j)).length zc] V2 fun e w' => e = .returned (.bool true) ∧ Below V2.heap.size V2 w') := same_sk (macB key (cat ls j)) (by rw [macB_length]; omega) _ _ V2 T2 hs2
      clear hs2 g2 kR B1 A1 T1 T2
      go_wp2_with fail
      refine kQ.out.mono ?_
      rintro e V3 ⟨rfl, g3⟩
      have B3 : Hid (Below w.heap.size w V3) := B2.out.trans (g3.mono B2.out.size)
      have A3 : Hid (SK .u8 V3 (.slice ra N rc) (cat ls j)) := A2.out.below g3
      have kX : Hid (Calls Tryd.prog 9 #[.slice a1 n1 c1, .slice a3 n3 c3] V3 fun e w' => e = .returned (.bool t) ∧ Below V3.heap.size V3 w') := by
        rw [← ht.out]
        exact msame_any key other (by rw [hq1.out]; omega) HN3.out HB1.out HB3.out _ _ V3 (H1.out.below B3.out) (H3.out.below B3.out)
      clear g3 kQ B2 A2
      go_wp2_with fail
      refine kX.out.mono ?_
      rintro e V4 ⟨rfl, g4⟩
      have B4 : Hid (Below w.heap.size w V4) := B3.out.trans (g4.mono B3.out.size)
      have A4 : Hid (SK .u8 V4 (.slice ra N rc) (cat ls j)) := A3.out.below g4
      have kY : Hid (Calls Tryd.prog 6 #[.slice a1 n1 c1, .slice a3 n3 c3] V4 fun e w' => e = .returned (.bool t) ∧ Below V4.heap.size V4 w') := by
        rw [← ht.out]
        exact nsame_any key other _ _ V4 (H1.out.below B4.out) (H3.out.below B4.out) (by rw [hq1.out]; omega)
      clear g4 kX B3 A3
      go_wp2_with fail
      refine kY.out.mono ?_
      rintro e V5 ⟨rfl, g5⟩
      have B5 : Hid (Below w.heap.size w V5) := B4.out.trans (g5.mono B4.out.size)
      have kZ : Hid (Calls Tryd.prog 9 #[.slice ra N rc, .slice ra N rc] V5 fun e w' => e = .returned (.bool true) ∧ Below V5.heap.size V5 w') := by
        have h := msame_any (cat ls j) (cat ls j) (by have := hM1.out; omega) (by have := hM1.out; omega) hMB.out hMB.out _ _ V5 (A4.out.below g5) (A4.out.below g5)
        have e : decide (cat ls j = cat ls j) = true := by simp
        rw [e] at h
        exact h
      clear g5 kY B4 A4
      go_wp2_with fail
      refine kZ.out.mono ?_
      rintro e V6 ⟨rfl, g6⟩
      have B6 : Hid (Below w.heap.size w V6) := B5.out.trans (g6.mono B5.out.size)
      clear g6 kZ B5
      go_wp2_with fail
      go_ret
      exact ⟨rfl, B6.out⟩
theorem msums_any (v1 v2 v3 : Value) (key : List Nat) (ls : List (List Nat)) (other : List Nat) (w : World) (hg : Gl5 w) (h1 : SK .u8 w v1 key) (h2 : LL w v2 ls) (h3 : SK .u8 w v3 other) (hb1 : Bb key) (hb3 : Bb other) (hn3 : other.length < 9223372036854775808) :
    Calls Tryd.prog 3 #[v1, v2, v3] w fun e w' => e = .returned (.bool true) ∧ Below w.heap.size w w' := by
  by_cases h : 1000 < key.length ∨ 20 < ls.length
  · exact msums_far v1 v2 v3 key ls other w hg h1 h2 h3 h
  · exact msums_near v1 v2 v3 key ls other w hg h1 h2 h3 hb1 hb3 (by omega) (by omega) hn3
end Go.Proofs.YteoaiamfpefcbaaDoor
