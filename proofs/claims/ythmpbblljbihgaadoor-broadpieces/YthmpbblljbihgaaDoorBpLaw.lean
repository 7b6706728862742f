/-
  The law BroadPieces walked: bytes that come piece by piece have the sum of all. Conditions: as the theorem says.
-/
import Derived.Test.YthmpbblljbihgaaDoorBrM
namespace Go.Proofs.YthmpbblljbihgaaDoor.Br
open Go.RowKit
set_option linter.unusedVariables false
set_option linter.unusedSimpArgs false

theorem pieces_many (v1 v2 : Value) (ls : List (List Nat)) (l2 : List Nat) (w : World) (hg : Gl6 w) (h1 : LL w v1 ls) (h2 : SK .u8 w v2 l2) (hbig : 50 < ls.length ∨ 1000 < l2.length) :
    Calls Tryd.prog 5 #[v1, v2] w fun e w' => e = .returned (.bool true) ∧ Below w.heap.size w w' := by
  have kW : Hid (Calls Tryd.prog 6 #[] w fun e w' => e = .returned (.bool true) ∧ Below w.heap.size w w') := awake6 w hg
  obtain ⟨a1, c1, rfl, hc1, -⟩ := h1
  obtain ⟨a2, c2, e2⟩ := h2.shape
  subst e2
  obtain ⟨n1, hn1⟩ : ∃ n, ls.length = n := ⟨_, rfl⟩
  obtain ⟨n2, hn2⟩ : ∃ n, l2.length = n := ⟨_, rfl⟩
  rw [hn1] at hbig hc1 ⊢
  rw [hn2] at hbig ⊢
  have HG : Hid (Gl6 w) := hg
  clear h2 hg hn1 hn2
  go_enter Tryd.func5, Tryd.ntmps5
  go_wp2_with fail
  refine kW.out.mono ?_
  rintro e W1 ⟨rfl, hB1⟩
  have B1 : Hid (Below w.heap.size w W1) := hB1
  have kN1 : Hid (Calls Tryd.prog 14 #[] W1 fun e w' => ∃ b, e = .returned (.pointer (some ⟨b, 0, none⟩)) ∧ W1.heap.size ≤ b ∧ HH w' b [] ∧ Below W1.heap.size W1 w') := new_any W1 (HG.out.grown hB1)
  clear hB1 kW
  go_wp2_with fail
  refine kN1.out.mono ?_
  rintro e W2 ⟨b1, rfl, hb1, hH1, hB2⟩
  have B2 : Hid (Below w.heap.size w W2) := B1.out.trans (hB2.mono B1.out.size)
  have kN2 : Hid (Calls Tryd.prog 14 #[] W2 fun e w' => ∃ b, e = .returned (.pointer (some ⟨b, 0, none⟩)) ∧ W2.heap.size ≤ b ∧ HH w' b [] ∧ Below W2.heap.size W2 w') := new_any W2 (HG.out.grown B2.out)
  clear hB2 hH1 kN1
  go_wp2_with fail
  refine kN2.out.mono ?_
  rintro e W3 ⟨b2, rfl, hb2, hH2, hB3⟩
  have B3 : Hid (Below w.heap.size w W3) := B2.out.trans (hB3.mono B2.out.size)
  clear hB3 hH2 kN2
  by_cases hbig1 : 50 < n1
  · have hbig1' : (50 : Int) < n1 := by omega
    go_wp2_with fail
    go_ret
    exact ⟨rfl, B3.out⟩
  · have hbig1' : ¬ (50 : Int) < n1 := by omega
    have hbig2' : (1000 : Int) < n2 := by omega
    go_wp2_with fail
    go_ret
    exact ⟨rfl, B3.out⟩

set_option maxRecDepth 100000 in
set_option maxHeartbeats 4000000 in
theorem pieces_few (v1 v2 : Value) (ls : List (List Nat)) (l2 : List Nat) (w : World) (hg : Gl6 w) (h1 : LL w v1 ls) (h2 : SK .u8 w v2 l2) (hb2 : Bb l2) (hn1 : ls.length ≤ 50) (hn2 : l2.length ≤ 1000) :
    Calls Tryd.prog 5 #[v1, v2] w fun e w' => e = .returned (.bool true) ∧ Below w.heap.size w w' := by
  have kW : Hid (Calls Tryd.prog 6 #[] w fun e w' => e = .returned (.bool true) ∧ Below w.heap.size w w') := awake6 w hg
  obtain ⟨a1, c1, rfl, hc1, K1⟩ := h1
  obtain ⟨a2, c2, e2⟩ := h2.shape
  subst e2
  obtain ⟨n1, hq1⟩ : ∃ n, Hid (ls.length = n) := ⟨_, rfl⟩
  obtain ⟨n2, hq2⟩ : ∃ n, Hid (l2.length = n) := ⟨_, rfl⟩
  have HK : Hid (∀ j, j < ls.length → ∃ b o u, a1 = some ⟨b, o, none⟩ ∧ b < w.heap.size ∧ w.cell? ⟨b, o + j, none⟩ = some u ∧ SK .u8 w u (ls.getD j []) ∧ Bb (ls.getD j [])) := K1
  have HBB : Hid (∀ j, j ≤ ls.length → Bb (cat ls j)) := cat_bb ls (fun j hj => by obtain ⟨b, o, u, _, _, _, _, h⟩ := K1 j hj; exact h)
  have HS2 : Hid (SK .u8 w (.slice a2 l2.length c2) l2) := h2
  have HB2 : Hid (Bb l2) := hb2
  rw [hq1.out] at hc1 hn1 HK HBB ⊢
  rw [hq2.out] at hn2 HS2 ⊢
  have HG : Hid (Gl6 w) := hg
  have hn1' : ¬ (50 : Int) < n1 := by omega
  have hn2' : ¬ (1000 : Int) < n2 := by omega
  have hsz0 : Hid (1 < w.heap.size) := hg.lt
  clear h2 hg K1 hb2
  go_enter Tryd.func5, Tryd.ntmps5
  go_wp2_with fail
  refine kW.out.mono ?_
  rintro e W1 ⟨rfl, hB1⟩
  have B1 : Hid (Below w.heap.size w W1) := hB1
  have kN1 : Hid (Calls Tryd.prog 14 #[] W1 fun e w' => ∃ b, e = .returned (.pointer (some ⟨b, 0, none⟩)) ∧ W1.heap.size ≤ b ∧ HH w' b [] ∧ Below W1.heap.size W1 w') := new_any W1 (HG.out.grown hB1)
  clear hB1 kW
  go_wp2_with fail
  refine kN1.out.mono ?_
  rintro e W2 ⟨b1, rfl, hb1, hH1, hB2⟩
  have B2 : Hid (Below w.heap.size w W2) := B1.out.trans (hB2.mono B1.out.size)
  have kN2 : Hid (Calls Tryd.prog 14 #[] W2 fun e w' => ∃ b, e = .returned (.pointer (some ⟨b, 0, none⟩)) ∧ W2.heap.size ≤ b ∧ HH w' b [] ∧ Below W2.heap.size W2 w') := new_any W2 (HG.out.grown B2.out)
  have H1 : Hid (HH W2 b1 []) := hH1
  have hb1w : Hid (w.heap.size ≤ b1) := Nat.le_trans B1.out.size hb1
  clear hB2 hH1 kN1 B1 hb1
  go_wp2_with fail
  refine kN2.out.mono ?_
  rintro e W3 ⟨b2, rfl, hb2, hH2, hB3⟩
  have B3 : Hid (Below w.heap.size w W3) := B2.out.trans (hB3.mono B2.out.size)
  have H13 : Hid (HH W3 b1 []) := H1.out.below hB3
  have H23 : Hid (HH W3 b2 []) := hH2
  have hne : Hid (b1 ≠ b2) := by have := H1.out.lt; unfold Hid; omega
  have hb2w : Hid (w.heap.size ≤ b2) := Nat.le_trans B2.out.size hb2
  obtain ⟨base, hbase⟩ : ∃ base, Hid (W3.heap.size = base) := ⟨_, rfl⟩
  have hl1 : Hid (b1 < base) := by unfold Hid; rw [← hbase.out]; exact H13.out.lt
  have hl2 : Hid (b2 < base) := by unfold Hid; rw [← hbase.out]; exact H23.out.lt
  have hwb : Hid (w.heap.size ≤ base) := by unfold Hid; rw [← hbase.out]; exact B3.out.size
  clear hB3 hH2 kN2 H1 B2 hb2
  have S3 : Hid (base ≤ W3.heap.size) := by unfold Hid; rw [hbase.out]; exact Nat.le_refl _
  go_wp2_with fail
  go_loopw [7, 25] (fun u y W => ∃ j : Nat, j ≤ n1 ∧ y = .int .i64 j ∧ Own8 base W u (cat ls j) ∧ HH W b1 (cat ls j) ∧ HH W b2 [] ∧ Below w.heap.size w W ∧ base ≤ W.heap.size ∧ Hid ((cat ls j).length ≤ 1000 * j)) (fun _ y _ => n1 - (intOf y).toNat)
  case atStart => exact ⟨0, by omega, rfl, Own8.nil _ _, H13.out, H23.out, B3.out, S3.out, Nat.le_refl _⟩
  case round =>
    clear H13 H23 B3 S3
    obtain ⟨j, hj, rfl, hown, hH1, hH2, hB, hS, hlen⟩ := hrel
    have OW : Hid (Own8 base wr u7 (cat ls j)) := hown
    have H1 : Hid (HH wr b1 (cat ls j)) := hH1
    have H2 : Hid (HH wr b2 []) := hH2
    have BW : Hid (Below w.heap.size w wr) := hB
    have SW : Hid (base ≤ wr.heap.size) := hS
    clear hown hH1 hH2 hB hS
    obtain ⟨ra, rc, hre⟩ := OW.out.sk.shape
    subst hre
    have hlen0 := hlen.out
    obtain ⟨N, hN⟩ : ∃ N, Hid ((cat ls j).length = N) := ⟨_, rfl⟩
    rw [hN.out] at OW hlen0 ⊢
    by_cases hlt : j < n1
    · have hlt' : (j : Int) < n1 := by omega
      obtain ⟨b0, o0, u, rfl, hb0, hcell, hsu, hbu⟩ := HK.out j hlt
      have hcell' := (BW.out.cell (p := ⟨b0, o0 + j, none⟩) hb0).trans hcell
      have ecat : Hid (cat ls (j + 1) = cat ls j ++ ls.getD j []) := rfl
      obtain ⟨p, hp⟩ : ∃ p, Hid (ls.getD j [] = p) := ⟨_, rfl⟩
      rw [hp.out] at hsu hbu ecat
      obtain ⟨ua, uc, hue⟩ := hsu.shape
      subst hue
      obtain ⟨P, hP⟩ : ∃ P, Hid (p.length = P) := ⟨_, rfl⟩
      rw [hP.out] at hcell' hsu
      have SU : Hid (SK .u8 w (.slice ua P uc) p) := hsu
      have BU : Hid (Bb p) := hbu
      clear hcell hsu hbu
      by_cases hbig : 1000 < P
      · have hbig' : (1000 : Int) < P := by omega
        go_wp2_with fail
        go_ret
        exact ⟨rfl, BW.out⟩
      · have hbig' : ¬ (1000 : Int) < P := by omega
        have kWr : Hid (Calls Tryd.prog 15 #[.pointer (some ⟨b1, 0, none⟩), .slice ua P uc] wr fun e w' => e = .returned (.tuple #[]) ∧ HH w' b1 (cat ls j ++ p) ∧ Oth b1 wr w') :=
          write_any (cat ls j) p (HBB.out j (by omega)) BU.out (by rw [hN.out, hP.out]; omega) _ wr (HG.out.grown BW.out) b1 (by have := hsz0.out; have := hb1w.out; omega) H1.out (SU.out.below BW.out) (SU.out.off hb1w.out)
        go_wp2_with fail
        refine kWr.out.mono ?_
        rintro e V1 ⟨rfl, hH, hO⟩
        have BV1 : Hid (Below w.heap.size w V1) := Oth.bel BW.out hO hb1w.out
        have H1V1 : Hid (HH V1 b1 (cat ls (j + 1))) := by rw [ecat.out]; exact hH
        have H2V1 : Hid (HH V1 b2 []) := H2.out.oth hO (Ne.symm hne.out)
        have OV1 : Hid (Own8 base V1 (.slice ra N rc) (cat ls j)) := OW.out.oth hO hl1.out
        have SV1 : Hid (base ≤ V1.heap.size) := Nat.le_trans SW.out hO.size
        have SUV1 : Hid (SK .u8 V1 (.slice ua P uc) p) := SU.out.below BV1.out
        have hNl : Hid ((cat ls j).length ≤ 1000000) := by unfold Hid; rw [hN.out]; omega
        have hPl : Hid (p.length ≤ 1000000) := by unfold Hid; rw [hP.out]; omega
        clear hH hO kWr OW H1 H2 BW SW hcell'
        go_upto_region 14 with (at_builtin; refine wpList_app8S rfl _ _ rfl base (.slice ra N rc) (cat ls j) p (.slice ua P uc) rfl OV1.out rfl SUV1.out hNl.out hPl.out SV1.out ?_; intro v' V2 hown' hb')
        have BV2 : Hid (Below w.heap.size w V2) := BV1.out.trans (hb'.mono hwb.out)
        have H1V2 : Hid (HH V2 b1 (cat ls (j + 1))) := H1V1.out.under hb' hl1.out
        have H2V2 : Hid (HH V2 b2 []) := H2V1.out.under hb' hl2.out
        have OV2 : Hid (Own8 base V2 v' (cat ls (j + 1))) := by rw [ecat.out]; exact hown'
        have SV2 : Hid (base ≤ V2.heap.size) := Nat.le_trans SV1.out hb'.size
        clear hown' hb' BV1 H1V1 H2V1 OV1 SV1 SUV1
        have hlen1 : Hid ((cat ls (j + 1)).length = N + P) := by unfold Hid; rw [ecat.out, List.length_append, hN.out, hP.out]
        have hsk2 := OV2.out.sk
        obtain ⟨sa, sc, hse⟩ := hsk2.shape
        rw [hlen1.out] at hse
        subst hse
        have kHS : Hid (Calls Tryd.prog 16 #[.pointer (some ⟨b1, 0, none⟩)] V2 fun e w' => ∃ v', e = .returned v' ∧ SK .u8 w' v' (sumB (cat ls (j + 1))) ∧ Below V2.heap.size V2 w') :=
          hsum_any (cat ls (j + 1)) (HBB.out _ (by omega)) (by rw [hlen1.out]; omega) V2 (HG.out.grown BV2.out) b1 (by have := hsz0.out; have := hb1w.out; omega) H1V2.out
        have SKV2 : Hid (SK .u8 V2 (.slice sa (N + P) sc) (cat ls (j + 1))) := hsk2
        clear hsk2
        go_wp2_with fail
        refine kHS.out.mono ?_
        rintro e V3 ⟨q, rfl, hq, hb3⟩
        have BV3 : Hid (Below w.heap.size w V3) := BV2.out.trans (hb3.mono BV2.out.size)
        have H1V3 : Hid (HH V3 b1 (cat ls (j + 1))) := H1V2.out.below hb3
        have H2V3 : Hid (HH V3 b2 []) := H2V2.out.below hb3
        have OV3 : Hid (Own8 base V3 (.slice sa (N + P) sc) (cat ls (j + 1))) := OV2.out.grown hb3
        have SV3 : Hid (base ≤ V3.heap.size) := Nat.le_trans SV2.out hb3.size
        have QV3 : Hid (SK .u8 V3 q (sumB (cat ls (j + 1)))) := hq
        obtain ⟨qa, qc, hqe⟩ := hq.shape
        subst hqe
        have kSm : Hid (Calls Tryd.prog 8 #[.slice sa (N + P) sc] V3 fun e w' => ∃ v', e = .returned v' ∧ SK .u8 w' v' (sumB (cat ls (j + 1))) ∧ Below V3.heap.size V3 w') :=
          sum_any (cat ls (j + 1)) (HBB.out _ (by omega)) (by rw [hlen1.out]; omega) _ V3 (HG.out.grown BV3.out) (SKV2.out.below hb3)
        clear hb3 hq kHS BV2 H1V2 H2V2 OV2 SV2 SKV2
        go_wp2_with fail
        refine kSm.out.mono ?_
        rintro e V4 ⟨q2, rfl, hq2', hb4⟩
        have BV4 : Hid (Below w.heap.size w V4) := BV3.out.trans (hb4.mono BV3.out.size)
        have H1V4 : Hid (HH V4 b1 (cat ls (j + 1))) := H1V3.out.below hb4
        have H2V4 : Hid (HH V4 b2 []) := H2V3.out.below hb4
        have OV4 : Hid (Own8 base V4 (.slice sa (N + P) sc) (cat ls (j + 1))) := OV3.out.grown hb4
        have SV4 : Hid (base ≤ V4.heap.size) := Nat.le_trans SV3.out hb4.size
        obtain ⟨q2a, q2c, hq2e⟩ := hq2'.shape
        subst hq2e
        have kSa : Hid (Calls Tryd.prog 7 #[.slice qa (sumB (cat ls (j + 1))).length qc, .slice q2a (sumB (cat ls (j + 1))).length q2c] V4 fun e w' => e = .returned (.bool true) ∧ Below V4.heap.size V4 w') :=
          same_sk (sumB (cat ls (j + 1))) (by rw [sumB_length]; omega) _ _ V4 (QV3.out.below hb4) hq2'
        clear hb4 hq2' kSm BV3 H1V3 H2V3 OV3 SV3 QV3
        go_wp2_with fail
        refine kSa.out.mono ?_
        rintro e V5 ⟨rfl, hb5⟩
        have BV5 : Hid (Below w.heap.size w V5) := BV4.out.trans (hb5.mono BV4.out.size)
        have H1V5 : Hid (HH V5 b1 (cat ls (j + 1))) := H1V4.out.below hb5
        have H2V5 : Hid (HH V5 b2 []) := H2V4.out.below hb5
        have OV5 : Hid (Own8 base V5 (.slice sa (N + P) sc) (cat ls (j + 1))) := OV4.out.grown hb5
        have SV5 : Hid (base ≤ V5.heap.size) := Nat.le_trans SV4.out hb5.size
        have kLn : Hid (Calls Tryd.prog 17 #[.pointer (some ⟨b1, 0, none⟩)] V5 fun e w' => e = .returned (.int .i64 ((N : Int) + (P : Int))) ∧ w' = V5) := by
          have := len_any (cat ls (j + 1)) V5 b1 H1V5.out
          rw [hlen1.out] at this
          unfold Hid
          simpa using this
        clear hb5 kSa BV4 H1V4 H2V4 OV4 SV4
        go_wp2_with fail
        refine kLn.out.mono ?_
        rintro e V6 ⟨rfl, hV6⟩
        rw [hV6]
        clear hV6 V6 kLn
        go_wp2_with fail
        go_roundw
        case rel => exact ⟨j + 1, by omega, by go_num, OV5.out, H1V5.out, H2V5.out, BV5.out, SV5.out, by unfold Hid; rw [hlen1.out]; omega⟩
        case measure => simp [intOf] <;> omega
    · obtain rfl : j = n1 := by omega
      have AB : Hid (Bb (cat ls j)) := HBB.out j (by omega)
      obtain ⟨A, hA⟩ : ∃ A, cat ls j = A := ⟨_, rfl⟩
      rw [hA] at OW H1 AB hN hlen
      have kW1 : Hid (Calls Tryd.prog 15 #[.pointer (some ⟨b2, 0, none⟩), .slice ra N rc] wr fun e w' => e = .returned (.tuple #[]) ∧ HH w' b2 A ∧ Oth b2 wr w') := by
        have := write_any [] A Bb.nil AB.out (by rw [hN.out]; simp; omega) _ wr (HG.out.grown BW.out) b2 (by have := hsz0.out; have := hb2w.out; omega) H2.out OW.out.sk (OW.out.off hl2.out)
        rw [List.nil_append] at this
        exact this
      go_wp2_with fail
      refine kW1.out.mono ?_
      rintro e V1 ⟨rfl, hH, hO⟩
      have BV1 : Hid (Below w.heap.size w V1) := Oth.bel BW.out hO hb2w.out
      have H1V1 : Hid (HH V1 b1 A) := H1.out.oth hO hne.out
      have H2V1 : Hid (HH V1 b2 A) := hH
      have kW2 : Hid (Calls Tryd.prog 15 #[.pointer (some ⟨b1, 0, none⟩), .slice a2 n2 c2] V1 fun e w' => e = .returned (.tuple #[]) ∧ HH w' b1 (A ++ l2) ∧ Oth b1 V1 w') :=
        write_any A l2 AB.out HB2.out (by rw [hN.out, hq2.out]; omega) _ V1 (HG.out.grown BV1.out) b1 (by have := hsz0.out; have := hb1w.out; omega) H1V1.out (HS2.out.below BV1.out) (HS2.out.off hb1w.out)
      clear hH hO kW1 OW H1 H2 BW SW
      go_wp2_with fail
      refine kW2.out.mono ?_
      rintro e V2 ⟨rfl, hH, hO⟩
      have BV2 : Hid (Below w.heap.size w V2) := Oth.bel BV1.out hO hb1w.out
      have H1V2 : Hid (HH V2 b1 (A ++ l2)) := hH
      have H2V2 : Hid (HH V2 b2 A) := H2V1.out.oth hO (Ne.symm hne.out)
      have kW3 : Hid (Calls Tryd.prog 15 #[.pointer (some ⟨b2, 0, none⟩), .slice a2 n2 c2] V2 fun e w' => e = .returned (.tuple #[]) ∧ HH w' b2 (A ++ l2) ∧ Oth b2 V2 w') :=
        write_any A l2 AB.out HB2.out (by rw [hN.out, hq2.out]; omega) _ V2 (HG.out.grown BV2.out) b2 (by have := hsz0.out; have := hb2w.out; omega) H2V2.out (HS2.out.below BV2.out) (HS2.out.off hb2w.out)
      clear hH hO kW2 BV1 H1V1 H2V1
      go_wp2_with fail
      refine kW3.out.mono ?_
      rintro e V3 ⟨rfl, hH, hO⟩
      have BV3 : Hid (Below w.heap.size w V3) := Oth.bel BV2.out hO hb2w.out
      have H1V3 : Hid (HH V3 b1 (A ++ l2)) := H1V2.out.oth hO hne.out
      have H2V3 : Hid (HH V3 b2 (A ++ l2)) := hH
      have kW4 : Hid (Calls Tryd.prog 15 #[.pointer none, .slice a2 n2 c2] V3 fun e w' => e = .returned (.tuple #[]) ∧ w' = V3) := write_nil _ V3 l2 (HS2.out.below BV3.out)
      clear hH hO kW3 BV2 H1V2 H2V2
      go_wp2_with fail
      refine kW4.out.mono ?_
      rintro e V4 ⟨rfl, hV4⟩
      rw [hV4]
      clear hV4 V4 kW4
      have AB2 : Hid (Bb (A ++ l2)) := AB.out.app HB2.out
      have hAl : Hid ((A ++ l2).length ≤ 100000000) := by unfold Hid; rw [List.length_append, hN.out, hq2.out]; omega
      obtain ⟨M, hM⟩ : ∃ M, A ++ l2 = M := ⟨_, rfl⟩
      rw [hM] at H1V3 H2V3 AB2 hAl
      have kS1 : Hid (Calls Tryd.prog 16 #[.pointer (some ⟨b1, 0, none⟩)] V3 fun e w' => ∃ v', e = .returned v' ∧ SK .u8 w' v' (sumB M) ∧ Below V3.heap.size V3 w') :=
        hsum_any M AB2.out hAl.out V3 (HG.out.grown BV3.out) b1 (by have := hsz0.out; have := hb1w.out; omega) H1V3.out
      go_wp2_with fail
      refine kS1.out.mono ?_
      rintro e V5 ⟨q, rfl, hq, hb5⟩
      have BV5 : Hid (Below w.heap.size w V5) := BV3.out.trans (hb5.mono BV3.out.size)
      have H2V5 : Hid (HH V5 b2 M) := H2V3.out.below hb5
      have QV5 : Hid (SK .u8 V5 q (sumB M)) := hq
      obtain ⟨qa, qc, hqe⟩ := hq.shape
      subst hqe
      have kS2 : Hid (Calls Tryd.prog 16 #[.pointer (some ⟨b2, 0, none⟩)] V5 fun e w' => ∃ v', e = .returned v' ∧ SK .u8 w' v' (sumB M) ∧ Below V5.heap.size V5 w') :=
        hsum_any M AB2.out hAl.out V5 (HG.out.grown BV5.out) b2 (by have := hsz0.out; have := hb2w.out; omega) H2V5.out
      clear hq hb5 kS1 BV3 H1V3 H2V3
      go_wp2_with fail
      refine kS2.out.mono ?_
      rintro e V6 ⟨q2, rfl, hq2', hb6⟩
      have BV6 : Hid (Below w.heap.size w V6) := BV5.out.trans (hb6.mono BV5.out.size)
      obtain ⟨q2a, q2c, hq2e⟩ := hq2'.shape
      subst hq2e
      have kSa : Hid (Calls Tryd.prog 7 #[.slice qa (sumB M).length qc, .slice q2a (sumB M).length q2c] V6 fun e w' => e = .returned (.bool true) ∧ Below V6.heap.size V6 w') :=
        same_sk (sumB M) (by rw [sumB_length]; omega) _ _ V6 (QV5.out.below hb6) hq2'
      clear hq2' hb6 kS2 BV5 H2V5 QV5
      go_wp2_with fail
      refine kSa.out.mono ?_
      rintro e V7 ⟨rfl, hb7⟩
      have BV7 : Hid (Below w.heap.size w V7) := BV6.out.trans (hb7.mono BV6.out.size)
      have kN : Hid (Calls Tryd.prog 16 #[.pointer none] V7 fun e w' => e = .returned (.slice none 0 0) ∧ w' = V7) := hsum_nil V7
      have kM : Hid (Calls Tryd.prog 17 #[.pointer none] V7 fun e w' => e = .returned (.int .i64 0) ∧ w' = V7) := len_nil V7
      clear hb7 kSa BV6
      go_wp2_with fail
      refine kN.out.mono ?_
      rintro e V8 ⟨rfl, hV8⟩
      rw [hV8]
      clear hV8 V8 kN
      go_wp2_with fail
      refine kM.out.mono ?_
      rintro e V8 ⟨rfl, hV8⟩
      rw [hV8]
      clear hV8 V8 kM
      go_wp2_with fail
      go_ret
      exact ⟨rfl, BV7.out⟩
theorem pieces_any (v1 v2 : Value) (ls : List (List Nat)) (l2 : List Nat) (w : World) (hg : Gl6 w) (h1 : LL w v1 ls) (h2 : SK .u8 w v2 l2) (hb2 : Bb l2) :
    Calls Tryd.prog 5 #[v1, v2] w fun e w' => e = .returned (.bool true) ∧ Below w.heap.size w w' := by
  by_cases h : 50 < ls.length ∨ 1000 < l2.length
  · exact pieces_many v1 v2 ls l2 w hg h1 h2 h
  · exact pieces_few v1 v2 ls l2 w hg h1 h2 hb2 (by omega) (by omega)
end Go.Proofs.YthmpbblljbihgaaDoor.Br
