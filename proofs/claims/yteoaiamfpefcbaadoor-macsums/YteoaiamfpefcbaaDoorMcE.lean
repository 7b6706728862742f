/-
  The contracts of the document's own With, Block and Sum of layer 7. Conditions: as each theorem says.
-/
import Derived.Test.YteoaiamfpefcbaaDoorMcV
import Derived.Test.YteoaiamfpefcbaaDoorDnC
import Derived.Laws.BitsAllLaws
namespace Go.Proofs.YteoaiamfpefcbaaDoor
open Go.RowKit
set_option linter.unusedVariables false
set_option linter.unusedSimpArgs false

set_option maxHeartbeats 1000000 in
theorem with_own (l : List Nat) (hb : Bb l) (hlen : l.length ≤ 100000) (x : Nat) (hx : x < 256) (v : Value) (w : World) (hs : SK .u8 w v l) :
    Calls Tryd.prog 18 #[v, .int .u8 (x : Int)] w fun e w' => ∃ v', e = .returned v' ∧ Own8 w.heap.size w' v' (xm l x) ∧ Below w.heap.size w w' := by
  obtain ⟨a, cap, rfl, -, -, k1⟩ := hs
  have K1 : Hid (∀ j, j < l.length → ∃ b o, a = some ⟨b, o, none⟩ ∧ b < w.heap.size ∧ w.cell? ⟨b, o + j, none⟩ = some (.int .u8 (l.getD j 0 : Int))) := k1
  have HB : Hid (Bb l) := hb
  have HX : Hid (∀ i, i < l.length → xm (l.take (i + 1)) x = xm (l.take i) x ++ [l.getD i 0 ^^^ x]) := fun i hi => xm_snoc l x i hi
  have HT : Hid (xm (l.take l.length) x = xm l x) := by unfold Hid; rw [List.take_length]
  obtain ⟨n, hn⟩ : ∃ n, Hid (l.length = n) := ⟨_, rfl⟩
  rw [hn.out] at K1 hlen HX HT ⊢
  have hn' : (n : Int) ≤ 100000 := by omega
  clear k1 hb
  go_enter Tryd.func18, Tryd.ntmps18
  go_wp2_with fail
  go_loopw [5, 6] (fun v y wr => ∃ i : Nat, i ≤ n ∧ y = .int .i64 i ∧ Own8 w.heap.size wr v (xm (l.take i) x) ∧ Below w.heap.size w wr) (fun _ y _ => n - (intOf y).toNat)
  case atStart => exact ⟨0, by omega, rfl, Own8.nil _ _, Below.refl _ _⟩
  case round =>
    obtain ⟨i, hi, rfl, hown, hbel⟩ := hrel
    have hsz := hbel.size
    have Hb : Hid (Below w.heap.size w wr) := hbel
    have Ho : Hid (Own8 w.heap.size wr u5 (xm (l.take i) x)) := hown
    clear hown
    by_cases hlt : i < n
    · have hlt' : (i : Int) < n := by omega
      obtain ⟨b1, o1, rfl, l1, k1⟩ := K1.out i hlt
      have d1 := (hbel.cell (p := ⟨b1, o1 + i, none⟩) l1).trans k1
      have q := HB.out i
      have hsn := HX.out i hlt
      obtain ⟨z, hz⟩ : ∃ z, l.getD i 0 = z := ⟨_, rfl⟩
      rw [hz] at d1 q hsn
      have hX := u8_xor_nat z x q hx
      obtain ⟨y, hy⟩ : ∃ y, z ^^^ x = y := ⟨_, rfl⟩
      rw [hy] at hX hsn
      have HSN : Hid (xm (l.take (i + 1)) x = xm (l.take i) x ++ [y]) := hsn
      have hll : Hid ((xm (l.take i) x).length ≤ 1000000) := by unfold Hid; rw [xm_length, List.length_take]; omega
      clear hbel k1 q hsn hz hy
      go_wp2_with (at_builtin; refine wpList_app8 rfl _ _ rfl w.heap.size u5 (xm (l.take i) x) y rfl Ho.out rfl hll.out hsz ?_; intro v' w1 hown' hb')
      go_roundw
      case rel => exact ⟨i + 1, by omega, by go_num, by rw [HSN.out]; exact hown', Hb.out.trans hb'⟩
      case measure => simp [intOf] <;> omega
    · obtain rfl : i = n := by omega
      rw [HT.out] at Ho
      obtain ⟨ra, rc, hre⟩ := Ho.out.sk.shape
      subst hre
      clear hbel
      go_wp2_with fail
      go_ret
      exact ⟨_, rfl, Ho.out, Hb.out⟩

set_option maxHeartbeats 2000000 in
theorem refblock_any (key : List Nat) (hb : Bb key) (hlen : key.length ≤ 20000) (v : Value) (w : World) (hs : SK .u8 w v key) :
    Calls Tryd.prog 16 #[v] w fun e w' => ∃ v', e = .returned v' ∧ SK .u8 w' v' (kb key) ∧ Below w.heap.size w w' := by
  by_cases hbig : 64 < key.length
  · have kS : Hid (Calls Tryd.prog 17 #[v] w fun e w' => ∃ v', e = .returned v' ∧ SK .u8 w' v' (sumB key) ∧ Below w.heap.size w w') := refsum_any key hb hlen v w hs
    obtain ⟨a, c, e⟩ := hs.shape
    subst e
    obtain ⟨m, hm⟩ : ∃ m, Hid (sumB key = m) := ⟨_, rfl⟩
    have hln : Hid (m.length = 32) := by unfold Hid; rw [← hm.out, sumB_length]
    have hkb : Hid (kb key = m ++ List.replicate (64 - 32) 0) := by
      unfold Hid kb; rw [ks_long key hbig, hm.out, hln.out]
    rw [hm.out] at kS
    have hll : Hid (m.length ≤ 1000000) := by unfold Hid; rw [hln.out]; omega
    have hbig' : (64 : Int) < key.length := by omega
    clear hs hb hm
    go_enter Tryd.func16, Tryd.ntmps16
    go_wp2_with fail
    refine kS.out.mono ?_
    rintro e W1 ⟨v1, rfl, hs1, g1⟩
    have S1 : Hid (SK .u8 W1 v1 m) := hs1
    have B1 : Hid (Below w.heap.size w W1) := g1
    obtain ⟨a1, c1, e1⟩ := hs1.shape
    rw [hln.out] at e1
    subst e1
    clear hs1 g1 kS
    obtain ⟨base, hbase⟩ : ∃ b, Hid (W1.heap.size = b) := ⟨_, rfl⟩
    have S0 : Hid (base ≤ W1.heap.size) := by unfold Hid; rw [hbase.out]; exact Nat.le_refl _
    have hwb : Hid (w.heap.size ≤ base) := by unfold Hid; rw [← hbase.out]; exact B1.out.size
    go_wp2_with (at_builtin; refine wpList_app8S rfl _ _ rfl base (.slice none 0 0) [] m (.slice a1 32 c1) rfl (Own8.nil _ _) rfl S1.out (by simp) hll.out S0.out ?_; intro v2 W2 hown2 hb2)
    rw [List.nil_append] at hown2
    have O2 : Hid (Own8 base W2 v2 m) := hown2
    have B2 : Hid (Below w.heap.size w W2) := B1.out.trans (hb2.mono hwb.out)
    have Z2 : Hid (base ≤ W2.heap.size) := Nat.le_trans S0.out hb2.size
    clear hown2 hb2 S1 B1 S0
    go_loopw [3] (fun u W => ∃ y : Nat, 32 + y ≤ 64 ∧ Own8 base W u (m ++ List.replicate y 0) ∧ Below w.heap.size w W ∧ base ≤ W.heap.size) (fun u _ => 64 - lenOf u)
    case atStart => exact ⟨0, by omega, by simpa using O2.out, B2.out, Z2.out⟩
    case round =>
      clear O2 B2 Z2
      obtain ⟨y, hy, hown, hB, hS⟩ := hrel
      have OW : Hid (Own8 base wr u3 (m ++ List.replicate y 0)) := hown
      have BW : Hid (Below w.heap.size w wr) := hB
      have SW : Hid (base ≤ wr.heap.size) := hS
      clear hown hB hS
      have hl1 : (m ++ List.replicate y 0).length = 32 + y := by rw [List.length_append, List.length_replicate, hln.out]
      obtain ⟨ra, rc, hre⟩ := OW.out.sk.shape
      rw [hl1] at hre
      subst hre
      have hl2 : Hid ((m ++ List.replicate y 0).length ≤ 1000000) := by unfold Hid; rw [hl1]; omega
      by_cases hlt : 32 + y < 64
      · have hlt' : (32 : Int) + y < 64 := by omega
        go_wp2_with (at_builtin; refine wpList_app8 rfl _ _ rfl base (.slice ra (32 + y) rc) (m ++ List.replicate y 0) 0 rfl OW.out rfl hl2.out SW.out ?_; intro v3 W3 hown3 hb3)
        have O3 : Hid (Own8 base W3 v3 (m ++ List.replicate (y + 1) 0)) := by
          have e : m ++ List.replicate (y + 1) 0 = m ++ List.replicate y 0 ++ [0] := by rw [List.replicate_succ']; simp only [List.append_assoc]
          rw [e]; exact hown3
        have B3 : Hid (Below base wr W3) := hb3
        clear hown3 hb3
        have hl3 : Hid (lenOf v3 = 32 + (y + 1)) := by
          obtain ⟨qa, qc, hq⟩ := O3.out.sk.shape
          unfold Hid
          rw [hq]
          simp only [lenOf, List.length_append, List.length_replicate, hln.out]
        go_roundw
        case rel => exact ⟨y + 1, by omega, O3.out, BW.out.trans (B3.out.mono hwb.out), Nat.le_trans SW.out B3.out.size⟩
        case measure => rw [hl3.out]; simp [lenOf]; omega
      · have hlt' : ¬ (32 : Int) + y < 64 := by omega
        have hfin : Hid (SK .u8 wr (.slice ra (32 + y) rc) (kb key)) := by
          unfold Hid
          rw [hkb.out, show 64 - 32 = y by omega]
          exact OW.out.sk
        go_wp2_with fail
        go_ret
        exact ⟨_, rfl, hfin.out, BW.out⟩
  · obtain ⟨a, c, e⟩ := hs.shape
    subst e
    obtain ⟨n, hn⟩ : ∃ n, Hid (key.length = n) := ⟨_, rfl⟩
    have hln : Hid (key.length = n) := hn.out
    have hkb : Hid (kb key = key ++ List.replicate (64 - n) 0) := by
      unfold Hid kb; rw [ks_short key (by omega), hn.out]
    have S1 : Hid (SK .u8 w (.slice a key.length c) key) := hs
    rw [hn.out] at hbig S1 ⊢
    have hll : Hid (key.length ≤ 1000000) := by unfold Hid; rw [hn.out]; omega
    have B1 : Hid (Below w.heap.size w w) := Below.refl _ _
    have hbig' : ¬ (64 : Int) < n := by omega
    clear hs hb
    go_enter Tryd.func16, Tryd.ntmps16
    obtain ⟨base, hbase⟩ : ∃ b, Hid (w.heap.size = b) := ⟨_, rfl⟩
    have S0 : Hid (base ≤ w.heap.size) := by unfold Hid; rw [hbase.out]; exact Nat.le_refl _
    have hwb : Hid (w.heap.size ≤ base) := by unfold Hid; rw [← hbase.out]; exact B1.out.size
    go_wp2_with (at_builtin; refine wpList_app8S rfl _ _ rfl base (.slice none 0 0) [] key (.slice a n c) rfl (Own8.nil _ _) rfl S1.out (by simp) hll.out S0.out ?_; intro v2 W2 hown2 hb2)
    rw [List.nil_append] at hown2
    have O2 : Hid (Own8 base W2 v2 key) := hown2
    have B2 : Hid (Below w.heap.size w W2) := B1.out.trans (hb2.mono hwb.out)
    have Z2 : Hid (base ≤ W2.heap.size) := Nat.le_trans S0.out hb2.size
    clear hown2 hb2 S1 B1 S0
    go_loopw [3] (fun u W => ∃ y : Nat, n + y ≤ 64 ∧ Own8 base W u (key ++ List.replicate y 0) ∧ Below w.heap.size w W ∧ base ≤ W.heap.size) (fun u _ => 64 - lenOf u)
    case atStart => exact ⟨0, by omega, by simpa using O2.out, B2.out, Z2.out⟩
    case round =>
      clear O2 B2 Z2
      obtain ⟨y, hy, hown, hB, hS⟩ := hrel
      have OW : Hid (Own8 base wr u3 (key ++ List.replicate y 0)) := hown
      have BW : Hid (Below w.heap.size w wr) := hB
      have SW : Hid (base ≤ wr.heap.size) := hS
      clear hown hB hS
      have hl1 : (key ++ List.replicate y 0).length = n + y := by rw [List.length_append, List.length_replicate, hln.out]
      obtain ⟨ra, rc, hre⟩ := OW.out.sk.shape
      rw [hl1] at hre
      subst hre
      have hl2 : Hid ((key ++ List.replicate y 0).length ≤ 1000000) := by unfold Hid; rw [hl1]; omega
      by_cases hlt : n + y < 64
      · have hlt' : (n : Int) + y < 64 := by omega
        go_wp2_with (at_builtin; refine wpList_app8 rfl _ _ rfl base (.slice ra (n + y) rc) (key ++ List.replicate y 0) 0 rfl OW.out rfl hl2.out SW.out ?_; intro v3 W3 hown3 hb3)
        have O3 : Hid (Own8 base W3 v3 (key ++ List.replicate (y + 1) 0)) := by
          have e : key ++ List.replicate (y + 1) 0 = key ++ List.replicate y 0 ++ [0] := by rw [List.replicate_succ']; simp only [List.append_assoc]
          rw [e]; exact hown3
        have B3 : Hid (Below base wr W3) := hb3
        clear hown3 hb3
        have hl3 : Hid (lenOf v3 = n + (y + 1)) := by
          obtain ⟨qa, qc, hq⟩ := O3.out.sk.shape
          unfold Hid
          rw [hq]
          simp only [lenOf, List.length_append, List.length_replicate, hln.out]
        go_roundw
        case rel => exact ⟨y + 1, by omega, O3.out, BW.out.trans (B3.out.mono hwb.out), Nat.le_trans SW.out B3.out.size⟩
        case measure => rw [hl3.out]; simp [lenOf]; omega
      · have hlt' : ¬ (n : Int) + y < 64 := by omega
        have hfin : Hid (SK .u8 wr (.slice ra (n + y) rc) (kb key)) := by
          unfold Hid
          rw [hkb.out, show 64 - n = y by omega]
          exact OW.out.sk
        go_wp2_with fail
        go_ret
        exact ⟨_, rfl, hfin.out, BW.out⟩

set_option maxHeartbeats 2000000 in
theorem refmac_any (key : List Nat) (hbk : Bb key) (hk : key.length ≤ 20000) (v1 : Value) (m : List Nat) (hbm : Bb m) (hm : m.length ≤ 19000) (v2 : Value) (w : World) (h1 : SK .u8 w v1 key) (h2 : SK .u8 w v2 m) :
    Calls Tryd.prog 8 #[v1, v2] w fun e w' => ∃ v', e = .returned v' ∧ SK .u8 w' v' (macB key m) ∧ Below w.heap.size w w' := by
  have kB : Hid (Calls Tryd.prog 16 #[v1] w fun e w' => ∃ v', e = .returned v' ∧ SK .u8 w' v' (kb key) ∧ Below w.heap.size w w') := refblock_any key hbk hk v1 w h1
  obtain ⟨a1, c1, e1⟩ := h1.shape
  subst e1
  obtain ⟨a2, c2, e2⟩ := h2.shape
  subst e2
  have hkl := kb_length key
  have hkb := kb_bb key hbk
  have hmac : Hid (macB key m = sumB (xm (kb key) 92 ++ sumB (xm (kb key) 54 ++ m))) := rfl
  obtain ⟨k, hk⟩ : ∃ k, kb key = k := ⟨_, rfl⟩
  rw [hk] at hkl hkb hmac kB
  have kW : Hid (∀ (x : Nat) (v : Value) (W : World), x < 256 → SK .u8 W v k → Calls Tryd.prog 18 #[v, .int .u8 (x : Int)] W fun e w' => ∃ v', e = .returned v' ∧ Own8 W.heap.size w' v' (xm k x) ∧ Below W.heap.size W w') := fun x v W hx hs => with_own k hkb (by omega) x hx v W hs
  have hBI : Hid (Bb (xm k 54)) := xm_bb _ _ hkb (by omega)
  have hBO : Hid (Bb (xm k 92)) := xm_bb _ _ hkb (by omega)
  have hLI : Hid ((xm k 54).length = 64) := by unfold Hid; rw [xm_length, hkl]
  have hLO : Hid ((xm k 92).length = 64) := by unfold Hid; rw [xm_length, hkl]
  have kI : Hid (∀ (v : Value) (W : World), SK .u8 W v k → Calls Tryd.prog 18 #[v, .int .u8 54] W fun e w' => ∃ v', e = .returned v' ∧ Own8 W.heap.size w' v' (xm k 54) ∧ Below W.heap.size W w') := fun v W hs => kW.out 54 v W (by omega) hs
  have kO : Hid (∀ (v : Value) (W : World), SK .u8 W v k → Calls Tryd.prog 18 #[v, .int .u8 92] W fun e w' => ∃ v', e = .returned v' ∧ Own8 W.heap.size w' v' (xm k 92) ∧ Below W.heap.size W w') := fun v W hs => kW.out 92 v W (by omega) hs
  obtain ⟨I, hI⟩ : ∃ I, xm k 54 = I := ⟨_, rfl⟩
  obtain ⟨O, hO⟩ : ∃ O, xm k 92 = O := ⟨_, rfl⟩
  rw [hI] at kI hBI hLI hmac
  rw [hO] at kO hBO hLO hmac
  rw [hmac.out]
  have HM : Hid (SK .u8 w (.slice a2 m.length c2) m) := h2
  have hBM : Hid (Bb m) := hbm
  obtain ⟨n, hn⟩ : ∃ n, Hid (m.length = n) := ⟨_, rfl⟩
  rw [hn.out] at HM hm ⊢
  have hml : Hid (m.length ≤ 1000000) := by unfold Hid; rw [hn.out]; omega
  clear hk hkl hkb hmac hI hO h1 h2 hbk hbm kW
  go_enter Tryd.func8, Tryd.ntmps8
  go_wp2_with fail
  refine kB.out.mono ?_
  rintro e W1 ⟨v1, rfl, hs1, hB1⟩
  have S1 : Hid (SK .u8 W1 v1 k) := hs1
  have B1 : Hid (Below w.heap.size w W1) := hB1
  obtain ⟨ka, kc, ke⟩ := hs1.shape
  subst ke
  clear hs1 hB1 kB
  go_wp2_with fail
  refine (kI.out _ W1 S1.out).mono ?_
  rintro e W2 ⟨v2, rfl, ho2, g2⟩
  have hz1 : Hid (w.heap.size ≤ W1.heap.size) := B1.out.size
  obtain ⟨z1, hz1q⟩ : ∃ z, Hid (W1.heap.size = z) := ⟨_, rfl⟩
  have O2 : Hid (Own8 z1 W2 v2 I) := by unfold Hid; rw [← hz1q.out]; exact ho2
  have B2 : Hid (Below w.heap.size w W2) := B1.out.trans (g2.mono B1.out.size)
  have Z2 : Hid (z1 ≤ W2.heap.size) := by unfold Hid; rw [← hz1q.out]; exact g2.size
  have hwz1 : Hid (w.heap.size ≤ z1) := by unfold Hid; rw [← hz1q.out]; exact B1.out.size
  have S1' : Hid (SK .u8 W1 (.slice ka k.length kc) k) := S1.out
  have g2' : Hid (Below z1 W1 W2) := by unfold Hid; rw [← hz1q.out]; exact g2
  have M2 : Hid (SK .u8 W2 (.slice a2 n c2) m) := HM.out.below B2.out
  have hIl : Hid (I.length ≤ 1000000) := by unfold Hid; rw [hLI.out]; omega
  obtain ⟨ia, ic, ie⟩ := ho2.sk.shape
  subst ie
  clear ho2 g2 kI S1 B1
  go_wp2_with (at_builtin; refine wpList_app8S rfl _ _ rfl z1 (.slice ia I.length ic) I m (.slice a2 n c2) rfl O2.out rfl M2.out hIl.out hml.out Z2.out ?_; intro v3 W3 hown3 hb3)
  have O3 : Hid (SK .u8 W3 v3 (I ++ m)) := hown3.sk
  have B3 : Hid (Below w.heap.size w W3) := B2.out.trans (hb3.mono hwz1.out)
  have S3 : Hid (SK .u8 W3 (.slice ka k.length kc) k) := by
    have := S1'.out
    exact this.below (by rw [hz1q.out]; exact g2'.out.trans hb3)
  obtain ⟨ja, jc, je⟩ := hown3.sk.shape
  subst je
  clear hown3 hb3 O2 B2 Z2 M2
  have hcl : Hid ((I ++ m).length ≤ 20000) := by unfold Hid; rw [List.length_append, hLI.out, hn.out]; omega
  have kS : Hid (Calls Tryd.prog 17 #[.slice ja (I ++ m).length jc] W3 fun e w' => ∃ v', e = .returned v' ∧ SK .u8 w' v' (sumB (I ++ m)) ∧ Below W3.heap.size W3 w') := refsum_any (I ++ m) (hBI.out.app hBM.out) hcl.out _ W3 O3.out
  refine kS.out.mono ?_
  rintro e W4 ⟨v4, rfl, hs4, g4⟩
  have T4 : Hid (SK .u8 W4 v4 (sumB (I ++ m))) := hs4
  have S4 : Hid (SK .u8 W4 (.slice ka k.length kc) k) := S3.out.below g4
  have B4 : Hid (Below w.heap.size w W4) := B3.out.trans (g4.mono B3.out.size)
  obtain ⟨t, ht⟩ : ∃ t, Hid (sumB (I ++ m) = t) := ⟨_, rfl⟩
  have htl : Hid (t.length = 32) := by unfold Hid; rw [← ht.out, sumB_length]
  have htb : Hid (Bb t) := by unfold Hid; rw [← ht.out]; exact sumB_bb _
  rw [ht.out] at T4
  obtain ⟨ta, tc, te⟩ := T4.out.shape
  subst te
  clear hs4 g4 kS O3 S3 B3 hcl S1' g2'
  go_wp2_with fail
  refine (kO.out _ W4 S4.out).mono ?_
  rintro e W5 ⟨v5, rfl, ho5, g5⟩
  obtain ⟨z4, hz4⟩ : ∃ z, Hid (W4.heap.size = z) := ⟨_, rfl⟩
  have O5 : Hid (Own8 z4 W5 v5 O) := by unfold Hid; rw [← hz4.out]; exact ho5
  have B5 : Hid (Below w.heap.size w W5) := B4.out.trans (g5.mono B4.out.size)
  have Z5 : Hid (z4 ≤ W5.heap.size) := by unfold Hid; rw [← hz4.out]; exact g5.size
  have hwz4 : Hid (w.heap.size ≤ z4) := by unfold Hid; rw [← hz4.out]; exact B4.out.size
  have T5 : Hid (SK .u8 W5 (.slice ta t.length tc) t) := T4.out.below g5
  have hOl : Hid (O.length ≤ 1000000) := by unfold Hid; rw [hLO.out]; omega
  have htl2 : Hid (t.length ≤ 1000000) := by unfold Hid; rw [htl.out]; omega
  obtain ⟨oa, oc, oe⟩ := ho5.sk.shape
  subst oe
  clear ho5 g5 kO S4 B4 T4
  go_wp2_with (at_builtin; refine wpList_app8S rfl _ _ rfl z4 (.slice oa O.length oc) O t (.slice ta t.length tc) rfl O5.out rfl T5.out hOl.out htl2.out Z5.out ?_; intro v6 W6 hown6 hb6)
  have O6 : Hid (SK .u8 W6 v6 (O ++ t)) := hown6.sk
  have B6 : Hid (Below w.heap.size w W6) := B5.out.trans (hb6.mono hwz4.out)
  obtain ⟨pa, pc, pe⟩ := hown6.sk.shape
  subst pe
  clear hown6 hb6 O5 B5 Z5 T5
  have kS : Hid (Calls Tryd.prog 17 #[.slice pa (O ++ t).length pc] W6 fun e w' => ∃ v', e = .returned v' ∧ SK .u8 w' v' (sumB (O ++ t)) ∧ Below W6.heap.size W6 w') := refsum_any (O ++ t) (hBO.out.app htb.out) (by rw [List.length_append, hLO.out, htl.out]; omega) _ W6 O6.out
  refine kS.out.mono ?_
  rintro e W7 ⟨v7, rfl, hs7, g7⟩
  have B7 : Hid (Below w.heap.size w W7) := B6.out.trans (g7.mono B6.out.size)
  have S7 : Hid (SK .u8 W7 v7 (sumB (O ++ t))) := hs7
  obtain ⟨qa, qc, qe⟩ := hs7.shape
  subst qe
  clear hs7 g7 kS B6 O6
  go_wp2_with fail
  go_ret
  exact ⟨_, rfl, by rw [ht.out]; exact S7.out, B7.out⟩
end Go.Proofs.YteoaiamfpefcbaaDoor
