/-
  The contract of the document's own Sum: it is the sum of bytes as the broad's contracts have it. Conditions: as each theorem says.
-/
import Derived.Test.YtkkhpjcfojgggaaDoorBnB
import Derived.Test.YtkkhpjcfojgggaaDoorGY
import Derived.Test.YtkkhpjcfojgggaaDoorRefD
namespace Go.Proofs.YtkkhpjcfojgggaaDoor.Br
open Go.RowKit
set_option linter.unusedVariables false
set_option linter.unusedSimpArgs false

theorem pad_length (m : List Nat) : (pad m).length = m.length + noughts m.length + 17 := by simp [pad, ends_length]; omega
theorem pad_whole (m : List Nat) : (pad m).length = 128 * ((pad m).length / 128) := by rw [pad_length]; unfold noughts; omega
theorem pad_bb (m : List Nat) (h : Bb m) : Bb (pad m) := h.app (ends_bb _)
theorem mid_slice (mB mO N c i : Nat) (h1 : i + 128 ≤ N) (h2 : N ≤ c) (W : World) : (Instr.sliceAt 22 (.slice (some ⟨mB, mO, none⟩) N c) (some (.int .i64 (i : Int))) (some (.int .i64 ((i : Int) + 128))) none).run Tryd.prog W = .ok (.slice (some ⟨mB, mO + i, none⟩) 128 (c - i)) W := by
  have k0 : (0 : Int) ≤ i := by omega
  have k1 : (i : Int) ≤ (i : Int) + 128 := by omega
  have k2 : (i : Int) + 128 ≤ c := by omega
  have k3 : ((i : Int) + 128).toNat = i + 128 := by omega
  have k4 : ¬ (c = i) := by omega
  have k5 : (0 : Int) ≤ (i : Int) + 128 := by omega
  have k6 : i + 128 - i = 128 := by omega
  have k7 : i + 128 ≤ c := by omega
  simp [go_sem, k0, k1, k2, k3, k4, k5, k6, k7, Addr.add_mid]
theorem mid_sk {W : World} {mB mO N c k : Nat} {M : List Nat} (h : SK .u8 W (.slice (some ⟨mB, mO, none⟩) N c) M) (hN : M.length = N) (hk : 128 * k + 128 ≤ N) : SK .u8 W (.slice (some ⟨mB, mO + 128 * k, none⟩) 128 (c - 128 * k)) ((M.drop (128 * k)).take 128) := by
  obtain ⟨b, o, e, hb, hc, hcell⟩ := h.at (by omega)
  cases e
  have hl : ((M.drop (128 * k)).take 128).length = 128 := by simp; omega
  refine ⟨some ⟨mB, mO + 128 * k, none⟩, c - 128 * k, by rw [hl], by rw [hl]; omega, fun e => by simp at e, fun j hj => ⟨mB, mO + 128 * k, rfl, hb, ?_⟩⟩
  rw [hl] at hj
  rw [Nat.add_assoc, hcell (128 * k + j) (by omega)]
  simp [List.getD_eq_getElem?_getD, List.getElem?_take, List.getElem?_drop, hj]

set_option maxRecDepth 100000 in
set_option maxHeartbeats 4000000 in
theorem refsum_own (l : List Nat) (hb : Bb l) (hlen : l.length ≤ 2000) (v : Value) (w : World) (hs : SK .u8 w v l) :
    Calls Tryd.prog 18 #[v] w fun e w' => ∃ v', e = .returned v' ∧ Own8 w.heap.size w' v' (sumB l) ∧ Below w.heap.size w w' := by
  obtain ⟨a, cap, e⟩ := hs.shape
  subst e
  have HB : Hid (Bb l) := hb
  have HSl : Hid (SK .u8 w (.slice a l.length cap) l) := hs
  obtain ⟨n, hn⟩ : ∃ n, Hid (l.length = n) := ⟨_, rfl⟩
  have hpl : Hid (pad l = l ++ 128 :: (List.replicate (noughts n) 0 ++ (List.replicate 8 0 ++ beB (8 * n) 8))) := by
    unfold Hid pad ends
    rw [hn.out, beB_sixteen _ (by have := hn.out; omega)]
    rfl
  have hll : Hid (l.length ≤ 1000000) := by unfold Hid; omega
  rw [hn.out] at HSl hlen ⊢
  clear hs hb
  obtain ⟨base, hbase⟩ : ∃ b, Hid (w.heap.size = b) := ⟨_, rfl⟩
  have S0 : Hid (base ≤ w.heap.size) := by unfold Hid; rw [hbase.out]; exact Nat.le_refl _
  obtain ⟨z, hz⟩ : ∃ z, Hid (noughts n = z) := ⟨_, rfl⟩
  have hz1 : z < 128 ∧ (n + 1 + z) % 128 = 112 ∧ ∀ y, y < z → (n + 1 + y) % 128 ≠ 112 := by
    rw [← hz.out]; unfold noughts
    exact ⟨by omega, by omega, fun y hy => by omega⟩
  obtain ⟨hz64, hzend, hzno⟩ := hz1
  have HZ : Hid (∀ y, y < z → (n + 1 + y) % 128 ≠ 112) := hzno
  rw [hz.out] at hpl
  clear hzno
  go_enter Tryd.func18, Tryd.ntmps18
  go_upto_region 3 with (at_builtin; refine wpList_app8S rfl _ _ rfl base (.slice none 0 0) [] l (.slice a n cap) rfl (Own8.nil _ _) rfl HSl.out (by simp) hll.out S0.out ?_; intro v1 W1 hown1 hb1)
  rw [List.nil_append] at hown1
  have O1 : Hid (Own8 base W1 v1 l) := hown1
  have B1 : Hid (Below w.heap.size w W1) := by unfold Hid; rw [hbase.out]; exact hb1
  have S1 : Hid (base ≤ W1.heap.size) := Nat.le_trans S0.out hb1.size
  clear hown1 hb1
  go_wp2_with (at_builtin; refine wpList_app8 rfl _ _ rfl base v1 l 128 rfl O1.out rfl hll.out S1.out ?_; intro v2 W2 hown2 hb2)
  have O2 : Hid (Own8 base W2 v2 (l ++ [128])) := hown2
  have B2 : Hid (Below w.heap.size w W2) := B1.out.trans (by rw [hbase.out]; exact hb2)
  have S2 : Hid (base ≤ W2.heap.size) := Nat.le_trans S1.out hb2.size
  clear hown2 hb2 O1 B1 S1
  go_loopw [3] (fun u W => ∃ y : Nat, y ≤ z ∧ Own8 base W u (l ++ [128] ++ List.replicate y 0) ∧ Below w.heap.size w W ∧ base ≤ W.heap.size) (fun u _ => n + 1 + z - lenOf u)
  case atStart => exact ⟨0, by omega, by simpa using O2.out, B2.out, S2.out⟩
  case round =>
    clear O2 B2 S2
    obtain ⟨y, hy, hown, hB, hS⟩ := hrel
    have OW : Hid (Own8 base wr u3 (l ++ [128] ++ List.replicate y 0)) := hown
    have BW : Hid (Below w.heap.size w wr) := hB
    have SW : Hid (base ≤ wr.heap.size) := hS
    clear hown hB hS
    have hl1 : (l ++ [128] ++ List.replicate y 0).length = n + 1 + y := by simp; have := hn.out; omega
    obtain ⟨ra, rc, hre⟩ := OW.out.sk.shape
    rw [hl1] at hre
    subst hre
    have hl2 : Hid ((l ++ [128] ++ List.replicate y 0).length ≤ 1000000) := by unfold Hid; rw [hl1]; omega
    by_cases hlt : y < z
    · have hm : ¬ ((n : Int) + 1 + y) % 128 = 112 := by have := HZ.out y hlt; omega
      go_wp2_with (at_builtin; refine wpList_app8 rfl _ _ rfl base (.slice ra (n + 1 + y) rc) (l ++ [128] ++ List.replicate y 0) 0 rfl OW.out rfl hl2.out SW.out ?_; intro v2 W2 hown2 hb2)
      have O2 : Hid (Own8 base W2 v2 (l ++ [128] ++ List.replicate (y + 1) 0)) := by
        have e : l ++ [128] ++ List.replicate (y + 1) 0 = l ++ [128] ++ List.replicate y 0 ++ [0] := by rw [List.replicate_succ']; simp only [List.append_assoc]
        rw [e]; exact hown2
      have B2 : Hid (Below base wr W2) := hb2
      clear hown2 hb2
      have hl3 : Hid (lenOf v2 = n + 1 + (y + 1)) := by
        obtain ⟨qa, qc, hq⟩ := O2.out.sk.shape
        unfold Hid
        rw [hq]
        simp [lenOf]; have := hn.out; omega
      go_roundw
      case rel => exact ⟨y + 1, by omega, O2.out, BW.out.trans (by rw [hbase.out]; exact B2.out), Nat.le_trans SW.out B2.out.size⟩
      case measure => rw [hl3.out]; simp [lenOf]; omega
    · obtain rfl : y = z := by omega
      have hm : ((n : Int) + 1 + y) % 128 = 112 := by omega
      have kI : Hid (∀ W : World, Calls Tryd.prog 17 #[.int .i64 (8 * (n : Int))] W fun e w' => ∃ v, e = .returned v ∧ Num w' v (8 * n) ∧ Below W.heap.size W w') := by
        intro W
        have := int_any (8 * n) (by omega) W
        simpa using this
      have hn2 : (n : Int) ≤ 2000 := by omega
      have hl8 : Hid ((l ++ [128] ++ List.replicate y 0).length + 8 ≤ 1000000) := by unfold Hid; rw [hl1]; omega
      clear HZ
      go_wp2_with (at_builtin; refine wpList_app8s rfl _ _ rfl base (.slice ra (n + 1 + y) rc) (l ++ [128] ++ List.replicate y 0) (List.replicate 8 0) 8 _ rfl rfl rfl OW.out rfl hl8.out SW.out ?_; intro vz Wz hownz hbz)
      have OZ : Hid (Own8 base Wz vz (l ++ [128] ++ List.replicate y 0 ++ List.replicate 8 0)) := hownz
      have BZ : Hid (Below w.heap.size w Wz) := BW.out.trans (by rw [hbase.out]; exact hbz)
      have SZ : Hid (base ≤ Wz.heap.size) := Nat.le_trans SW.out hbz.size
      have hl9 : (l ++ [128] ++ List.replicate y 0 ++ List.replicate 8 0).length = n + 1 + y + 8 := by rw [List.length_append, hl1]; rfl
      have hl10 : Hid ((l ++ [128] ++ List.replicate y 0 ++ List.replicate 8 0).length ≤ 1000000) := by unfold Hid; rw [hl9]; omega
      obtain ⟨za, zc, hze⟩ := OZ.out.sk.shape
      rw [hl9] at hze
      subst hze
      clear hownz hbz OW BW SW hl9
      refine (kI.out _).mono ?_
      rintro e W3 ⟨v3, rfl, hN3, g⟩
      have O3 : Hid (Own8 base W3 (.slice za (n + 1 + y + 8) zc) (l ++ [128] ++ List.replicate y 0 ++ List.replicate 8 0)) := OZ.out.grown g
      have B3 : Hid (Below w.heap.size w W3) := BZ.out.trans (g.mono BZ.out.size)
      have S3 : Hid (base ≤ W3.heap.size) := Nat.le_trans SZ.out g.size
      have kT : Hid (Calls Tryd.prog 16 #[v3, .int .i64 8] W3 fun e w' => ∃ v, e = .returned v ∧ SK .u8 w' v (beB (8 * n) 8) ∧ Below W3.heap.size W3 w') := toBig5_num (8 * n) v3 8 W3 hN3 1 (by omega) (by omega) (by omega)
      obtain ⟨na, nc, nd, rfl⟩ := hN3.shape
      clear hN3 g kI OZ BZ SZ
      go_wp2_with fail
      refine kT.out.mono ?_
      rintro e W4 ⟨v4, rfl, hN4, g⟩
      have O4 : Hid (Own8 base W4 (.slice za (n + 1 + y + 8) zc) (l ++ [128] ++ List.replicate y 0 ++ List.replicate 8 0)) := O3.out.grown g
      have B4 : Hid (Below w.heap.size w W4) := B3.out.trans (g.mono B3.out.size)
      have S4 : Hid (base ≤ W4.heap.size) := Nat.le_trans S3.out g.size
      have T4 : Hid (SK .u8 W4 v4 (beB (8 * n) 8)) := hN4
      obtain ⟨ta, tc, hte⟩ := hN4.shape
      rw [beB_length] at hte
      subst hte
      clear hN4 g kT O3 B3 S3
      go_upto_region 8 with (at_builtin; refine wpList_app8S rfl _ _ rfl base (.slice za (n + 1 + y + 8) zc) (l ++ [128] ++ List.replicate y 0 ++ List.replicate 8 0) (beB (8 * n) 8) (.slice ta 8 tc) rfl O4.out rfl T4.out hl10.out (by rw [beB_length]; omega) S4.out ?_; intro v5 W5 hown5 hb5)
      have P5 : Hid (SK .u8 W5 v5 (pad l)) := by
        have := hown5.sk
        rw [show l ++ [128] ++ List.replicate y 0 ++ List.replicate 8 0 ++ beB (8 * n) 8 = pad l by rw [hpl.out]; simp only [List.append_assoc, List.singleton_append, List.cons_append, List.nil_append]] at this
        exact this
      have B5 : Hid (Below w.heap.size w W5) := B4.out.trans (by rw [hbase.out]; exact hb5)
      clear hown5 hb5 O4 B4 S4 T4
      have hPl : Hid ((pad l).length = n + y + 17) := by unfold Hid; rw [pad_length, hn.out, hz.out]
      have hPw : Hid ((pad l).length = 128 * ((pad l).length / 128)) := pad_whole l
      have hPb : Hid (Bb (pad l)) := pad_bb l HB.out
      obtain ⟨M, hM⟩ : ∃ M, Hid (pad l = M) := ⟨_, rfl⟩
      have hsum : Hid (sumB l = outB (bl M (M.length / 128))) := by unfold Hid sumB; rw [hM.out]
      rw [hM.out] at P5 hPl hPw hPb
      obtain ⟨N, hN⟩ : ∃ N, Hid (M.length = N) := ⟨_, rfl⟩
      rw [hN.out] at hPl hPw hsum
      have hNlt : N ≤ 3000 := by have := hPl.out; omega
      obtain ⟨pa, pc, hpe⟩ := P5.out.shape
      rw [hN.out] at hpe
      subst hpe
      obtain ⟨mB, mO, rfl, mBl, mC, -⟩ := P5.out.at (by have := hPl.out; omega)
      have kB : Hid (Calls Tryd.prog 30 #[] W5 fun e w' => e = .returned (.slice (some ⟨W5.heap.size, 0, none⟩) 8 8) ∧ w' = W5.alloc (.cells (uv h0.list).toArray 45)) := begin_any W5
      clear mBl hpl hM
      go_wp2_with fail
      refine kB.out.mono ?_
      rintro e W6 ⟨rfl, hW6⟩
      have H6 : Hid (SK .u64 W6 (.slice (some ⟨W5.heap.size, 0, none⟩) 8 8) h0.list) := by unfold Hid; rw [hW6]; exact sk_new64 W5 _ _ rfl 8 rfl
      have g6 : Below W5.heap.size W5 W6 := by rw [hW6]; exact (Below.refl _ _).alloc (Nat.le_refl _) _
      have P6 : Hid (SK .u8 W6 (.slice (some ⟨mB, mO, none⟩) N pc) M) := P5.out.below g6
      have B6 : Hid (Below w.heap.size w W6) := B5.out.trans (g6.mono B5.out.size)
      clear hW6 g6 kB P5 B5
      go_wp2_with fail
      go_loopw [4, 5] (fun u y W => ∃ k : Nat, 128 * k ≤ N ∧ y = .int .i64 ((128 * k : Nat) : Int) ∧ SK .u64 W u (bl M k).list ∧ SK .u8 W (.slice (some ⟨mB, mO, none⟩) N pc) M ∧ Below w.heap.size w W) (fun _ y _ => N - (intOf y).toNat)
      case atStart => exact ⟨0, by omega, rfl, H6.out, P6.out, B6.out⟩
      case round =>
        rename World => wr2
        clear H6 P6 B6
        obtain ⟨k, hk, rfl, hH, hP, hB⟩ := hrel
        have HW : Hid (SK .u64 wr2 u4 (bl M k).list) := hH
        have PW : Hid (SK .u8 wr2 (.slice (some ⟨mB, mO, none⟩) N pc) M) := hP
        have BW : Hid (Below w.heap.size w wr2) := hB
        clear hH hP hB
        by_cases hlt : 128 * k < N
        · have hk2 : 128 * k + 128 ≤ N := by have := hPw.out; omega
          have hsl := fun W => mid_slice mB mO N pc (128 * k) hk2 mC W
          obtain ⟨i, hi⟩ : ∃ i, Hid (128 * k = i) := ⟨_, rfl⟩
          rw [hi.out] at hsl hlt hk2 ⊢
          have hlt' : (i : Int) < N := by omega
          have hi3 : (i : Int) ≤ 3000 := by omega
          have kB : Hid (Calls Tryd.prog 31 #[u4, .slice (some ⟨mB, mO + i, none⟩) 128 (pc - i)] wr2 fun e w' => ∃ v, e = .returned v ∧ SK .u64 w' v (bl M (k + 1)).list ∧ Below wr2.heap.size wr2 w') := by
            have := block_any (bl M k) (bl_ok M k) ((M.drop (128 * k)).take 128) (by simp [hN.out]; have := hi.out; omega) ((hPb.out.drop _).take _) u4 (.slice (some ⟨mB, mO + 128 * k, none⟩) 128 (pc - 128 * k)) wr2 HW.out (mid_sk PW.out hN.out (by have := hi.out; omega))
            rw [hi.out] at this
            exact (by rw [show bl M (k + 1) = tk (bl M k) ((M.drop (128 * k)).take 128) from rfl, hi.out]; exact this)
          obtain ⟨ha, hc, hhe⟩ := HW.out.shape
          rw [S8.list_length] at hhe
          subst hhe
          go_wp2_with fail
          refine kB.out.mono ?_
          rintro e W7 ⟨v7, rfl, hv7, g⟩
          have H7 : Hid (SK .u64 W7 v7 (bl M (k + 1)).list) := hv7
          have P7 : Hid (SK .u8 W7 (.slice (some ⟨mB, mO, none⟩) N pc) M) := PW.out.below g
          have B7 : Hid (Below w.heap.size w W7) := BW.out.trans (g.mono BW.out.size)
          clear hv7 g kB
          go_wp2_with fail
          go_roundw
          case rel => exact ⟨k + 1, by have := hi.out; omega, by have := hi.out; go_num, H7.out, P7.out, B7.out⟩
          case measure => simp [intOf] <;> omega
        · have hkN : 128 * k = N := by omega
          have hk64 : N / 128 = k := by omega
          rw [hkN]
          have hS3 : Hid (sumB l = byL (bl M k).list 8) := by unfold Hid; rw [hsum.out, hk64]; rfl
          have hok : Hid (bl M k).ok := bl_ok M k
          obtain ⟨s, hs⟩ : ∃ s, bl M k = s := ⟨_, rfl⟩
          rw [hs] at HW hS3 hok
          obtain ⟨hB, hO, hC, rfl, hBl, hC8, hcells⟩ := HW.out.words (S8.list_length s) (by omega)
          have HC : Hid (∀ j, j < 8 → wr2.cell? ⟨hB, hO + j, none⟩ = some (.int .u64 (s.list.getD j 0 : Int))) := hcells
          obtain ⟨b5, hb5⟩ : ∃ b, Hid (wr2.heap.size = b) := ⟨_, rfl⟩
          have hw5 : Hid (w.heap.size ≤ b5) := by unfold Hid; rw [← hb5.out]; exact BW.out.size
          have hv5 : Hid (hB < b5) := by unfold Hid; rw [← hb5.out]; exact hBl
          have S5 : Hid (b5 ≤ wr2.heap.size) := by unfold Hid; rw [hb5.out]; exact Nat.le_refl _
          clear hcells hBl HW PW hs
          go_wp2_with fail
          go_loopw [6, 7] (fun u y W => ∃ i : Nat, i ≤ 8 ∧ y = .int .i64 i ∧ Own8 b5 W u (byL s.list i) ∧ Below w.heap.size w W ∧ b5 ≤ W.heap.size ∧ Below b5 wr2 W) (fun _ y _ => 8 - (intOf y).toNat)
          case atStart => exact ⟨0, by omega, rfl, Own8.nil _ _, BW.out, S5.out, Below.refl _ _⟩
          case round =>
            rename World => wr3
            clear BW S5
            obtain ⟨i, hi, rfl, hown, hB', hS, h45⟩ := hrel
            have OW : Hid (Own8 b5 wr3 u6 (byL s.list i)) := hown
            have BW : Hid (Below w.heap.size w wr3) := hB'
            have SW : Hid (b5 ≤ wr3.heap.size) := hS
            have FW : Hid (Below b5 wr2 wr3) := h45
            clear hown hB' hS h45
            obtain ⟨ra, rc, hre⟩ := OW.out.sk.shape
            rw [byL_length] at hre
            subst hre
            by_cases hlt : i < 8
            · have hlt' : (i : Int) < 8 := by omega
              have ch := (FW.out.cell (p := ⟨hB, hO + i, none⟩) hv5.out).trans (HC.out i hlt)
              have hx1 := S8.ok_get hok.out i
              have hst : Hid (byL s.list (i + 1) = byL s.list i ++ by8 (s.list.getD i 0)) := rfl
              obtain ⟨x, hx⟩ : ∃ x, s.list.getD i 0 = x := ⟨_, rfl⟩
              rw [hx] at ch hx1 hst
              clear hx
              have hx1' : (x : Int) < 18446744073709551616 := by omega
              have kW : Hid (Calls Tryd.prog 32 #[.slice (some ⟨wr3.heap.size, 0, none⟩) 1 1] (wr3.alloc (.cells #[.int .u64 (x : Int)] 45)) fun e w' => ∃ v, e = .returned v ∧ Num w' v x ∧ Below wr3.heap.size wr3 w') :=
                (words_any [x] _ _ (sk_word wr3 x _ rfl) (fun j => by match j with | 0 => (show x < _; omega) | j + 1 => exact (by decide : 0 < 18446744073709551616)) (by simp)).mono
                  fun e w' ⟨v, h1, h2, h3⟩ => ⟨v, h1, by simpa [valW] using h2, ((Below.refl _ _).alloc (Nat.le_refl _) _).trans (h3.mono (by simp))⟩
              have hl2 : Hid ((byL s.list i).length ≤ 1000000) := by unfold Hid; rw [byL_length]; omega
              go_wp2_with fail
              refine kW.out.mono ?_
              rintro e W3 ⟨v3, rfl, hN3, g⟩
              have O3 : Hid (Own8 b5 W3 (.slice ra (8 * i) rc) (byL s.list i)) := OW.out.grown g
              have B3 : Hid (Below w.heap.size w W3) := BW.out.trans (g.mono BW.out.size)
              have S3 : Hid (b5 ≤ W3.heap.size) := Nat.le_trans SW.out g.size
              have F3 : Hid (Below b5 wr2 W3) := FW.out.trans (g.mono SW.out)
              have kT : Hid (Calls Tryd.prog 16 #[v3, .int .i64 8] W3 fun e w' => ∃ v, e = .returned v ∧ SK .u8 w' v (by8 x) ∧ Below W3.heap.size W3 w') := by
                exact toBig5_num x v3 8 W3 hN3 3 (by omega) (by omega) (by omega)
              obtain ⟨na, nc, nd, rfl⟩ := hN3.shape
              clear hN3 g kW OW BW SW FW
              go_wp2_with fail
              refine kT.out.mono ?_
              rintro e W4 ⟨v4, rfl, hN4, g⟩
              have O4 : Hid (Own8 b5 W4 (.slice ra (8 * i) rc) (byL s.list i)) := O3.out.grown g
              have B4 : Hid (Below w.heap.size w W4) := B3.out.trans (g.mono B3.out.size)
              have S4 : Hid (b5 ≤ W4.heap.size) := Nat.le_trans S3.out g.size
              have F4 : Hid (Below b5 wr2 W4) := F3.out.trans (g.mono S3.out)
              have T4 : Hid (SK .u8 W4 v4 (by8 x)) := hN4
              obtain ⟨ta, tc, hte⟩ := hN4.shape
              subst hte
              clear hN4 g kT O3 B3 S3 F3
              go_wp2_with (at_builtin; refine wpList_app8S rfl _ _ rfl b5 (.slice ra (8 * i) rc) (byL s.list i) (by8 x) (.slice ta (by8 x).length tc) rfl O4.out rfl T4.out hl2.out (by rw [by8_length]; omega) S4.out ?_; intro v5 W5 hown5 hb5')
              have O5 : Hid (Own8 b5 W5 v5 (byL s.list (i + 1))) := by rw [hst.out]; exact hown5
              have G5 : Hid (Below b5 W4 W5) := hb5'
              clear hown5 hb5'
              go_roundw
              case rel => exact ⟨i + 1, by omega, by go_num, O5.out, B4.out.trans (G5.out.mono hw5.out), Nat.le_trans S4.out G5.out.size, F4.out.trans G5.out⟩
              case measure => simp [intOf] <;> omega
            · obtain rfl : i = 8 := by omega
              have hsk : Hid (Own8 w.heap.size wr3 (.slice ra (8 * 8) rc) (sumB l)) := by rw [hS3.out]; exact OW.out.wider hw5.out
              go_wp2_with fail
              go_ret
              exact ⟨_, rfl, hsk.out, BW.out⟩
theorem refsum_any (l : List Nat) (hb : Bb l) (hlen : l.length ≤ 2000) (v : Value) (w : World) (hs : SK .u8 w v l) :
    Calls Tryd.prog 18 #[v] w fun e w' => ∃ v', e = .returned v' ∧ SK .u8 w' v' (sumB l) ∧ Below w.heap.size w w' :=
  (refsum_own l hb hlen v w hs).mono fun e w' ⟨v', h1, h2, h3⟩ => ⟨v', h1, h2.sk, h3⟩
end Go.Proofs.YtkkhpjcfojgggaaDoor.Br
