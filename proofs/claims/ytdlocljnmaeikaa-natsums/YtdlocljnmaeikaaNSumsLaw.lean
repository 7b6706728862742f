/-
  The walk of the law NatSums: for any two lists of words it returns true and changes no memory that was there. Conditions: none beyond that words are words.
-/
import Derived.Test.YtdlocljnmaeikaaNatW
import Derived.Test.YtdlocljnmaeikaaNatO
import Derived.Test.YtdlocljnmaeikaaNatP
import Derived.Test.YtdlocljnmaeikaaNumLv
namespace Go.Proofs.Ytdlocljnmaeikaa
open Go.RowKit
set_option linter.unusedVariables false

theorem nsums_long (la lb : List Nat) (va vb : Value) (w : World) (ha : SK .u64 w va la) (hb : SK .u64 w vb lb) (h : 60 < la.length ∨ 60 < lb.length) :
    Calls Try.prog 3 #[va, vb] w fun e w' => e = .returned (.bool true) ∧ Below w.heap.size w w' := by
  obtain ⟨a, ca, rfl⟩ := ha.shape
  obtain ⟨b, cb, rfl⟩ := hb.shape
  clear ha hb
  by_cases h1 : 60 < la.length
  · have h1' : (60 : Int) < la.length := by omega
    go_enter Try.func3, Try.ntmps3
    go_wp2_with fail
    refine (awakeN_any _).mono ?_
    rintro e w1 ⟨rfl, g1⟩
    go_wp2_with fail
    go_ret
    exact ⟨rfl, g1⟩
  · have h1' : ¬ (60 : Int) < la.length := by omega
    have h2' : (60 : Int) < lb.length := by omega
    go_enter Try.func3, Try.ntmps3
    go_wp2_with fail
    refine (awakeN_any _).mono ?_
    rintro e w1 ⟨rfl, g1⟩
    go_wp2_with fail
    go_ret
    exact ⟨rfl, g1⟩

theorem s60 (la : List Nat) (hw : Ww la) (hl : la.length ≤ 60) : valW la < 16777216 ^ 240 ∧ valW la < 18446744073709551616 ^ 60 := by
  have h1 := valW_lt la hw
  exact ⟨words_len la.length (by omega) _ h1, Nat.lt_of_lt_of_le h1 (Nat.pow_le_pow_right (by omega) hl)⟩

set_option maxRecDepth 100000 in
set_option maxHeartbeats 4000000 in
theorem nsums_lt (la lb : List Nat) (va vb : Value) (w : World) (ha : SK .u64 w va la) (hb : SK .u64 w vb lb) (hwa : Ww la) (hwb : Ww lb) (hla : la.length ≤ 60) (hlb : lb.length ≤ 60) (hlt : valW la < valW lb) :
    Calls Try.prog 3 #[va, vb] w fun e w' => e = .returned (.bool true) ∧ Below w.heap.size w w' := by
  have HA : Hid (SK .u64 w va la) := ha
  have HB : Hid (SK .u64 w vb lb) := hb
  obtain ⟨a, ca, rfl⟩ := ha.shape
  obtain ⟨b, cb, rfl⟩ := hb.shape
  have Hwa : Hid (Ww la) := hwa
  have Hwb : Hid (Ww lb) := hwb
  have h1' : ¬ (60 : Int) < la.length := by omega
  have h2' : ¬ (60 : Int) < lb.length := by omega
  obtain ⟨X, hX⟩ : ∃ X, Hid (valW la = X) := ⟨_, rfl⟩
  obtain ⟨Y, hY⟩ : ∃ Y, Hid (valW lb = Y) := ⟨_, rfl⟩
  have BX : Hid (X < 16777216 ^ 240 ∧ X < 18446744073709551616 ^ 60) := by unfold Hid; rw [← hX.out]; exact s60 la hwa hla
  have BY : Hid (Y < 16777216 ^ 240 ∧ Y < 18446744073709551616 ^ 60) := by unfold Hid; rw [← hY.out]; exact s60 lb hwb hlb
  have BS : Hid (X + Y < 16777216 ^ 241 ∧ X + Y < 18446744073709551616 ^ 61) := by
    have h1 := BX.out
    have h2 := BY.out
    unfold Hid
    rw [Nat.pow_succ 16777216 240, Nat.pow_succ 18446744073709551616 60]
    generalize 16777216 ^ 240 = P at *
    generalize 18446744073709551616 ^ 60 = Q at *
    omega
  have hlt' : Hid (X < Y) := by unfold Hid; rw [← hX.out, ← hY.out]; exact hlt
  obtain ⟨o, ho, ho2⟩ : ∃ o : Int, ord (X : Int) (Y : Int) = o ∧ o = -1 := ⟨_, rfl, ord_lt (by have := hlt'.out; omega)⟩
  subst ho2
  have HO : Hid (ord (X : Int) (Y : Int) = _) := ho
  clear ha hb hwa hwb ho hlt
  go_enter Try.func3, Try.ntmps3
  go_wp2_with fail
  refine (awakeN_any _).mono ?_
  rintro e w1 ⟨rfl, g1⟩
  have G1 : Hid (Below w.heap.size w w1) := g1
  have HA1 : Hid (SK .u64 w1 (.slice a la.length ca) la) := HA.out.below g1
  have HB1 : Hid (SK .u64 w1 (.slice b lb.length cb) lb) := HB.out.below g1
  clear g1 HA HB
  go_wp2_with fail
  refine (words_any la _ _ HA1.out Hwa.out (by omega)).mono ?_
  rw [hX.out]
  rintro e w2 ⟨v2, rfl, h2, g2⟩
  obtain ⟨xa, xc, xd, rfl⟩ := h2.shape
  have N2 : Hid (Num w2 (.slice xa xc xd) X) := h2
  have HA2 : Hid (SK .u64 w2 (.slice a la.length ca) la) := HA1.out.below g2
  have HB2 : Hid (SK .u64 w2 (.slice b lb.length cb) lb) := HB1.out.below g2
  have G2 : Hid (Below w.heap.size w w2) := G1.out.trans (g2.mono G1.out.size)
  clear h2 g2 HA1 HB1 G1
  go_wp2_with fail
  refine (words_any lb _ _ HB2.out Hwb.out (by omega)).mono ?_
  rw [hY.out]
  rintro e w3 ⟨v3, rfl, h3, g3⟩
  obtain ⟨ya, yc, yd, rfl⟩ := h3.shape
  have M3 : Hid (Num w3 (.slice ya yc yd) Y) := h3
  have N3 : Hid (Num w3 (.slice xa xc xd) X) := N2.out.below g3
  have HA3 : Hid (SK .u64 w3 (.slice a la.length ca) la) := HA2.out.below g3
  have HB3 : Hid (SK .u64 w3 (.slice b lb.length cb) lb) := HB2.out.below g3
  have G3 : Hid (Below w.heap.size w w3) := G2.out.trans (g3.mono G2.out.size)
  clear h3 g3 HA2 HB2 G2 N2
  go_wp2_with fail
  refine (subN_none la lb _ _ _ HA3.out HB3.out Hwa.out Hwb.out (by omega) (by omega) (by rw [hX.out, hY.out]; exact hlt'.out)).mono ?_
  rintro e w4 ⟨rfl, g4⟩
  have HA4 : Hid (SK .u64 w4 (.slice a la.length ca) la) := HA3.out.below g4
  have HB4 : Hid (SK .u64 w4 (.slice b lb.length cb) lb) := HB3.out.below g4
  have N4 : Hid (Num w4 (.slice xa xc xd) X) := N3.out.below g4
  have M4 : Hid (Num w4 (.slice ya yc yd) Y) := M3.out.below g4
  have G4 : Hid (Below w.heap.size w w4) := G3.out.trans (g4.mono G3.out.size)
  clear g4 HA3 HB3 N3 M3 G3 
  go_wp2_with fail
  refine (cmp_num X Y _ _ _ N4.out M4.out 240 BX.out.1 BY.out.1 (by omega)).mono ?_
  rw [HO.out]
  rintro e w5 ⟨rfl, g5⟩
  have HA5 : Hid (SK .u64 w5 (.slice a la.length ca) la) := HA4.out.below g5
  have HB5 : Hid (SK .u64 w5 (.slice b lb.length cb) lb) := HB4.out.below g5
  have N5 : Hid (Num w5 (.slice xa xc xd) X) := N4.out.below g5
  have M5 : Hid (Num w5 (.slice ya yc yd) Y) := M4.out.below g5
  have G5 : Hid (Below w.heap.size w w5) := G4.out.trans (g5.mono G4.out.size)
  clear g5 HA4 HB4 N4 M4 G4 
  go_wp2_with fail
  refine (addN_any la lb _ _ _ HA5.out HB5.out Hwa.out Hwb.out (by omega) (by omega)).mono ?_
  rw [hX.out, hY.out]
  rintro e w6 ⟨vs, rfl, hs, g6⟩
  obtain ⟨sa, sc, sd, rfl⟩ := hs.shape
  have S6 : Hid (Can w6 (.slice sa sc sd) (X + Y)) := hs
  have HA6 : Hid (SK .u64 w6 (.slice a la.length ca) la) := HA5.out.below g6
  have HB6 : Hid (SK .u64 w6 (.slice b lb.length cb) lb) := HB5.out.below g6
  have N6 : Hid (Num w6 (.slice xa xc xd) X) := N5.out.below g6
  have M6 : Hid (Num w6 (.slice ya yc yd) Y) := M5.out.below g6
  have G6 : Hid (Below w.heap.size w w6) := G5.out.trans (g6.mono G5.out.size)
  clear g6 HA5 HB5 N5 M5 G5 
  clear hs
  go_wp2_with fail
  refine (add_num X Y _ _ _ N6.out M6.out 240 BX.out.1 BY.out.1 (by omega)).mono ?_
  rintro e w7 ⟨vt, rfl, ht, g7⟩
  obtain ⟨ta, tc, td, rfl⟩ := ht.shape
  have T7 : Hid (Num w7 (.slice ta tc td) (X + Y)) := ht
  have HA7 : Hid (SK .u64 w7 (.slice a la.length ca) la) := HA6.out.below g7
  have HB7 : Hid (SK .u64 w7 (.slice b lb.length cb) lb) := HB6.out.below g7
  have N7 : Hid (Num w7 (.slice xa xc xd) X) := N6.out.below g7
  have M7 : Hid (Num w7 (.slice ya yc yd) Y) := M6.out.below g7
  have S7 : Hid (Can w7 (.slice sa sc sd) (X + Y)) := S6.out.below g7
  have G7 : Hid (Below w.heap.size w w7) := G6.out.trans (g7.mono G6.out.size)
  clear g7 HA6 HB6 N6 M6 G6 S6
  clear ht
  go_wp2_with fail
  refine (wordsR_num (X + Y) _ _ T7.out 241 BS.out.1 (by omega)).mono ?_
  rintro e w8 ⟨vu, rfl, hu, g8⟩
  obtain ⟨ua, uc, ud, rfl⟩ := hu.shape
  have U8 : Hid (Can w8 (.slice ua uc ud) (X + Y)) := hu
  have HA8 : Hid (SK .u64 w8 (.slice a la.length ca) la) := HA7.out.below g8
  have HB8 : Hid (SK .u64 w8 (.slice b lb.length cb) lb) := HB7.out.below g8
  have N8 : Hid (Num w8 (.slice xa xc xd) X) := N7.out.below g8
  have M8 : Hid (Num w8 (.slice ya yc yd) Y) := M7.out.below g8
  have S8 : Hid (Can w8 (.slice sa sc sd) (X + Y)) := S7.out.below g8
  have G8 : Hid (Below w.heap.size w w8) := G7.out.trans (g8.mono G7.out.size)
  clear g8 HA7 HB7 N7 M7 G7 S7
  clear hu T7
  go_wp2_with fail
  refine (same_can (X + Y) _ _ _ S8.out U8.out 61 BS.out.2 (by omega)).mono ?_
  rintro e w9 ⟨rfl, g9⟩
  have HA9 : Hid (SK .u64 w9 (.slice a la.length ca) la) := HA8.out.below g9
  have HB9 : Hid (SK .u64 w9 (.slice b lb.length cb) lb) := HB8.out.below g9
  have N9 : Hid (Num w9 (.slice xa xc xd) X) := N8.out.below g9
  have M9 : Hid (Num w9 (.slice ya yc yd) Y) := M8.out.below g9
  have G9 : Hid (Below w.heap.size w w9) := G8.out.trans (g9.mono G8.out.size)
  clear g9 HA8 HB8 N8 M8 G8 
  clear S8 U8
  go_wp2_with fail
  refine (cmpN_any la lb _ _ _ HA9.out HB9.out Hwa.out Hwb.out (by omega) (by omega)).mono ?_
  rw [hX.out, hY.out, HO.out]
  rintro e w10 ⟨rfl, g10⟩
  have HA10 : Hid (SK .u64 w10 (.slice a la.length ca) la) := HA9.out.below g10
  have HB10 : Hid (SK .u64 w10 (.slice b lb.length cb) lb) := HB9.out.below g10
  have N10 : Hid (Num w10 (.slice xa xc xd) X) := N9.out.below g10
  have M10 : Hid (Num w10 (.slice ya yc yd) Y) := M9.out.below g10
  have G10 : Hid (Below w.heap.size w w10) := G9.out.trans (g10.mono G9.out.size)
  clear g10 HA9 HB9 N9 M9 G9 
  go_wp2_with fail
  refine (cmp_num X Y _ _ _ N10.out M10.out 240 BX.out.1 BY.out.1 (by omega)).mono ?_
  rw [HO.out]
  rintro e w11 ⟨rfl, g11⟩
  have HA11 : Hid (SK .u64 w11 (.slice a la.length ca) la) := HA10.out.below g11
  have HB11 : Hid (SK .u64 w11 (.slice b lb.length cb) lb) := HB10.out.below g11
  have N11 : Hid (Num w11 (.slice xa xc xd) X) := N10.out.below g11
  have M11 : Hid (Num w11 (.slice ya yc yd) Y) := M10.out.below g11
  have G11 : Hid (Below w.heap.size w w11) := G10.out.trans (g11.mono G10.out.size)
  clear g11 HA10 HB10 N10 M10 G10 
  go_wp2_with fail
  refine (trimN_any la _ _ HA11.out Hwa.out (by omega)).mono ?_
  rw [hX.out]
  rintro e w12 ⟨vp, rfl, hp, g12⟩
  obtain ⟨pa, pc, pd, rfl⟩ := hp.shape
  have P12 : Hid (Can w12 (.slice pa pc pd) X) := hp
  have HA12 : Hid (SK .u64 w12 (.slice a la.length ca) la) := HA11.out.below g12
  have HB12 : Hid (SK .u64 w12 (.slice b lb.length cb) lb) := HB11.out.below g12
  have N12 : Hid (Num w12 (.slice xa xc xd) X) := N11.out.below g12
  have M12 : Hid (Num w12 (.slice ya yc yd) Y) := M11.out.below g12
  have G12 : Hid (Below w.heap.size w w12) := G11.out.trans (g12.mono G11.out.size)
  clear g12 HA11 HB11 N11 M11 G11 
  clear hp
  go_wp2_with fail
  refine (wordsR_num X _ _ N12.out 240 BX.out.1 (by omega)).mono ?_
  rintro e w13 ⟨vq, rfl, hq, g13⟩
  obtain ⟨qa, qc, qd, rfl⟩ := hq.shape
  have Q13 : Hid (Can w13 (.slice qa qc qd) X) := hq
  have HA13 : Hid (SK .u64 w13 (.slice a la.length ca) la) := HA12.out.below g13
  have HB13 : Hid (SK .u64 w13 (.slice b lb.length cb) lb) := HB12.out.below g13
  have N13 : Hid (Num w13 (.slice xa xc xd) X) := N12.out.below g13
  have M13 : Hid (Num w13 (.slice ya yc yd) Y) := M12.out.below g13
  have P13 : Hid (Can w13 (.slice pa pc pd) X) := P12.out.below g13
  have G13 : Hid (Below w.heap.size w w13) := G12.out.trans (g13.mono G12.out.size)
  clear g13 HA12 HB12 N12 M12 G12 P12
  clear hq
  go_wp2_with fail
  refine (same_can X _ _ _ P13.out Q13.out 60 BX.out.2 (by omega)).mono ?_
  rintro e w14 ⟨rfl, g14⟩
  have HA14 : Hid (SK .u64 w14 (.slice a la.length ca) la) := HA13.out.below g14
  have HB14 : Hid (SK .u64 w14 (.slice b lb.length cb) lb) := HB13.out.below g14
  have N14 : Hid (Num w14 (.slice xa xc xd) X) := N13.out.below g14
  have M14 : Hid (Num w14 (.slice ya yc yd) Y) := M13.out.below g14
  have G14 : Hid (Below w.heap.size w w14) := G13.out.trans (g14.mono G13.out.size)
  clear g14 HA13 HB13 N13 M13 G13 
  clear P13 Q13
  go_wp2_with fail
  refine (bitsN_any la _ _ HA14.out (by omega) Hwa.out).mono ?_
  rw [hX.out]
  generalize hT : (nbits X : Int) = T
  rintro e w15 ⟨rfl, hw15⟩; rw [hw15]; clear hw15 w15
  go_wp2_with fail
  refine (bits_num X _ _ N14.out 240 BX.out.1 (by omega)).mono ?_
  rw [hT]
  clear hT
  rintro e w15 ⟨rfl, g15⟩
  have G15 : Hid (Below w.heap.size w w15) := G14.out.trans (g15.mono G14.out.size)
  clear g15
  go_wp2_with fail
  go_ret
  exact ⟨rfl, G15.out⟩

set_option maxRecDepth 100000 in
set_option maxHeartbeats 4000000 in
theorem nsums_ge (la lb : List Nat) (va vb : Value) (w : World) (ha : SK .u64 w va la) (hb : SK .u64 w vb lb) (hwa : Ww la) (hwb : Ww lb) (hla : la.length ≤ 60) (hlb : lb.length ≤ 60) (hle : valW lb ≤ valW la) :
    Calls Try.prog 3 #[va, vb] w fun e w' => e = .returned (.bool true) ∧ Below w.heap.size w w' := by
  have HA : Hid (SK .u64 w va la) := ha
  have HB : Hid (SK .u64 w vb lb) := hb
  obtain ⟨a, ca, rfl⟩ := ha.shape
  obtain ⟨b, cb, rfl⟩ := hb.shape
  have Hwa : Hid (Ww la) := hwa
  have Hwb : Hid (Ww lb) := hwb
  have h1' : ¬ (60 : Int) < la.length := by omega
  have h2' : ¬ (60 : Int) < lb.length := by omega
  obtain ⟨X, hX⟩ : ∃ X, Hid (valW la = X) := ⟨_, rfl⟩
  obtain ⟨Y, hY⟩ : ∃ Y, Hid (valW lb = Y) := ⟨_, rfl⟩
  have BX : Hid (X < 16777216 ^ 240 ∧ X < 18446744073709551616 ^ 60) := by unfold Hid; rw [← hX.out]; exact s60 la hwa hla
  have BY : Hid (Y < 16777216 ^ 240 ∧ Y < 18446744073709551616 ^ 60) := by unfold Hid; rw [← hY.out]; exact s60 lb hwb hlb
  have BS : Hid (X + Y < 16777216 ^ 241 ∧ X + Y < 18446744073709551616 ^ 61) := by
    have h1 := BX.out
    have h2 := BY.out
    unfold Hid
    rw [Nat.pow_succ 16777216 240, Nat.pow_succ 18446744073709551616 60]
    generalize 16777216 ^ 240 = P at *
    generalize 18446744073709551616 ^ 60 = Q at *
    omega
  have hle' : Hid (Y ≤ X) := by unfold Hid; rw [← hX.out, ← hY.out]; exact hle
  obtain ⟨o, ho⟩ : ∃ o : Int, ord (X : Int) (Y : Int) = o := ⟨_, rfl⟩
  have ho0 : 0 ≤ o := by rw [← ho]; have := hle'.out; unfold ord; split; omega; split <;> omega
  have hd0 : decide (0 ≤ o) = true := by simpa using ho0
  have HO : Hid (ord (X : Int) (Y : Int) = _) := ho
  clear ha hb hwa hwb ho hle ho0
  go_enter Try.func3, Try.ntmps3
  go_wp2_with fail
  refine (awakeN_any _).mono ?_
  rintro e w1 ⟨rfl, g1⟩
  have G1 : Hid (Below w.heap.size w w1) := g1
  have HA1 : Hid (SK .u64 w1 (.slice a la.length ca) la) := HA.out.below g1
  have HB1 : Hid (SK .u64 w1 (.slice b lb.length cb) lb) := HB.out.below g1
  clear g1 HA HB
  go_wp2_with fail
  refine (words_any la _ _ HA1.out Hwa.out (by omega)).mono ?_
  rw [hX.out]
  rintro e w2 ⟨v2, rfl, h2, g2⟩
  obtain ⟨xa, xc, xd, rfl⟩ := h2.shape
  have N2 : Hid (Num w2 (.slice xa xc xd) X) := h2
  have HA2 : Hid (SK .u64 w2 (.slice a la.length ca) la) := HA1.out.below g2
  have HB2 : Hid (SK .u64 w2 (.slice b lb.length cb) lb) := HB1.out.below g2
  have G2 : Hid (Below w.heap.size w w2) := G1.out.trans (g2.mono G1.out.size)
  clear h2 g2 HA1 HB1 G1
  go_wp2_with fail
  refine (words_any lb _ _ HB2.out Hwb.out (by omega)).mono ?_
  rw [hY.out]
  rintro e w3 ⟨v3, rfl, h3, g3⟩
  obtain ⟨ya, yc, yd, rfl⟩ := h3.shape
  have M3 : Hid (Num w3 (.slice ya yc yd) Y) := h3
  have N3 : Hid (Num w3 (.slice xa xc xd) X) := N2.out.below g3
  have HA3 : Hid (SK .u64 w3 (.slice a la.length ca) la) := HA2.out.below g3
  have HB3 : Hid (SK .u64 w3 (.slice b lb.length cb) lb) := HB2.out.below g3
  have G3 : Hid (Below w.heap.size w w3) := G2.out.trans (g3.mono G2.out.size)
  clear h3 g3 HA2 HB2 G2 N2
  go_wp2_with fail
  refine (subN_some la lb _ _ _ HA3.out HB3.out Hwa.out Hwb.out (by omega) (by omega) (by rw [hX.out, hY.out]; exact hle'.out)).mono ?_
  rw [hX.out, hY.out]
  rintro e w4 ⟨v4, rfl, h4, g4⟩
  obtain ⟨da, dc, dd, rfl⟩ := h4.shape
  have D4 : Hid (Can w4 (.slice da dc dd) (X - Y)) := h4
  have HA4 : Hid (SK .u64 w4 (.slice a la.length ca) la) := HA3.out.below g4
  have HB4 : Hid (SK .u64 w4 (.slice b lb.length cb) lb) := HB3.out.below g4
  have N4 : Hid (Num w4 (.slice xa xc xd) X) := N3.out.below g4
  have M4 : Hid (Num w4 (.slice ya yc yd) Y) := M3.out.below g4
  have G4 : Hid (Below w.heap.size w w4) := G3.out.trans (g4.mono G3.out.size)
  clear g4 HA3 HB3 N3 M3 G3 
  clear h4
  go_wp2_with fail
  refine (cmp_num X Y _ _ _ N4.out M4.out 240 BX.out.1 BY.out.1 (by omega)).mono ?_
  rw [HO.out]
  rintro e w5 ⟨rfl, g5⟩
  have HA5 : Hid (SK .u64 w5 (.slice a la.length ca) la) := HA4.out.below g5
  have HB5 : Hid (SK .u64 w5 (.slice b lb.length cb) lb) := HB4.out.below g5
  have N5 : Hid (Num w5 (.slice xa xc xd) X) := N4.out.below g5
  have M5 : Hid (Num w5 (.slice ya yc yd) Y) := M4.out.below g5
  have D5 : Hid (Can w5 (.slice da dc dd) (X - Y)) := D4.out.below g5
  have G5 : Hid (Below w.heap.size w w5) := G4.out.trans (g5.mono G4.out.size)
  clear g5 HA4 HB4 N4 M4 G4 D4
  go_wp2_with fail
  refine (sub_num X Y _ _ _ N5.out M5.out 240 BX.out.1 (by omega) hle'.out).mono ?_
  rintro e w6 ⟨v6, rfl, h6, g6⟩
  obtain ⟨ea, ec, ed, rfl⟩ := h6.shape
  have E6 : Hid (Num w6 (.slice ea ec ed) (X - Y)) := h6
  have HA6 : Hid (SK .u64 w6 (.slice a la.length ca) la) := HA5.out.below g6
  have HB6 : Hid (SK .u64 w6 (.slice b lb.length cb) lb) := HB5.out.below g6
  have N6 : Hid (Num w6 (.slice xa xc xd) X) := N5.out.below g6
  have M6 : Hid (Num w6 (.slice ya yc yd) Y) := M5.out.below g6
  have D6 : Hid (Can w6 (.slice da dc dd) (X - Y)) := D5.out.below g6
  have G6 : Hid (Below w.heap.size w w6) := G5.out.trans (g6.mono G5.out.size)
  clear g6 HA5 HB5 N5 M5 G5 D5
  clear h6
  go_wp2_with fail
  refine (wordsR_num (X - Y) _ _ E6.out 240 (Nat.lt_of_le_of_lt (Nat.sub_le _ _) BX.out.1) (by omega)).mono ?_
  rintro e w7 ⟨v7, rfl, h7, g7⟩
  obtain ⟨fa, fc, fd, rfl⟩ := h7.shape
  have F7 : Hid (Can w7 (.slice fa fc fd) (X - Y)) := h7
  have HA7 : Hid (SK .u64 w7 (.slice a la.length ca) la) := HA6.out.below g7
  have HB7 : Hid (SK .u64 w7 (.slice b lb.length cb) lb) := HB6.out.below g7
  have N7 : Hid (Num w7 (.slice xa xc xd) X) := N6.out.below g7
  have M7 : Hid (Num w7 (.slice ya yc yd) Y) := M6.out.below g7
  have D7 : Hid (Can w7 (.slice da dc dd) (X - Y)) := D6.out.below g7
  have G7 : Hid (Below w.heap.size w w7) := G6.out.trans (g7.mono G6.out.size)
  clear g7 HA6 HB6 N6 M6 G6 D6
  clear h7 E6
  go_wp2_with fail
  refine (same_can (X - Y) _ _ _ D7.out F7.out 60 (Nat.lt_of_le_of_lt (Nat.sub_le _ _) BX.out.2) (by omega)).mono ?_
  rintro e w8 ⟨rfl, g8⟩
  have HA8 : Hid (SK .u64 w8 (.slice a la.length ca) la) := HA7.out.below g8
  have HB8 : Hid (SK .u64 w8 (.slice b lb.length cb) lb) := HB7.out.below g8
  have N8 : Hid (Num w8 (.slice xa xc xd) X) := N7.out.below g8
  have M8 : Hid (Num w8 (.slice ya yc yd) Y) := M7.out.below g8
  have G8 : Hid (Below w.heap.size w w8) := G7.out.trans (g8.mono G7.out.size)
  clear g8 HA7 HB7 N7 M7 G7 
  clear D7 F7
  go_wp2_with fail
  refine (addN_any la lb _ _ _ HA8.out HB8.out Hwa.out Hwb.out (by omega) (by omega)).mono ?_
  rw [hX.out, hY.out]
  rintro e w9 ⟨vs, rfl, hs, g9⟩
  obtain ⟨sa, sc, sd, rfl⟩ := hs.shape
  have S9 : Hid (Can w9 (.slice sa sc sd) (X + Y)) := hs
  have HA9 : Hid (SK .u64 w9 (.slice a la.length ca) la) := HA8.out.below g9
  have HB9 : Hid (SK .u64 w9 (.slice b lb.length cb) lb) := HB8.out.below g9
  have N9 : Hid (Num w9 (.slice xa xc xd) X) := N8.out.below g9
  have M9 : Hid (Num w9 (.slice ya yc yd) Y) := M8.out.below g9
  have G9 : Hid (Below w.heap.size w w9) := G8.out.trans (g9.mono G8.out.size)
  clear g9 HA8 HB8 N8 M8 G8 
  clear hs
  go_wp2_with fail
  refine (add_num X Y _ _ _ N9.out M9.out 240 BX.out.1 BY.out.1 (by omega)).mono ?_
  rintro e w10 ⟨vt, rfl, ht, g10⟩
  obtain ⟨ta, tc, td, rfl⟩ := ht.shape
  have T10 : Hid (Num w10 (.slice ta tc td) (X + Y)) := ht
  have HA10 : Hid (SK .u64 w10 (.slice a la.length ca) la) := HA9.out.below g10
  have HB10 : Hid (SK .u64 w10 (.slice b lb.length cb) lb) := HB9.out.below g10
  have N10 : Hid (Num w10 (.slice xa xc xd) X) := N9.out.below g10
  have M10 : Hid (Num w10 (.slice ya yc yd) Y) := M9.out.below g10
  have S10 : Hid (Can w10 (.slice sa sc sd) (X + Y)) := S9.out.below g10
  have G10 : Hid (Below w.heap.size w w10) := G9.out.trans (g10.mono G9.out.size)
  clear g10 HA9 HB9 N9 M9 G9 S9
  clear ht
  go_wp2_with fail
  refine (wordsR_num (X + Y) _ _ T10.out 241 BS.out.1 (by omega)).mono ?_
  rintro e w11 ⟨vu, rfl, hu, g11⟩
  obtain ⟨ua, uc, ud, rfl⟩ := hu.shape
  have U11 : Hid (Can w11 (.slice ua uc ud) (X + Y)) := hu
  have HA11 : Hid (SK .u64 w11 (.slice a la.length ca) la) := HA10.out.below g11
  have HB11 : Hid (SK .u64 w11 (.slice b lb.length cb) lb) := HB10.out.below g11
  have N11 : Hid (Num w11 (.slice xa xc xd) X) := N10.out.below g11
  have M11 : Hid (Num w11 (.slice ya yc yd) Y) := M10.out.below g11
  have S11 : Hid (Can w11 (.slice sa sc sd) (X + Y)) := S10.out.below g11
  have G11 : Hid (Below w.heap.size w w11) := G10.out.trans (g11.mono G10.out.size)
  clear g11 HA10 HB10 N10 M10 G10 S10
  clear hu T10
  go_wp2_with fail
  refine (same_can (X + Y) _ _ _ S11.out U11.out 61 BS.out.2 (by omega)).mono ?_
  rintro e w12 ⟨rfl, g12⟩
  have HA12 : Hid (SK .u64 w12 (.slice a la.length ca) la) := HA11.out.below g12
  have HB12 : Hid (SK .u64 w12 (.slice b lb.length cb) lb) := HB11.out.below g12
  have N12 : Hid (Num w12 (.slice xa xc xd) X) := N11.out.below g12
  have M12 : Hid (Num w12 (.slice ya yc yd) Y) := M11.out.below g12
  have G12 : Hid (Below w.heap.size w w12) := G11.out.trans (g12.mono G11.out.size)
  clear g12 HA11 HB11 N11 M11 G11 
  clear S11 U11
  go_wp2_with fail
  refine (cmpN_any la lb _ _ _ HA12.out HB12.out Hwa.out Hwb.out (by omega) (by omega)).mono ?_
  rw [hX.out, hY.out, HO.out]
  rintro e w13 ⟨rfl, g13⟩
  have HA13 : Hid (SK .u64 w13 (.slice a la.length ca) la) := HA12.out.below g13
  have HB13 : Hid (SK .u64 w13 (.slice b lb.length cb) lb) := HB12.out.below g13
  have N13 : Hid (Num w13 (.slice xa xc xd) X) := N12.out.below g13
  have M13 : Hid (Num w13 (.slice ya yc yd) Y) := M12.out.below g13
  have G13 : Hid (Below w.heap.size w w13) := G12.out.trans (g13.mono G12.out.size)
  clear g13 HA12 HB12 N12 M12 G12 
  go_wp2_with fail
  refine (cmp_num X Y _ _ _ N13.out M13.out 240 BX.out.1 BY.out.1 (by omega)).mono ?_
  rw [HO.out]
  rintro e w14 ⟨rfl, g14⟩
  have HA14 : Hid (SK .u64 w14 (.slice a la.length ca) la) := HA13.out.below g14
  have HB14 : Hid (SK .u64 w14 (.slice b lb.length cb) lb) := HB13.out.below g14
  have N14 : Hid (Num w14 (.slice xa xc xd) X) := N13.out.below g14
  have M14 : Hid (Num w14 (.slice ya yc yd) Y) := M13.out.below g14
  have G14 : Hid (Below w.heap.size w w14) := G13.out.trans (g14.mono G13.out.size)
  clear g14 HA13 HB13 N13 M13 G13 
  go_wp2_with fail
  refine (trimN_any la _ _ HA14.out Hwa.out (by omega)).mono ?_
  rw [hX.out]
  rintro e w15 ⟨vp, rfl, hp, g15⟩
  obtain ⟨pa, pc, pd, rfl⟩ := hp.shape
  have P15 : Hid (Can w15 (.slice pa pc pd) X) := hp
  have HA15 : Hid (SK .u64 w15 (.slice a la.length ca) la) := HA14.out.below g15
  have HB15 : Hid (SK .u64 w15 (.slice b lb.length cb) lb) := HB14.out.below g15
  have N15 : Hid (Num w15 (.slice xa xc xd) X) := N14.out.below g15
  have M15 : Hid (Num w15 (.slice ya yc yd) Y) := M14.out.below g15
  have G15 : Hid (Below w.heap.size w w15) := G14.out.trans (g15.mono G14.out.size)
  clear g15 HA14 HB14 N14 M14 G14 
  clear hp
  go_wp2_with fail
  refine (wordsR_num X _ _ N15.out 240 BX.out.1 (by omega)).mono ?_
  rintro e w16 ⟨vq, rfl, hq, g16⟩
  obtain ⟨qa, qc, qd, rfl⟩ := hq.shape
  have Q16 : Hid (Can w16 (.slice qa qc qd) X) := hq
  have HA16 : Hid (SK .u64 w16 (.slice a la.length ca) la) := HA15.out.below g16
  have HB16 : Hid (SK .u64 w16 (.slice b lb.length cb) lb) := HB15.out.below g16
  have N16 : Hid (Num w16 (.slice xa xc xd) X) := N15.out.below g16
  have M16 : Hid (Num w16 (.slice ya yc yd) Y) := M15.out.below g16
  have P16 : Hid (Can w16 (.slice pa pc pd) X) := P15.out.below g16
  have G16 : Hid (Below w.heap.size w w16) := G15.out.trans (g16.mono G15.out.size)
  clear g16 HA15 HB15 N15 M15 G15 P15
  clear hq
  go_wp2_with fail
  refine (same_can X _ _ _ P16.out Q16.out 60 BX.out.2 (by omega)).mono ?_
  rintro e w17 ⟨rfl, g17⟩
  have HA17 : Hid (SK .u64 w17 (.slice a la.length ca) la) := HA16.out.below g17
  have HB17 : Hid (SK .u64 w17 (.slice b lb.length cb) lb) := HB16.out.below g17
  have N17 : Hid (Num w17 (.slice xa xc xd) X) := N16.out.below g17
  have M17 : Hid (Num w17 (.slice ya yc yd) Y) := M16.out.below g17
  have G17 : Hid (Below w.heap.size w w17) := G16.out.trans (g17.mono G16.out.size)
  clear g17 HA16 HB16 N16 M16 G16 
  clear P16 Q16
  go_wp2_with fail
  refine (bitsN_any la _ _ HA17.out (by omega) Hwa.out).mono ?_
  rw [hX.out]
  generalize hT : (nbits X : Int) = T
  rintro e w18 ⟨rfl, hw18⟩; rw [hw18]; clear hw18 w18
  go_wp2_with fail
  refine (bits_num X _ _ N17.out 240 BX.out.1 (by omega)).mono ?_
  rw [hT]
  clear hT
  rintro e w18 ⟨rfl, g18⟩
  have G18 : Hid (Below w.heap.size w w18) := G17.out.trans (g18.mono G17.out.size)
  clear g18
  go_wp2_with fail
  go_ret
  exact ⟨rfl, G18.out⟩

theorem nsums_walk (la lb : List Nat) (va vb : Value) (w : World) (ha : SK .u64 w va la) (hb : SK .u64 w vb lb) (hwa : Ww la) (hwb : Ww lb) :
    Calls Try.prog 3 #[va, vb] w fun e w' => e = .returned (.bool true) ∧ Below w.heap.size w w' := by
  by_cases h : 60 < la.length ∨ 60 < lb.length
  · exact nsums_long la lb va vb w ha hb h
  · by_cases hlt : valW la < valW lb
    · exact nsums_lt la lb va vb w ha hb hwa hwb (by omega) (by omega) hlt
    · exact nsums_ge la lb va vb w ha hb hwa hwb (by omega) (by omega) (by omega)

end Go.Proofs.Ytdlocljnmaeikaa
