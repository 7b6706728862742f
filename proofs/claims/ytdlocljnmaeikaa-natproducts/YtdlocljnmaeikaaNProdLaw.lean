/-
  The walk of the law NatProducts: for any two lists of words and any word it returns true and changes no memory that was there. Conditions: none beyond that words are words.
-/
import Derived.Test.YtdlocljnmaeikaaNatW
import Derived.Test.YtdlocljnmaeikaaNatK
import Derived.Test.YtdlocljnmaeikaaNatR
import Derived.Test.YtdlocljnmaeikaaQuo2
namespace Go.Proofs.Ytdlocljnmaeikaa
open Go.RowKit
set_option linter.unusedVariables false

theorem nprod_long (la lb : List Nat) (va vb : Value) (m : Nat) (w : World) (ha : SK .u64 w va la) (hb : SK .u64 w vb lb) (h : 40 < la.length ∨ 40 < lb.length) :
    Calls Try.prog 4 #[va, vb, .int .u64 (m : Int)] w fun e w' => e = .returned (.bool true) ∧ Below w.heap.size w w' := by
  obtain ⟨a, ca, rfl⟩ := ha.shape
  obtain ⟨b, cb, rfl⟩ := hb.shape
  clear ha hb
  by_cases h1 : 40 < la.length
  · have h1' : (40 : Int) < la.length := by omega
    go_enter Try.func4, Try.ntmps4
    go_wp2_with fail
    refine (awakeN_any _).mono ?_
    rintro e w1 ⟨rfl, g1⟩
    go_wp2_with fail
    go_ret
    exact ⟨rfl, g1⟩
  · have h1' : ¬ (40 : Int) < la.length := by omega
    have h2' : (40 : Int) < lb.length := by omega
    go_enter Try.func4, Try.ntmps4
    go_wp2_with fail
    refine (awakeN_any _).mono ?_
    rintro e w1 ⟨rfl, g1⟩
    go_wp2_with fail
    go_ret
    exact ⟨rfl, g1⟩

theorem p40 (la : List Nat) (hw : Ww la) (hl : la.length ≤ 40) : valW la < 16777216 ^ 107 ∧ valW la < 18446744073709551616 ^ 40 := by
  have h1 := valW_lt la hw
  exact ⟨words_len' la.length 107 (by omega) _ h1, Nat.lt_of_lt_of_le h1 (Nat.pow_le_pow_right (by omega) hl)⟩
theorem p40_mul (X Y : Nat) (hX : X < 16777216 ^ 107 ∧ X < 18446744073709551616 ^ 40) (hY : Y < 16777216 ^ 107 ∧ Y < 18446744073709551616 ^ 40) : X * Y < 16777216 ^ 214 ∧ X * Y < 18446744073709551616 ^ 80 := by
  rw [show (214 : Nat) = 107 + 107 from rfl, show (80 : Nat) = 40 + 40 from rfl, Nat.pow_add, Nat.pow_add]
  exact ⟨Nat.mul_lt_mul'' hX.1 hY.1, Nat.mul_lt_mul'' hX.2 hY.2⟩
theorem p40_word (m : Nat) (hm : m < 18446744073709551616) : m < 16777216 ^ 107 ∧ m < 18446744073709551616 ^ 40 := by
  refine ⟨words_len' 1 107 (by omega) _ (by rw [Nat.pow_one]; exact hm), ?_⟩
  have : 18446744073709551616 ^ 1 ≤ 18446744073709551616 ^ 40 := Nat.pow_le_pow_right (by omega) (by omega)
  rw [Nat.pow_one] at this
  exact Nat.lt_of_lt_of_le hm this
theorem toWord1 (N : Nat) (va : Value) (w : World) (ha : Num w va N) (hN : N < 18446744073709551616) :
    Calls Try.prog 23 #[va, .int .i64 1] w fun e w' => e = .returned (.slice (some ⟨w.heap.size, 0, none⟩) 1 1) ∧ w'.cell? ⟨w.heap.size, 0, none⟩ = some (.int .u64 (N : Int)) ∧ Below w.heap.size w w' := by
  obtain ⟨l, h1, h2, h3, h4⟩ := ha
  have hl := nz_len l 107 h2 h3 (by rw [h4]; exact (p40_word N hN).1)
  refine (toWords_any l va 1 w h1 h2 (by omega) (by omega)).mono fun e w' ⟨o, he, hr, hol, how, hov, hb⟩ => ⟨he, ?_, hb⟩
  have hc := hr.cell 0 (by omega)
  have ho : o.getD 0 0 = N := by
    match o, hol with
    | [x], _ =>
      rw [h4] at hov
      simp only [valW] at hov
      rw [Nat.mul_one, show (2 : Nat) ^ 64 = 18446744073709551616 by decide, Nat.mod_eq_of_lt hN] at hov
      simp only [List.getD_cons_zero]
      omega
  rw [ho] at hc
  exact hc

set_option maxRecDepth 100000 in
set_option maxHeartbeats 4000000 in
theorem nprod_zero (la lb : List Nat) (va vb : Value) (w : World) (ha : SK .u64 w va la) (hb : SK .u64 w vb lb) (hwa : Ww la) (hwb : Ww lb) (hla : la.length ≤ 40) (hlb : lb.length ≤ 40) :
    Calls Try.prog 4 #[va, vb, .int .u64 0] w fun e w' => e = .returned (.bool true) ∧ Below w.heap.size w w' := by
  have HA0 : Hid (SK .u64 w va la) := ha
  have HB0 : Hid (SK .u64 w vb lb) := hb
  obtain ⟨a, ca, rfl⟩ := ha.shape
  obtain ⟨b, cb, rfl⟩ := hb.shape
  have Hwa : Hid (Ww la) := hwa
  have Hwb : Hid (Ww lb) := hwb
  have h1' : ¬ (40 : Int) < la.length := by omega
  have h2' : ¬ (40 : Int) < lb.length := by omega
  obtain ⟨X, hX⟩ : ∃ X, Hid (valW la = X) := ⟨_, rfl⟩
  obtain ⟨Y, hY⟩ : ∃ Y, Hid (valW lb = Y) := ⟨_, rfl⟩
  have BX : Hid (X < 16777216 ^ 107 ∧ X < 18446744073709551616 ^ 40) := by unfold Hid; rw [← hX.out]; exact p40 la hwa hla
  have BY : Hid (Y < 16777216 ^ 107 ∧ Y < 18446744073709551616 ^ 40) := by unfold Hid; rw [← hY.out]; exact p40 lb hwb hlb
  have BP : Hid (X * Y < 16777216 ^ 214 ∧ X * Y < 18446744073709551616 ^ 80) := p40_mul X Y BX.out BY.out
  have BM : Hid (0 < 16777216 ^ 107 ∧ 0 < 18446744073709551616 ^ 40) := p40_word 0 (by decide)
  have BQ : Hid (X * 0 < 16777216 ^ 214 ∧ X * 0 < 18446744073709551616 ^ 80) := p40_mul X 0 BX.out BM.out
  clear ha hb hwa hwb
  go_enter Try.func4, Try.ntmps4
  go_wp2_with fail
  refine (awakeN_any _).mono ?_
  rintro e w1 ⟨rfl, g1⟩
  have HA1 : Hid (SK .u64 w1 (.slice a la.length ca) la) := HA0.out.below g1
  have HB1 : Hid (SK .u64 w1 (.slice b lb.length cb) lb) := HB0.out.below g1
  have G1 : Hid (Below w.heap.size w w1) := g1
  clear g1 HA0 HB0
  go_wp2_with fail
  refine (words_any la _ _ HA1.out Hwa.out (by omega)).mono ?_
  rw [hX.out]
  rintro e w2 ⟨v2, rfl, h2, g2⟩
  obtain ⟨xa, xc, xd, rfl⟩ := h2.shape
  have N2 : Hid (Num w2 (.slice xa xc xd) X) := h2
  have HA2 : Hid (SK .u64 w2 (.slice a la.length ca) la) := HA1.out.below g2
  have HB2 : Hid (SK .u64 w2 (.slice b lb.length cb) lb) := HB1.out.below g2
  have G2 : Hid (Below w.heap.size w w2) := G1.out.trans (g2.mono G1.out.size)
  clear g2 HA1 HB1 G1 h2
  go_wp2_with fail
  refine (words_any lb _ _ HB2.out Hwb.out (by omega)).mono ?_
  rw [hY.out]
  rintro e w3 ⟨v3, rfl, h3, g3⟩
  obtain ⟨ya, yc, yd, rfl⟩ := h3.shape
  have M3 : Hid (Num w3 (.slice ya yc yd) Y) := h3
  have HA3 : Hid (SK .u64 w3 (.slice a la.length ca) la) := HA2.out.below g3
  have HB3 : Hid (SK .u64 w3 (.slice b lb.length cb) lb) := HB2.out.below g3
  have N3 : Hid (Num w3 (.slice xa xc xd) X) := N2.out.below g3
  have G3 : Hid (Below w.heap.size w w3) := G2.out.trans (g3.mono G2.out.size)
  clear g3 HA2 HB2 N2 G2 h3
  have SW : Hid (SK .u64 (w3.alloc (.cells #[.int .u64 0] 37)) (.slice (some ⟨w3.heap.size, 0, none⟩) 1 1) [0]) := SK.lit1 w3 0
  go_wp2_with fail
  refine (words_any [0] _ _ SW.out (fun j => by rcases j with _ | j <;> simp) (by simp)).mono ?_
  rw [show valW [0] = 0 by simp [valW]]
  rintro e w4 ⟨v4, rfl, h4, g4'⟩
  have g4 : Below w3.heap.size w3 w4 := ((Below.refl _ _).alloc (Nat.le_refl _) _).trans (g4'.mono (by simp))
  obtain ⟨za, zc, zd, rfl⟩ := h4.shape
  have Z4 : Hid (Num w4 (.slice za zc zd) 0) := h4
  have HA4 : Hid (SK .u64 w4 (.slice a la.length ca) la) := HA3.out.below g4
  have HB4 : Hid (SK .u64 w4 (.slice b lb.length cb) lb) := HB3.out.below g4
  have N4 : Hid (Num w4 (.slice xa xc xd) X) := N3.out.below g4
  have M4 : Hid (Num w4 (.slice ya yc yd) Y) := M3.out.below g4
  have G4 : Hid (Below w.heap.size w w4) := G3.out.trans (g4.mono G3.out.size)
  clear g4 g4' h4 SW G3 HA3 HB3 N3 M3
  go_wp2_with fail
  refine (divWord_zero la _ _ HA4.out).mono ?_
  rintro e w5 ⟨rfl, g5⟩
  have HA5 : Hid (SK .u64 w5 (.slice a la.length ca) la) := HA4.out.below g5
  have HB5 : Hid (SK .u64 w5 (.slice b lb.length cb) lb) := HB4.out.below g5
  have N5 : Hid (Num w5 (.slice xa xc xd) X) := N4.out.below g5
  have M5 : Hid (Num w5 (.slice ya yc yd) Y) := M4.out.below g5
  have Z5 : Hid (Num w5 (.slice za zc zd) 0) := Z4.out.below g5
  have G5 : Hid (Below w.heap.size w w5) := G4.out.trans (g5.mono G4.out.size)
  clear g5 HA4 HB4 N4 M4 Z4 G4
  go_wp2_with fail
  refine (mulN_any la lb _ _ _ HA5.out HB5.out Hwa.out Hwb.out (by omega) (by omega)).mono ?_
  rw [hX.out, hY.out]
  rintro e w6 ⟨vs, rfl, hs, g6⟩
  obtain ⟨sa, sc, sd, rfl⟩ := hs.shape
  have S6 : Hid (Can w6 (.slice sa sc sd) (X * Y)) := hs
  have HA6 : Hid (SK .u64 w6 (.slice a la.length ca) la) := HA5.out.below g6
  have HB6 : Hid (SK .u64 w6 (.slice b lb.length cb) lb) := HB5.out.below g6
  have N6 : Hid (Num w6 (.slice xa xc xd) X) := N5.out.below g6
  have M6 : Hid (Num w6 (.slice ya yc yd) Y) := M5.out.below g6
  have Z6 : Hid (Num w6 (.slice za zc zd) 0) := Z5.out.below g6
  have G6 : Hid (Below w.heap.size w w6) := G5.out.trans (g6.mono G5.out.size)
  clear g6 HA5 HB5 N5 M5 Z5 G5 hs
  go_wp2_with fail
  refine (ref_mul_num X Y _ _ _ N6.out M6.out 107 BX.out.1 BY.out.1 (by omega)).mono ?_
  rintro e w7 ⟨vt, rfl, ht, g7⟩
  obtain ⟨ta, tc, td, rfl⟩ := ht.shape
  have T7 : Hid (Num w7 (.slice ta tc td) (X * Y)) := ht
  have HA7 : Hid (SK .u64 w7 (.slice a la.length ca) la) := HA6.out.below g7
  have HB7 : Hid (SK .u64 w7 (.slice b lb.length cb) lb) := HB6.out.below g7
  have N7 : Hid (Num w7 (.slice xa xc xd) X) := N6.out.below g7
  have M7 : Hid (Num w7 (.slice ya yc yd) Y) := M6.out.below g7
  have Z7 : Hid (Num w7 (.slice za zc zd) 0) := Z6.out.below g7
  have S7 : Hid (Can w7 (.slice sa sc sd) (X * Y)) := S6.out.below g7
  have G7 : Hid (Below w.heap.size w w7) := G6.out.trans (g7.mono G6.out.size)
  clear g7 HA6 HB6 N6 M6 Z6 S6 G6 ht
  go_wp2_with fail
  refine (wordsR_num (X * Y) _ _ T7.out 214 BP.out.1 (by omega)).mono ?_
  rintro e w8 ⟨vp, rfl, hp, g8⟩
  obtain ⟨pa, pc, pd, rfl⟩ := hp.shape
  have P8 : Hid (Can w8 (.slice pa pc pd) (X * Y)) := hp
  have HA8 : Hid (SK .u64 w8 (.slice a la.length ca) la) := HA7.out.below g8
  have HB8 : Hid (SK .u64 w8 (.slice b lb.length cb) lb) := HB7.out.below g8
  have N8 : Hid (Num w8 (.slice xa xc xd) X) := N7.out.below g8
  have M8 : Hid (Num w8 (.slice ya yc yd) Y) := M7.out.below g8
  have Z8 : Hid (Num w8 (.slice za zc zd) 0) := Z7.out.below g8
  have S8 : Hid (Can w8 (.slice sa sc sd) (X * Y)) := S7.out.below g8
  have G8 : Hid (Below w.heap.size w w8) := G7.out.trans (g8.mono G7.out.size)
  clear g8 HA7 HB7 N7 M7 Z7 S7 T7 G7 hp
  go_wp2_with fail
  refine (same_can (X * Y) _ _ _ S8.out P8.out 80 BP.out.2 (by omega)).mono ?_
  rintro e w9 ⟨rfl, g9⟩
  have HA9 : Hid (SK .u64 w9 (.slice a la.length ca) la) := HA8.out.below g9
  have HB9 : Hid (SK .u64 w9 (.slice b lb.length cb) lb) := HB8.out.below g9
  have N9 : Hid (Num w9 (.slice xa xc xd) X) := N8.out.below g9
  have M9 : Hid (Num w9 (.slice ya yc yd) Y) := M8.out.below g9
  have Z9 : Hid (Num w9 (.slice za zc zd) 0) := Z8.out.below g9
  have G9 : Hid (Below w.heap.size w w9) := G8.out.trans (g9.mono G8.out.size)
  clear g9 HA8 HB8 N8 M8 Z8 S8 P8 G8
  go_wp2_with fail
  refine (mulWordN_any la _ 0 _ HA9.out Hwa.out (by omega) (by decide)).mono ?_
  rw [hX.out]
  rintro e w10 ⟨vk, rfl, hk, g10⟩
  obtain ⟨ka, kc, kd, rfl⟩ := hk.shape
  have K10 : Hid (Can w10 (.slice ka kc kd) (X * 0)) := hk
  have HA10 : Hid (SK .u64 w10 (.slice a la.length ca) la) := HA9.out.below g10
  have HB10 : Hid (SK .u64 w10 (.slice b lb.length cb) lb) := HB9.out.below g10
  have N10 : Hid (Num w10 (.slice xa xc xd) X) := N9.out.below g10
  have M10 : Hid (Num w10 (.slice ya yc yd) Y) := M9.out.below g10
  have Z10 : Hid (Num w10 (.slice za zc zd) 0) := Z9.out.below g10
  have G10 : Hid (Below w.heap.size w w10) := G9.out.trans (g10.mono G9.out.size)
  clear g10 HA9 HB9 N9 M9 Z9 G9 hk
  go_wp2_with fail
  refine (ref_mul_num X 0 _ _ _ N10.out Z10.out 107 BX.out.1 BM.out.1 (by omega)).mono ?_
  rintro e w11 ⟨vl, rfl, hl, g11⟩
  obtain ⟨ea, ec, ed, rfl⟩ := hl.shape
  have L11 : Hid (Num w11 (.slice ea ec ed) (X * 0)) := hl
  have HA11 : Hid (SK .u64 w11 (.slice a la.length ca) la) := HA10.out.below g11
  have HB11 : Hid (SK .u64 w11 (.slice b lb.length cb) lb) := HB10.out.below g11
  have N11 : Hid (Num w11 (.slice xa xc xd) X) := N10.out.below g11
  have M11 : Hid (Num w11 (.slice ya yc yd) Y) := M10.out.below g11
  have Z11 : Hid (Num w11 (.slice za zc zd) 0) := Z10.out.below g11
  have K11 : Hid (Can w11 (.slice ka kc kd) (X * 0)) := K10.out.below g11
  have G11 : Hid (Below w.heap.size w w11) := G10.out.trans (g11.mono G10.out.size)
  clear g11 HA10 HB10 N10 M10 Z10 K10 G10 hl
  go_wp2_with fail
  refine (wordsR_num (X * 0) _ _ L11.out 214 BQ.out.1 (by omega)).mono ?_
  rintro e w12 ⟨vo, rfl, ho, g12⟩
  obtain ⟨oa, oc, od, rfl⟩ := ho.shape
  have O12 : Hid (Can w12 (.slice oa oc od) (X * 0)) := ho
  have HA12 : Hid (SK .u64 w12 (.slice a la.length ca) la) := HA11.out.below g12
  have HB12 : Hid (SK .u64 w12 (.slice b lb.length cb) lb) := HB11.out.below g12
  have N12 : Hid (Num w12 (.slice xa xc xd) X) := N11.out.below g12
  have M12 : Hid (Num w12 (.slice ya yc yd) Y) := M11.out.below g12
  have Z12 : Hid (Num w12 (.slice za zc zd) 0) := Z11.out.below g12
  have K12 : Hid (Can w12 (.slice ka kc kd) (X * 0)) := K11.out.below g12
  have G12 : Hid (Below w.heap.size w w12) := G11.out.trans (g12.mono G11.out.size)
  clear g12 HA11 HB11 N11 M11 Z11 K11 L11 G11 ho
  go_wp2_with fail
  refine (same_can (X * 0) _ _ _ K12.out O12.out 80 BQ.out.2 (by omega)).mono ?_
  rintro e w13 ⟨rfl, g13⟩
  have HA13 : Hid (SK .u64 w13 (.slice a la.length ca) la) := HA12.out.below g13
  have HB13 : Hid (SK .u64 w13 (.slice b lb.length cb) lb) := HB12.out.below g13
  have N13 : Hid (Num w13 (.slice xa xc xd) X) := N12.out.below g13
  have M13 : Hid (Num w13 (.slice ya yc yd) Y) := M12.out.below g13
  have Z13 : Hid (Num w13 (.slice za zc zd) 0) := Z12.out.below g13
  have G13 : Hid (Below w.heap.size w w13) := G12.out.trans (g13.mono G12.out.size)
  clear g13 HA12 HB12 N12 M12 Z12 K12 O12 G12
  go_wp2_with fail
  go_ret
  exact ⟨rfl, G13.out⟩

set_option maxRecDepth 100000 in
set_option maxHeartbeats 4000000 in
theorem nprod_some (la lb : List Nat) (va vb : Value) (m : Nat) (w : World) (ha : SK .u64 w va la) (hb : SK .u64 w vb lb) (hwa : Ww la) (hwb : Ww lb) (hla : la.length ≤ 40) (hlb : lb.length ≤ 40) (hm0 : 0 < m) (hm : m < 18446744073709551616) :
    Calls Try.prog 4 #[va, vb, .int .u64 (m : Int)] w fun e w' => e = .returned (.bool true) ∧ Below w.heap.size w w' := by
  have HA0 : Hid (SK .u64 w va la) := ha
  have HB0 : Hid (SK .u64 w vb lb) := hb
  obtain ⟨a, ca, rfl⟩ := ha.shape
  obtain ⟨b, cb, rfl⟩ := hb.shape
  have Hwa : Hid (Ww la) := hwa
  have Hwb : Hid (Ww lb) := hwb
  have h1' : ¬ (40 : Int) < la.length := by omega
  have h2' : ¬ (40 : Int) < lb.length := by omega
  obtain ⟨X, hX⟩ : ∃ X, Hid (valW la = X) := ⟨_, rfl⟩
  obtain ⟨Y, hY⟩ : ∃ Y, Hid (valW lb = Y) := ⟨_, rfl⟩
  have BX : Hid (X < 16777216 ^ 107 ∧ X < 18446744073709551616 ^ 40) := by unfold Hid; rw [← hX.out]; exact p40 la hwa hla
  have BY : Hid (Y < 16777216 ^ 107 ∧ Y < 18446744073709551616 ^ 40) := by unfold Hid; rw [← hY.out]; exact p40 lb hwb hlb
  have BP : Hid (X * Y < 16777216 ^ 214 ∧ X * Y < 18446744073709551616 ^ 80) := p40_mul X Y BX.out BY.out
  have BM : Hid (m < 16777216 ^ 107 ∧ m < 18446744073709551616 ^ 40) := p40_word m hm
  have BQ : Hid (X * m < 16777216 ^ 214 ∧ X * m < 18446744073709551616 ^ 80) := p40_mul X m BX.out BM.out
  obtain ⟨rr, hrr⟩ : ∃ rr, Hid (X % m = rr) := ⟨_, rfl⟩
  obtain ⟨qq, hqq⟩ : ∃ qq, Hid (X / m = qq) := ⟨_, rfl⟩
  have Brr : Hid (rr < 18446744073709551616) := by unfold Hid; rw [← hrr.out]; exact Nat.lt_trans (Nat.mod_lt X hm0) hm
  have Bqq : Hid (qq < 16777216 ^ 107 ∧ qq < 18446744073709551616 ^ 40) := by
    have h : qq ≤ X := by rw [← hqq.out]; exact Nat.div_le_self X m
    exact ⟨Nat.lt_of_le_of_lt h BX.out.1, Nat.lt_of_le_of_lt h BX.out.2⟩
  have hmi : ((m : Int) == 0) = false := beq_eq_false_iff_ne.2 (by omega)
  have hmi2 : ¬ (m : Int) = 0 := by omega
  have hmi3 : ¬ m = 0 := by omega
  clear ha hb hwa hwb
  go_enter Try.func4, Try.ntmps4
  go_wp2_with fail
  refine (awakeN_any _).mono ?_
  rintro e w1 ⟨rfl, g1⟩
  have HA1 : Hid (SK .u64 w1 (.slice a la.length ca) la) := HA0.out.below g1
  have HB1 : Hid (SK .u64 w1 (.slice b lb.length cb) lb) := HB0.out.below g1
  have G1 : Hid (Below w.heap.size w w1) := g1
  clear g1 HA0 HB0
  go_wp2_with fail
  refine (words_any la _ _ HA1.out Hwa.out (by omega)).mono ?_
  rw [hX.out]
  rintro e w2 ⟨v2, rfl, h2, g2⟩
  obtain ⟨xa, xc, xd, rfl⟩ := h2.shape
  have N2 : Hid (Num w2 (.slice xa xc xd) X) := h2
  have HA2 : Hid (SK .u64 w2 (.slice a la.length ca) la) := HA1.out.below g2
  have HB2 : Hid (SK .u64 w2 (.slice b lb.length cb) lb) := HB1.out.below g2
  have G2 : Hid (Below w.heap.size w w2) := G1.out.trans (g2.mono G1.out.size)
  clear g2 HA1 HB1 G1 h2
  go_wp2_with fail
  refine (words_any lb _ _ HB2.out Hwb.out (by omega)).mono ?_
  rw [hY.out]
  rintro e w3 ⟨v3, rfl, h3, g3⟩
  obtain ⟨ya, yc, yd, rfl⟩ := h3.shape
  have M3 : Hid (Num w3 (.slice ya yc yd) Y) := h3
  have HA3 : Hid (SK .u64 w3 (.slice a la.length ca) la) := HA2.out.below g3
  have HB3 : Hid (SK .u64 w3 (.slice b lb.length cb) lb) := HB2.out.below g3
  have N3 : Hid (Num w3 (.slice xa xc xd) X) := N2.out.below g3
  have G3 : Hid (Below w.heap.size w w3) := G2.out.trans (g3.mono G2.out.size)
  clear g3 HA2 HB2 N2 G2 h3
  have SW : Hid (SK .u64 (w3.alloc (.cells #[.int .u64 (m : Int)] 37)) (.slice (some ⟨w3.heap.size, 0, none⟩) 1 1) [m]) := SK.lit1 w3 m
  go_wp2_with fail
  refine (words_any [m] _ _ SW.out (fun j => by rcases j with _ | j <;> simp; exact hm) (by simp)).mono ?_
  rw [show valW [m] = m by simp [valW]]
  rintro e w4 ⟨v4, rfl, h4, g4'⟩
  have g4 : Below w3.heap.size w3 w4 := ((Below.refl _ _).alloc (Nat.le_refl _) _).trans (g4'.mono (by simp))
  obtain ⟨za, zc, zd, rfl⟩ := h4.shape
  have Z4 : Hid (Num w4 (.slice za zc zd) m) := h4
  have HA4 : Hid (SK .u64 w4 (.slice a la.length ca) la) := HA3.out.below g4
  have HB4 : Hid (SK .u64 w4 (.slice b lb.length cb) lb) := HB3.out.below g4
  have N4 : Hid (Num w4 (.slice xa xc xd) X) := N3.out.below g4
  have M4 : Hid (Num w4 (.slice ya yc yd) Y) := M3.out.below g4
  have G4 : Hid (Below w.heap.size w w4) := G3.out.trans (g4.mono G3.out.size)
  clear g4 g4' h4 SW G3 HA3 HB3 N3 M3
  go_wp2_with fail
  refine (divWord_any la _ m _ HA4.out Hwa.out (by omega) hm0 hm).mono ?_
  rw [hX.out, hrr.out, hqq.out]
  rintro e w5 ⟨v5, rfl, h5, g5⟩
  obtain ⟨da, dc, dd, rfl⟩ := h5.shape
  have D5 : Hid (Can w5 (.slice da dc dd) qq) := h5
  have HA5 : Hid (SK .u64 w5 (.slice a la.length ca) la) := HA4.out.below g5
  have HB5 : Hid (SK .u64 w5 (.slice b lb.length cb) lb) := HB4.out.below g5
  have N5 : Hid (Num w5 (.slice xa xc xd) X) := N4.out.below g5
  have M5 : Hid (Num w5 (.slice ya yc yd) Y) := M4.out.below g5
  have Z5 : Hid (Num w5 (.slice za zc zd) m) := Z4.out.below g5
  have G5 : Hid (Below w.heap.size w w5) := G4.out.trans (g5.mono G4.out.size)
  clear g5 HA4 HB4 N4 M4 Z4 G4 h5
  go_wp2_with fail
  refine (div_num X m _ _ _ N5.out Z5.out hm0 107 BX.out.1 BM.out.1 (by omega)).mono ?_
  rw [hrr.out, hqq.out]
  rintro e w6 ⟨vu, vv, rfl, hu, hv, g6⟩
  obtain ⟨ua, uc, ud, rfl⟩ := hu.shape
  have U6 : Hid (Num w6 (.slice ua uc ud) qq) := hu
  obtain ⟨va, vc, vd, rfl⟩ := hv.shape
  have V6 : Hid (Num w6 (.slice va vc vd) rr) := hv
  clear hv
  have HA6 : Hid (SK .u64 w6 (.slice a la.length ca) la) := HA5.out.below g6
  have HB6 : Hid (SK .u64 w6 (.slice b lb.length cb) lb) := HB5.out.below g6
  have N6 : Hid (Num w6 (.slice xa xc xd) X) := N5.out.below g6
  have M6 : Hid (Num w6 (.slice ya yc yd) Y) := M5.out.below g6
  have Z6 : Hid (Num w6 (.slice za zc zd) m) := Z5.out.below g6
  have D6 : Hid (Can w6 (.slice da dc dd) qq) := D5.out.below g6
  have G6 : Hid (Below w.heap.size w w6) := G5.out.trans (g6.mono G5.out.size)
  clear g6 HA5 HB5 N5 M5 Z5 D5 G5 hu
  go_wp2_with fail
  refine (wordsR_num qq _ _ U6.out 107 Bqq.out.1 (by omega)).mono ?_
  rintro e w7 ⟨vf, rfl, hf, g7⟩
  obtain ⟨fa, fc, fd, rfl⟩ := hf.shape
  have F7 : Hid (Can w7 (.slice fa fc fd) qq) := hf
  have HA7 : Hid (SK .u64 w7 (.slice a la.length ca) la) := HA6.out.below g7
  have HB7 : Hid (SK .u64 w7 (.slice b lb.length cb) lb) := HB6.out.below g7
  have N7 : Hid (Num w7 (.slice xa xc xd) X) := N6.out.below g7
  have M7 : Hid (Num w7 (.slice ya yc yd) Y) := M6.out.below g7
  have Z7 : Hid (Num w7 (.slice za zc zd) m) := Z6.out.below g7
  have D7 : Hid (Can w7 (.slice da dc dd) qq) := D6.out.below g7
  have V7 : Hid (Num w7 (.slice va vc vd) rr) := V6.out.below g7
  have G7 : Hid (Below w.heap.size w w7) := G6.out.trans (g7.mono G6.out.size)
  clear g7 HA6 HB6 N6 M6 Z6 D6 U6 V6 G6 hf
  go_wp2_with fail
  refine (same_can qq _ _ _ D7.out F7.out 40 Bqq.out.2 (by omega)).mono ?_
  rintro e w8 ⟨rfl, g8⟩
  have HA8 : Hid (SK .u64 w8 (.slice a la.length ca) la) := HA7.out.below g8
  have HB8 : Hid (SK .u64 w8 (.slice b lb.length cb) lb) := HB7.out.below g8
  have N8 : Hid (Num w8 (.slice xa xc xd) X) := N7.out.below g8
  have M8 : Hid (Num w8 (.slice ya yc yd) Y) := M7.out.below g8
  have Z8 : Hid (Num w8 (.slice za zc zd) m) := Z7.out.below g8
  have V8 : Hid (Num w8 (.slice va vc vd) rr) := V7.out.below g8
  have G8 : Hid (Below w.heap.size w w8) := G7.out.trans (g8.mono G7.out.size)
  clear g8 HA7 HB7 N7 M7 Z7 D7 V7 F7 G7
  go_wp2_with fail
  refine (toWord1 rr _ _ V8.out Brr.out).mono ?_
  rintro e w9 ⟨rfl, hc, g9⟩
  have HA9 : Hid (SK .u64 w9 (.slice a la.length ca) la) := HA8.out.below g9
  have HB9 : Hid (SK .u64 w9 (.slice b lb.length cb) lb) := HB8.out.below g9
  have N9 : Hid (Num w9 (.slice xa xc xd) X) := N8.out.below g9
  have M9 : Hid (Num w9 (.slice ya yc yd) Y) := M8.out.below g9
  have Z9 : Hid (Num w9 (.slice za zc zd) m) := Z8.out.below g9
  have G9 : Hid (Below w.heap.size w w9) := G8.out.trans (g9.mono G8.out.size)
  clear g9 HA8 HB8 N8 M8 Z8 V8 G8
  go_wp2_with fail
  clear hc
  refine (mulN_any la lb _ _ _ HA9.out HB9.out Hwa.out Hwb.out (by omega) (by omega)).mono ?_
  rw [hX.out, hY.out]
  rintro e w10 ⟨vs, rfl, hs, g10⟩
  obtain ⟨sa, sc, sd, rfl⟩ := hs.shape
  have S10 : Hid (Can w10 (.slice sa sc sd) (X * Y)) := hs
  have HA10 : Hid (SK .u64 w10 (.slice a la.length ca) la) := HA9.out.below g10
  have HB10 : Hid (SK .u64 w10 (.slice b lb.length cb) lb) := HB9.out.below g10
  have N10 : Hid (Num w10 (.slice xa xc xd) X) := N9.out.below g10
  have M10 : Hid (Num w10 (.slice ya yc yd) Y) := M9.out.below g10
  have Z10 : Hid (Num w10 (.slice za zc zd) m) := Z9.out.below g10
  have G10 : Hid (Below w.heap.size w w10) := G9.out.trans (g10.mono G9.out.size)
  clear g10 HA9 HB9 N9 M9 Z9 G9 hs
  go_wp2_with fail
  refine (ref_mul_num X Y _ _ _ N10.out M10.out 107 BX.out.1 BY.out.1 (by omega)).mono ?_
  rintro e w11 ⟨vt, rfl, ht, g11⟩
  obtain ⟨ta, tc, td, rfl⟩ := ht.shape
  have T11 : Hid (Num w11 (.slice ta tc td) (X * Y)) := ht
  have HA11 : Hid (SK .u64 w11 (.slice a la.length ca) la) := HA10.out.below g11
  have HB11 : Hid (SK .u64 w11 (.slice b lb.length cb) lb) := HB10.out.below g11
  have N11 : Hid (Num w11 (.slice xa xc xd) X) := N10.out.below g11
  have M11 : Hid (Num w11 (.slice ya yc yd) Y) := M10.out.below g11
  have Z11 : Hid (Num w11 (.slice za zc zd) m) := Z10.out.below g11
  have S11 : Hid (Can w11 (.slice sa sc sd) (X * Y)) := S10.out.below g11
  have G11 : Hid (Below w.heap.size w w11) := G10.out.trans (g11.mono G10.out.size)
  clear g11 HA10 HB10 N10 M10 Z10 S10 G10 ht
  go_wp2_with fail
  refine (wordsR_num (X * Y) _ _ T11.out 214 BP.out.1 (by omega)).mono ?_
  rintro e w12 ⟨vp, rfl, hp, g12⟩
  obtain ⟨pa, pc, pd, rfl⟩ := hp.shape
  have P12 : Hid (Can w12 (.slice pa pc pd) (X * Y)) := hp
  have HA12 : Hid (SK .u64 w12 (.slice a la.length ca) la) := HA11.out.below g12
  have HB12 : Hid (SK .u64 w12 (.slice b lb.length cb) lb) := HB11.out.below g12
  have N12 : Hid (Num w12 (.slice xa xc xd) X) := N11.out.below g12
  have M12 : Hid (Num w12 (.slice ya yc yd) Y) := M11.out.below g12
  have Z12 : Hid (Num w12 (.slice za zc zd) m) := Z11.out.below g12
  have S12 : Hid (Can w12 (.slice sa sc sd) (X * Y)) := S11.out.below g12
  have G12 : Hid (Below w.heap.size w w12) := G11.out.trans (g12.mono G11.out.size)
  clear g12 HA11 HB11 N11 M11 Z11 S11 T11 G11 hp
  go_wp2_with fail
  refine (same_can (X * Y) _ _ _ S12.out P12.out 80 BP.out.2 (by omega)).mono ?_
  rintro e w13 ⟨rfl, g13⟩
  have HA13 : Hid (SK .u64 w13 (.slice a la.length ca) la) := HA12.out.below g13
  have HB13 : Hid (SK .u64 w13 (.slice b lb.length cb) lb) := HB12.out.below g13
  have N13 : Hid (Num w13 (.slice xa xc xd) X) := N12.out.below g13
  have M13 : Hid (Num w13 (.slice ya yc yd) Y) := M12.out.below g13
  have Z13 : Hid (Num w13 (.slice za zc zd) m) := Z12.out.below g13
  have G13 : Hid (Below w.heap.size w w13) := G12.out.trans (g13.mono G12.out.size)
  clear g13 HA12 HB12 N12 M12 Z12 S12 P12 G12
  go_wp2_with fail
  refine (mulWordN_any la _ m _ HA13.out Hwa.out (by omega) hm).mono ?_
  rw [hX.out]
  rintro e w14 ⟨vk, rfl, hk, g14⟩
  obtain ⟨ka, kc, kd, rfl⟩ := hk.shape
  have K14 : Hid (Can w14 (.slice ka kc kd) (X * m)) := hk
  have HA14 : Hid (SK .u64 w14 (.slice a la.length ca) la) := HA13.out.below g14
  have HB14 : Hid (SK .u64 w14 (.slice b lb.length cb) lb) := HB13.out.below g14
  have N14 : Hid (Num w14 (.slice xa xc xd) X) := N13.out.below g14
  have M14 : Hid (Num w14 (.slice ya yc yd) Y) := M13.out.below g14
  have Z14 : Hid (Num w14 (.slice za zc zd) m) := Z13.out.below g14
  have G14 : Hid (Below w.heap.size w w14) := G13.out.trans (g14.mono G13.out.size)
  clear g14 HA13 HB13 N13 M13 Z13 G13 hk
  go_wp2_with fail
  refine (ref_mul_num X m _ _ _ N14.out Z14.out 107 BX.out.1 BM.out.1 (by omega)).mono ?_
  rintro e w15 ⟨vl, rfl, hl, g15⟩
  obtain ⟨ea, ec, ed, rfl⟩ := hl.shape
  have L15 : Hid (Num w15 (.slice ea ec ed) (X * m)) := hl
  have HA15 : Hid (SK .u64 w15 (.slice a la.length ca) la) := HA14.out.below g15
  have HB15 : Hid (SK .u64 w15 (.slice b lb.length cb) lb) := HB14.out.below g15
  have N15 : Hid (Num w15 (.slice xa xc xd) X) := N14.out.below g15
  have M15 : Hid (Num w15 (.slice ya yc yd) Y) := M14.out.below g15
  have Z15 : Hid (Num w15 (.slice za zc zd) m) := Z14.out.below g15
  have K15 : Hid (Can w15 (.slice ka kc kd) (X * m)) := K14.out.below g15
  have G15 : Hid (Below w.heap.size w w15) := G14.out.trans (g15.mono G14.out.size)
  clear g15 HA14 HB14 N14 M14 Z14 K14 G14 hl
  go_wp2_with fail
  refine (wordsR_num (X * m) _ _ L15.out 214 BQ.out.1 (by omega)).mono ?_
  rintro e w16 ⟨vo, rfl, ho, g16⟩
  obtain ⟨oa, oc, od, rfl⟩ := ho.shape
  have O16 : Hid (Can w16 (.slice oa oc od) (X * m)) := ho
  have HA16 : Hid (SK .u64 w16 (.slice a la.length ca) la) := HA15.out.below g16
  have HB16 : Hid (SK .u64 w16 (.slice b lb.length cb) lb) := HB15.out.below g16
  have N16 : Hid (Num w16 (.slice xa xc xd) X) := N15.out.below g16
  have M16 : Hid (Num w16 (.slice ya yc yd) Y) := M15.out.below g16
  have Z16 : Hid (Num w16 (.slice za zc zd) m) := Z15.out.below g16
  have K16 : Hid (Can w16 (.slice ka kc kd) (X * m)) := K15.out.below g16
  have G16 : Hid (Below w.heap.size w w16) := G15.out.trans (g16.mono G15.out.size)
  clear g16 HA15 HB15 N15 M15 Z15 K15 L15 G15 ho
  go_wp2_with fail
  refine (same_can (X * m) _ _ _ K16.out O16.out 80 BQ.out.2 (by omega)).mono ?_
  rintro e w17 ⟨rfl, g17⟩
  have HA17 : Hid (SK .u64 w17 (.slice a la.length ca) la) := HA16.out.below g17
  have HB17 : Hid (SK .u64 w17 (.slice b lb.length cb) lb) := HB16.out.below g17
  have N17 : Hid (Num w17 (.slice xa xc xd) X) := N16.out.below g17
  have M17 : Hid (Num w17 (.slice ya yc yd) Y) := M16.out.below g17
  have Z17 : Hid (Num w17 (.slice za zc zd) m) := Z16.out.below g17
  have G17 : Hid (Below w.heap.size w w17) := G16.out.trans (g17.mono G16.out.size)
  clear g17 HA16 HB16 N16 M16 Z16 K16 O16 G16
  go_wp2_with fail
  go_ret
  exact ⟨rfl, G17.out⟩

theorem nprod_any (la lb : List Nat) (va vb : Value) (m : Nat) (w : World) (ha : SK .u64 w va la) (hb : SK .u64 w vb lb) (hwa : Ww la) (hwb : Ww lb) (hm : m < 18446744073709551616) :
    Calls Try.prog 4 #[va, vb, .int .u64 (m : Int)] w fun e w' => e = .returned (.bool true) ∧ Below w.heap.size w w' := by
  by_cases h1 : 40 < la.length
  · exact nprod_long la lb va vb m w ha hb (Or.inl h1)
  · by_cases h2 : 40 < lb.length
    · exact nprod_long la lb va vb m w ha hb (Or.inr h2)
    · rcases Nat.eq_zero_or_pos m with rfl | h0
      · exact nprod_zero la lb va vb w ha hb hwa hwb (by omega) (by omega)
      · exact nprod_some la lb va vb m w ha hb hwa hwb (by omega) (by omega) h0 hm

end Go.Proofs.Ytdlocljnmaeikaa
