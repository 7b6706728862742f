/-
  The walk of the law NatPowers: for any words, any word and any int it returns true and changes no memory that was there. Conditions: none beyond that words are words.
-/
import Derived.Test.YtdlocljnmaeikaaNatW
import Derived.Test.YtdlocljnmaeikaaNatK
import Derived.Deep.DeepCutAuto
import Derived.Deep.CutBlock
namespace Go.Proofs.Ytdlocljnmaeikaa
open Go.RowKit
set_option linter.unusedVariables false

theorem npow_long (la : List Nat) (va : Value) (x : Nat) (n : Int) (w : World) (ha : SK .u64 w va la) (h : 20 < la.length) :
    Calls Try.prog 5 #[va, .int .u64 (x : Int), .int .i64 n] w fun e w' => e = .returned (.bool true) ∧ Below w.heap.size w w' := by
  obtain ⟨a, ca, rfl⟩ := ha.shape
  clear ha
  have h1' : (20 : Int) < la.length := by omega
  go_enter Try.func5, Try.ntmps5
  go_wp2_with fail
  refine (awakeN_any _).mono ?_
  rintro e w1 ⟨rfl, g1⟩
  go_wp2_with fail
  go_ret
  exact ⟨rfl, g1⟩

set_option maxHeartbeats 1000000 in
theorem npow_neg (la : List Nat) (va : Value) (x : Nat) (n : Int) (w : World) (ha : SK .u64 w va la) (hwa : Ww la) (hl : la.length ≤ 20) (hn : n < 0) :
    Calls Try.prog 5 #[va, .int .u64 (x : Int), .int .i64 n] w fun e w' => e = .returned (.bool true) ∧ Below w.heap.size w w' := by
  have HA : Hid (SK .u64 w va la) := ha
  have Hwa : Hid (Ww la) := hwa
  obtain ⟨a, ca, rfl⟩ := ha.shape
  clear ha hwa
  have h1' : ¬ (20 : Int) < la.length := by omega
  go_enter Try.func5, Try.ntmps5
  go_wp2_with fail
  refine (awakeN_any _).mono ?_
  rintro e w1 ⟨rfl, g1⟩
  have HA1 : Hid (SK .u64 w1 (.slice a la.length ca) la) := HA.out.below g1
  have G1 : Hid (Below w.heap.size w w1) := g1
  clear g1
  go_wp2_with fail
  refine (words_any la _ _ HA1.out Hwa.out (by omega)).mono ?_
  rintro e w2 ⟨v2, rfl, h2, g2⟩
  obtain ⟨xa, xc, xd, rfl⟩ := h2.shape
  have HA2 : Hid (SK .u64 w2 (.slice a la.length ca) la) := HA1.out.below g2
  have G2 : Hid (Below w.heap.size w w2) := G1.out.trans (g2.mono G1.out.size)
  clear h2 g2
  go_wp2_with fail
  refine (leftN_neg la _ n _ HA2.out hn).mono ?_
  rintro e w3 ⟨rfl, hw3⟩; rw [hw3]; clear hw3 w3
  go_wp2_with fail
  refine (power_neg x n _ hn).mono ?_
  rintro e w3 ⟨rfl, hw3⟩; rw [hw3]; clear hw3 w3
  go_wp2_with fail
  go_ret
  exact ⟨rfl, G2.out⟩

theorem pow2_le24 (n k : Nat) (h : n ≤ 24 * k) : 2 ^ n ≤ 16777216 ^ k := by
  rw [show (16777216 : Nat) = 2 ^ 24 from by decide, ← Nat.pow_mul]
  exact Nat.pow_le_pow_right (by omega) h
theorem p20 (la : List Nat) (hw : Ww la) (hl : la.length ≤ 20) (n : Nat) (hn : n ≤ 2000) : valW la < 16777216 ^ 54 ∧ valW la * 2 ^ n < 16777216 ^ 140 := by
  have h1 := valW_lt la hw
  have h2 : valW la < 16777216 ^ 54 := words_len' la.length 54 (by omega) _ h1
  refine ⟨h2, ?_⟩
  have h3 : 2 ^ n ≤ 16777216 ^ 84 := pow2_le24 n 84 (by omega)
  have h4 := Nat.mul_lt_mul_of_lt_of_le h2 h3 (Nat.pow_pos (by omega))
  rw [← Nat.pow_add] at h4
  exact Nat.lt_of_lt_of_le h4 (Nat.pow_le_pow_right (by omega) (by omega))
theorem p60 (x : Nat) (hx : x < 18446744073709551616) (n : Nat) (hn : n ≤ 60) : x ^ n < 16777216 ^ 164 ∧ x ^ n < 18446744073709551616 ^ 61 := by
  have h : nbits x ≤ 64 := nbits_le x 64 (by omega)
  have h1 := pow_ltW x n 60 (by have := Nat.mul_le_mul h hn; omega)
  exact ⟨words_len' 61 164 (by omega) _ h1, h1⟩

set_option maxRecDepth 100000 in
set_option maxHeartbeats 4000000 in
theorem npow_pos (la : List Nat) (va : Value) (x n : Nat) (w : World) (ha : SK .u64 w va la) (hwa : Ww la) (hl : la.length ≤ 20) (hx : x < 18446744073709551616) (hn : n ≤ 9223372036854775807) :
    Calls Try.prog 5 #[va, .int .u64 (x : Int), .int .i64 (n : Int)] w fun e w' => e = .returned (.bool true) ∧ Below w.heap.size w w' := by
  have HA : Hid (SK .u64 w va la) := ha
  have Hwa : Hid (Ww la) := hwa
  obtain ⟨a, ca, rfl⟩ := ha.shape
  have hbl := nbits_leW la hwa
  clear ha hwa
  have h1' : ¬ (20 : Int) < la.length := by omega
  have hd0 : decide ((n : Int) < 0) = false := by simp
  have hn' : (n : Int) ≤ 9223372036854775807 := by omega
  go_enter Try.func5, Try.ntmps5
  go_wp2_with fail
  refine (awakeN_any _).mono ?_
  rintro e w1 ⟨rfl, g1⟩
  have HA1 : Hid (SK .u64 w1 (.slice a la.length ca) la) := HA.out.below g1
  have G1 : Hid (Below w.heap.size w w1) := g1
  clear g1
  go_wp2_with fail
  refine (words_any la _ _ HA1.out Hwa.out (by omega)).mono ?_
  rintro e w2 ⟨v2, rfl, h2, g2⟩
  obtain ⟨xa, xc, xd, rfl⟩ := h2.shape
  have H2 : Hid (Num w2 (.slice xa xc xd) (valW la)) := h2
  have HA2 : Hid (SK .u64 w2 (.slice a la.length ca) la) := HA1.out.below g2
  have G2 : Hid (Below w.heap.size w w2) := G1.out.trans (g2.mono G1.out.size)
  clear h2 g2 HA1 G1
  go_wp2_with fail
  refine (leftN_all la _ n _ HA2.out Hwa.out (by omega) hn).mono ?_
  rintro e w3 ⟨ra, rk, rc, rer, rfl, h3, g3⟩
  have H3 : Hid (LeftRes (valW la) n w3 ra rk rc rer) := h3
  have H2' : Hid (Num w3 (.slice xa xc xd) (valW la)) := H2.out.below g3
  have G3 : Hid (Below w.heap.size w w3) := G2.out.trans (g3.mono G2.out.size)
  clear h3 g3 HA2 G2 H2
  go_wp2_with fail
  refine (powerN_all x n _ hx hn).mono ?_
  rintro e w4 ⟨sa, sk, sc, ser, rfl, h4, g4⟩
  have H4 : Hid (PowRes x n w4 sa sk sc ser) := h4
  have H3' : Hid (LeftRes (valW la) n w4 ra rk rc rer) := H3.out.below g4
  have H2'' : Hid (Num w4 (.slice xa xc xd) (valW la)) := H2'.out.below g4
  have G4 : Hid (Below w.heap.size w w4) := G3.out.trans (g4.mono G3.out.size)
  clear h4 g4 H3 H2' G3
  go_upto_block 0 with fail
  go_cut [49] (fun s W => Hid (Below w4.heap.size w4 W))
  case first =>
    have cB : Hid (Calls Try.prog 20 #[.slice xa xc xd] w4 fun e w' => e = .returned (.int .i64 (nbits (valW la) : Int)) ∧ Below w4.heap.size w4 w') := bits_num _ _ _ H2''.out 54 (p20 la Hwa.out hl 0 (by omega)).1 (by omega)
    have hx0 := H2''.out.len0
    rcases H3'.out with ⟨hz, rfl, rfl⟩ | ⟨hz, hlim, rfl, rfl⟩ | ⟨hz, hlim, rfl, hC⟩
    · obtain rfl : xc = 0 := hx0.1 hz
      clear hx0 hz
      go_wp2_with fail
      go_meet
      exact Below.refl _ _
    · have hxc : (0 : Int) < xc := by have : xc ≠ 0 := fun h => hz (hx0.2 h); omega
      have hxc2 : ¬ xc = 0 := by omega
      clear hx0
      generalize nbits (valW la) = T at *
      have hT : (T : Int) ≤ 1280 := by omega
      have hlim' : 262144 - (T : Int) < n := by omega
      go_wp2_with fail
      refine cB.out.mono ?_
      rintro e w5 ⟨rfl, g5⟩
      have G5 : Hid (Below w4.heap.size w4 w5) := g5
      clear g5
      go_wp2_with fail
      go_meet
      exact G5
    · have hxc : (0 : Int) < xc := by have : xc ≠ 0 := fun h => hz (hx0.2 h); omega
      have hxc2 : ((xc : Int) == 0) = false := beq_eq_false_iff_ne.2 (by omega)
      clear hx0
      generalize nbits (valW la) = T at *
      have hT : (T : Int) ≤ 1280 := by omega
      have hlim' : ¬ 262144 - (T : Int) < n := by omega
      have HC : Hid (Can w4 (.slice ra rk rc) (valW la * 2 ^ n)) := hC
      clear hC H3'
      by_cases h2000 : n ≤ 2000
      · have h2000' : (n : Int) ≤ 2000 := by omega
        go_wp2_with fail
        refine cB.out.mono ?_
        rintro e w5 ⟨rfl, g5⟩
        have G5 : Hid (Below w4.heap.size w4 w5) := g5
        have HC5 : Hid (Can w5 (.slice ra rk rc) (valW la * 2 ^ n)) := HC.out.below g5
        have HN5 : Hid (Num w5 (.slice xa xc xd) (valW la)) := H2''.out.below g5
        clear g5
        go_wp2_with fail
        refine (shift_num (valW la) _ n _ HN5.out 54 (p20 la Hwa.out hl 0 (by omega)).1 (by omega) (by omega)).mono ?_
        rintro e w6 ⟨v6, rfl, h6, g6⟩
        obtain ⟨ya, yc, yd, rfl⟩ := h6.shape
        have H6 : Hid (Num w6 (.slice ya yc yd) (valW la * 2 ^ n)) := h6
        have HC6 : Hid (Can w6 (.slice ra rk rc) (valW la * 2 ^ n)) := HC5.out.below g6
        have G6 : Hid (Below w4.heap.size w4 w6) := G5.out.trans (g6.mono G5.out.size)
        clear h6 g6
        go_wp2_with fail
        refine (wordsR_num _ _ _ H6.out 140 (p20 la Hwa.out hl n h2000).2 (by omega)).mono ?_
        rintro e w7 ⟨v7, rfl, h7, g7⟩
        obtain ⟨za, zc, zd, rfl⟩ := h7.shape
        have H7 : Hid (Can w7 (.slice za zc zd) (valW la * 2 ^ n)) := h7
        have HC7 : Hid (Can w7 (.slice ra rk rc) (valW la * 2 ^ n)) := HC6.out.below g7
        have G7 : Hid (Below w4.heap.size w4 w7) := G6.out.trans (g7.mono G6.out.size)
        clear h7 g7
        go_wp2_with fail
        refine (same_can _ _ _ _ HC7.out H7.out 140 (Nat.lt_of_lt_of_le (p20 la Hwa.out hl n h2000).2 (Nat.pow_le_pow_left (by omega) 140)) (by omega)).mono ?_
        rintro e w8 ⟨rfl, g8⟩
        have G8 : Hid (Below w4.heap.size w4 w8) := G7.out.trans (g8.mono G7.out.size)
        clear g8
        go_wp2_with fail
        go_meet
        exact G8
      · have h2000' : ¬ (n : Int) ≤ 2000 := by omega
        go_wp2_with fail
        refine cB.out.mono ?_
        rintro e w5 ⟨rfl, g5⟩
        have G5 : Hid (Below w4.heap.size w4 w5) := g5
        clear g5
        go_wp2_with fail
        go_meet
        exact G5
  case rest =>
    have H5 : Hid (PowRes x n wc sa sk sc ser) := H4.out.below hcut.out
    have G5 : Hid (Below w.heap.size w wc) := G4.out.trans (hcut.out.mono G4.out.size)
    clear H4 G4 H3' H2'' hcut
    go_wp2_with fail
    refine (words_any [x] _ _ (SK.lit1 wc x) (fun j => by rcases j with _ | j <;> simp; exact hx) (by simp)).mono ?_
    rintro e w6 ⟨v6, rfl, h6, g6⟩
    have e6 : valW [x] = x := by simp [valW]
    rw [e6] at h6
    obtain ⟨ya, yc, yd, rfl⟩ := h6.shape
    have H6 : Hid (Num w6 (.slice ya yc yd) x) := h6
    have HP6 : Hid (PowRes x n w6 sa sk sc ser) := (H5.out.below ((Below.refl _ _).alloc (Nat.le_refl _) _)).below g6
    have G6 : Hid (Below w.heap.size w w6) := (G5.out.alloc G5.out.size _).trans (g6.mono (by have := G5.out.size; simp; omega))
    clear h6 g6 e6 H5 G5
    have hX3 : x < 16777216 ^ 3 := Nat.lt_of_lt_of_le hx (by decide)
    have cB : Hid (Calls Try.prog 20 #[.slice ya yc yd] w6 fun e w' => e = .returned (.int .i64 (nbits x : Int)) ∧ Below w6.heap.size w6 w') := bits_num _ _ _ H6.out 3 hX3 (by omega)
    have hbx : nbits x ≤ 64 := nbits_le x 64 (by omega)
    have HX3 : Hid (x < 16777216 ^ 3) := hX3
    clear hX3
    by_cases hx1 : 1 < x
    · have hx1' : (1 : Int) < x := by omega
      have hx2' : ¬ (x : Int) < 2 := by omega
      have hb0 : 0 < nbits x := by unfold nbits; rw [if_neg (by omega)]; omega
      have hq : ((262144 / nbits x : Nat) : Int) = 262144 / (nbits x : Int) := by simp
      rcases HP6.out with ⟨-, hlim, rfl, rfl⟩ | ⟨hlim, rfl, hC⟩
      · generalize nbits x = t at *
        have ht1 : (t : Int) ≤ 64 := by omega
        have ht0 : 0 < (t : Int) := by omega
        have ht2 : ¬ t = 0 := by omega
        obtain ⟨q, hq2⟩ : ∃ q, 262144 / t = q := ⟨_, rfl⟩
        rw [hq2] at hq hlim
        have hq3 : 262144 / (t : Int) = (q : Int) := hq.symm
        have hlim' : (q : Int) < n := by omega
        have hq4 : (q : Int) ≤ 262144 := by have := Nat.div_le_self 262144 t; omega
        clear hq hq2
        go_wp2_with fail
        refine cB.out.mono ?_
        rintro e w7 ⟨rfl, g7⟩
        have G7 : Hid (Below w.heap.size w w7) := G6.out.trans (g7.mono G6.out.size)
        clear g7
        go_wp2_with fail
        go_ret
        exact ⟨rfl, G7.out⟩
      · have hlim := hlim hx1
        have HC : Hid (Can w6 (.slice sa sk sc) (x ^ n)) := hC
        clear hC HP6
        generalize nbits x = t at *
        have ht1 : (t : Int) ≤ 64 := by omega
        have ht0 : 0 < (t : Int) := by omega
        have ht2 : ¬ t = 0 := by omega
        obtain ⟨q, hq2⟩ : ∃ q, 262144 / t = q := ⟨_, rfl⟩
        rw [hq2] at hq hlim
        have hq3 : 262144 / (t : Int) = (q : Int) := hq.symm
        have hlim' : ¬ (q : Int) < n := by omega
        have hq4 : (q : Int) ≤ 262144 := by have := Nat.div_le_self 262144 t; omega
        clear hq hq2
        by_cases h60 : 60 < n
        · have h60' : (60 : Int) < n := by omega
          go_wp2_with fail
          refine cB.out.mono ?_
          rintro e w7 ⟨rfl, g7⟩
          have G7 : Hid (Below w.heap.size w w7) := G6.out.trans (g7.mono G6.out.size)
          clear g7
          go_wp2_with fail
          go_ret
          exact ⟨rfl, G7.out⟩
        · have h60' : ¬ (60 : Int) < n := by omega
          go_wp2_with fail
          refine cB.out.mono ?_
          rintro e w7 ⟨rfl, g7⟩
          have G7 : Hid (Below w.heap.size w w7) := G6.out.trans (g7.mono G6.out.size)
          have HC7 : Hid (Can w7 (.slice sa sk sc) (x ^ n)) := HC.out.below g7
          have HN7 : Hid (Num w7 (.slice ya yc yd) x) := H6.out.below g7
          clear g7
          go_wp2_with fail
          refine (powerR_num x n 164 _ _ HN7.out (by omega) (by omega) (Nat.lt_of_lt_of_le HX3.out (Nat.pow_le_pow_right (by omega) (by omega))) (fun i hi => (p60 x hx i (by omega)).1)).mono ?_
          rintro e w8 ⟨v8, rfl, h8, g8⟩
          obtain ⟨za, zc, zd, rfl⟩ := h8.shape
          have H8 : Hid (Num w8 (.slice za zc zd) (x ^ n)) := h8
          have HC8 : Hid (Can w8 (.slice sa sk sc) (x ^ n)) := HC7.out.below g8
          have G8 : Hid (Below w.heap.size w w8) := G7.out.trans (g8.mono G7.out.size)
          clear h8 g8
          go_wp2_with fail
          refine (wordsR_num _ _ _ H8.out 164 (p60 x hx n (by omega)).1 (by omega)).mono ?_
          rintro e w9 ⟨v9, rfl, h9, g9⟩
          obtain ⟨ta, tc, td, rfl⟩ := h9.shape
          have H9 : Hid (Can w9 (.slice ta tc td) (x ^ n)) := h9
          have HC9 : Hid (Can w9 (.slice sa sk sc) (x ^ n)) := HC8.out.below g9
          have G9 : Hid (Below w.heap.size w w9) := G8.out.trans (g9.mono G8.out.size)
          clear h9 g9
          go_wp2_with fail
          refine (same_can _ _ _ _ HC9.out H9.out 61 (p60 x hx n (by omega)).2 (by omega)).mono ?_
          rintro e w10 ⟨rfl, g10⟩
          have G10 : Hid (Below w.heap.size w w10) := G9.out.trans (g10.mono G9.out.size)
          clear g10
          go_wp2_with fail
          go_ret
          exact ⟨rfl, G10.out⟩
    · have hx1' : ¬ (1 : Int) < x := by omega
      have hx2' : (x : Int) < 2 := by omega
      rcases HP6.out with ⟨h, -⟩ | ⟨-, rfl, hC⟩
      · exact absurd h hx1
      have HC : Hid (Can w6 (.slice sa sk sc) (x ^ n)) := hC
      clear hC HP6 cB hbx
      by_cases h60 : 60 < n
      · have h60' : (60 : Int) < n := by omega
        rcases (show x = 0 ∨ x = 1 by omega) with rfl | rfl
        · have e0 : 0 ^ n = 0 := Nat.zero_pow (by omega)
          obtain rfl : sk = 0 := HC.out.len0.1 e0
          clear HC H6 HX3 e0
          go_wp2_with fail
          go_ret
          exact ⟨rfl, G6.out⟩
        · have e1 : 1 ^ n = 1 := Nat.one_pow n
          have HC1 : Hid (Can w6 (.slice sa sk sc) 1) := by have := HC.out; rwa [e1] at this
          clear HC H6 HX3 e1
          go_wp2_with fail
          refine (same_can 1 _ _ _ (HC1.out.below ((Below.refl _ _).alloc (Nat.le_refl _) _)) ⟨[1], SK.lit1 w6 1, fun j => by rcases j with _ | j <;> simp, Or.inr (by simp), by simp [valW]⟩ 1 (by decide) (by omega)).mono ?_
          rintro e w7 ⟨rfl, g7⟩
          have G7 : Hid (Below w.heap.size w w7) := (G6.out.alloc G6.out.size _).trans (g7.mono (by have := G6.out.size; simp; omega))
          clear g7
          go_wp2_with fail
          go_ret
          exact ⟨rfl, G7.out⟩
      · have h60' : ¬ (60 : Int) < n := by omega
        go_wp2_with fail
        refine (powerR_num x n 164 _ _ H6.out (by omega) (by omega) (Nat.lt_of_lt_of_le HX3.out (Nat.pow_le_pow_right (by omega) (by omega))) (fun i hi => (p60 x hx i (by omega)).1)).mono ?_
        rintro e w8 ⟨v8, rfl, h8, g8⟩
        obtain ⟨za, zc, zd, rfl⟩ := h8.shape
        have H8 : Hid (Num w8 (.slice za zc zd) (x ^ n)) := h8
        have HC8 : Hid (Can w8 (.slice sa sk sc) (x ^ n)) := HC.out.below g8
        have G8 : Hid (Below w.heap.size w w8) := G6.out.trans (g8.mono G6.out.size)
        clear h8 g8
        go_wp2_with fail
        refine (wordsR_num _ _ _ H8.out 164 (p60 x hx n (by omega)).1 (by omega)).mono ?_
        rintro e w9 ⟨v9, rfl, h9, g9⟩
        obtain ⟨ta, tc, td, rfl⟩ := h9.shape
        have H9 : Hid (Can w9 (.slice ta tc td) (x ^ n)) := h9
        have HC9 : Hid (Can w9 (.slice sa sk sc) (x ^ n)) := HC8.out.below g9
        have G9 : Hid (Below w.heap.size w w9) := G8.out.trans (g9.mono G8.out.size)
        clear h9 g9
        go_wp2_with fail
        refine (same_can _ _ _ _ HC9.out H9.out 61 (p60 x hx n (by omega)).2 (by omega)).mono ?_
        rintro e w10 ⟨rfl, g10⟩
        have G10 : Hid (Below w.heap.size w w10) := G9.out.trans (g10.mono G9.out.size)
        clear g10
        go_wp2_with fail
        go_ret
        exact ⟨rfl, G10.out⟩

theorem npow_walk (la : List Nat) (va : Value) (x : Nat) (n : Int) (w : World) (ha : SK .u64 w va la) (hwa : Ww la) (hx : x < 18446744073709551616) (hn : (Lit.int .i64 n).wf = true) :
    Calls Try.prog 5 #[va, .int .u64 (x : Int), .int .i64 n] w fun e w' => e = .returned (.bool true) ∧ Below w.heap.size w w' := by
  simp [Lit.wf, IntKind.min, IntKind.max, IntKind.signed, IntKind.bits] at hn
  by_cases hl : 20 < la.length
  · exact npow_long la va x n w ha hl
  · by_cases h0 : n < 0
    · exact npow_neg la va x n w ha hwa (by omega) h0
    · obtain ⟨m, rfl⟩ := Int.eq_ofNat_of_zero_le (show 0 ≤ n by omega)
      exact npow_pos la va x m w ha hwa (by omega) hx (by omega)

end Go.Proofs.Ytdlocljnmaeikaa
