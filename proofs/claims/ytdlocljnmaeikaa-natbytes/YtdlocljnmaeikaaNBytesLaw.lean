/-
  The walk of the law NatBytes: for any bytes and any words it returns true and changes no memory that was there. Conditions: none beyond that bytes are bytes and words are words.
-/
import Derived.Test.YtdlocljnmaeikaaNatW
import Derived.Test.YtdlocljnmaeikaaNatI
namespace Go.Proofs.Ytdlocljnmaeikaa
open Go.RowKit
set_option linter.unusedVariables false

theorem nbytes_long (lb la : List Nat) (vb va : Value) (w : World) (hb : SK .u8 w vb lb) (ha : SK .u64 w va la) (h : 300 < lb.length ∨ 40 < la.length) :
    Calls Try.prog 6 #[vb, va] w fun e w' => e = .returned (.bool true) ∧ Below w.heap.size w w' := by
  obtain ⟨b, cb, rfl⟩ := hb.shape
  obtain ⟨a, ca, rfl⟩ := ha.shape
  clear ha hb
  by_cases h1 : 300 < lb.length
  · have h1' : (300 : Int) < lb.length := by omega
    go_enter Try.func6, Try.ntmps6
    go_wp2_with fail
    refine (awakeN_any _).mono ?_
    rintro e w1 ⟨rfl, g1⟩
    go_wp2_with fail
    go_ret
    exact ⟨rfl, g1⟩
  · have h1' : ¬ (300 : Int) < lb.length := by omega
    have h2' : (40 : Int) < la.length := by omega
    go_enter Try.func6, Try.ntmps6
    go_wp2_with fail
    refine (awakeN_any _).mono ?_
    rintro e w1 ⟨rfl, g1⟩
    go_wp2_with fail
    go_ret
    exact ⟨rfl, g1⟩

theorem pow256W (t k : Nat) (h : t ≤ 8 * k) : 256 ^ t ≤ 18446744073709551616 ^ k := by
  rw [show (18446744073709551616 : Nat) = 256 ^ 8 from by decide, ← Nat.pow_mul]
  exact Nat.pow_le_pow_right (by omega) h
theorem b300 (l : List Nat) (h : Bb l) (hl : l.length ≤ 300) : hvN l l.length < 16777216 ^ 100 ∧ hvN l l.length < 18446744073709551616 ^ 38 := by
  have h1 := hvN_lt l h l.length
  refine ⟨Nat.lt_of_lt_of_le h1 (pow256 _ 100 (by omega)), Nat.lt_of_lt_of_le h1 (pow256W _ 38 (by omega))⟩

set_option maxHeartbeats 2000000 in
theorem nbytes_walk (lb la : List Nat) (vb va : Value) (w : World) (hb : SK .u8 w vb lb) (ha : SK .u64 w va la) (hbb : Bb lb) (hwa : Ww la) :
    Calls Try.prog 6 #[vb, va] w fun e w' => e = .returned (.bool true) ∧ Below w.heap.size w w' := by
  by_cases h300 : 300 < lb.length ∨ 40 < la.length
  · exact nbytes_long lb la vb va w hb ha h300
  have hlb : lb.length ≤ 300 := by omega
  have hla : la.length ≤ 40 := by omega
  have hlb' : ¬ (300 : Int) < lb.length := by omega
  have hla' : ¬ (40 : Int) < la.length := by omega
  have HB : Hid (SK .u8 w vb lb) := hb
  have HA : Hid (SK .u64 w va la) := ha
  obtain ⟨b, cb, rfl⟩ := hb.shape
  obtain ⟨a, ca, rfl⟩ := ha.shape
  have Hbb : Hid (Bb lb) := hbb
  have Hwa : Hid (Ww la) := hwa
  have N1 : Hid (hvN lb lb.length < 16777216 ^ 100) := (b300 lb hbb hlb).1
  have N2 : Hid (hvN lb lb.length < 18446744073709551616 ^ 38) := (b300 lb hbb hlb).2
  have N3 : Hid (valW la < 16777216 ^ 240) := words_len la.length (by omega) _ (valW_lt la hwa)
  have hnb := nbits_leW la hwa
  clear ha hb hbb hwa h300
  go_enter Try.func6, Try.ntmps6
  go_wp2_with fail
  refine (awakeN_any _).mono ?_
  rintro e w1 ⟨rfl, g1⟩
  have G1 : Hid (Below w.heap.size w w1) := g1
  have HB1 : Hid (SK .u8 w1 (.slice b lb.length cb) lb) := HB.out.below g1
  have HA1 : Hid (SK .u64 w1 (.slice a la.length ca) la) := HA.out.below g1
  clear g1 HB HA
  go_wp2_with fail
  refine (ofN_any lb _ _ HB1.out Hbb.out (by omega)).mono ?_
  rintro e w2 ⟨v2, rfl, h2, g2⟩
  obtain ⟨p1, p2, p3, rfl⟩ := h2.shape
  have H2 : Hid (Can w2 (.slice p1 p2 p3) (hvN lb lb.length)) := h2
  have HB2 : Hid (SK .u8 w2 (.slice b lb.length cb) lb) := HB1.out.below g2
  have HA2 : Hid (SK .u64 w2 (.slice a la.length ca) la) := HA1.out.below g2
  have G2 : Hid (Below w.heap.size w w2) := G1.out.trans (g2.mono G1.out.size)
  clear h2 g2 HB1 HA1 G1
  go_wp2_with fail
  refine (bigN_any lb Hbb.out _ _ HB2.out (by omega)).mono ?_
  rintro e w3 ⟨v3, rfl, h3, g3⟩
  obtain ⟨q1, q2, q3, rfl⟩ := h3.shape
  have H3 : Hid (Num w3 (.slice q1 q2 q3) (hvN lb lb.length)) := h3
  have H2' : Hid (Can w3 (.slice p1 p2 p3) (hvN lb lb.length)) := H2.out.below g3
  have HA3 : Hid (SK .u64 w3 (.slice a la.length ca) la) := HA2.out.below g3
  have G3 : Hid (Below w.heap.size w w3) := G2.out.trans (g3.mono G2.out.size)
  clear h3 g3 H2 HA2 G2 HB2
  go_wp2_with fail
  refine (wordsR_num _ _ _ H3.out 100 N1.out (by omega)).mono ?_
  rintro e w4 ⟨v4, rfl, h4, g4⟩
  obtain ⟨r1, r2, r3, rfl⟩ := h4.shape
  have H4 : Hid (Can w4 (.slice r1 r2 r3) (hvN lb lb.length)) := h4
  have H2'' : Hid (Can w4 (.slice p1 p2 p3) (hvN lb lb.length)) := H2'.out.below g4
  have HA4 : Hid (SK .u64 w4 (.slice a la.length ca) la) := HA3.out.below g4
  have G4 : Hid (Below w.heap.size w w4) := G3.out.trans (g4.mono G3.out.size)
  clear h4 g4 H2' HA3 G3 H3
  go_wp2_with fail
  refine (same_can _ _ _ _ H2''.out H4.out 38 N2.out (by omega)).mono ?_
  rintro e w5 ⟨rfl, g5⟩
  have HA5 : Hid (SK .u64 w5 (.slice a la.length ca) la) := HA4.out.below g5
  have G5 : Hid (Below w.heap.size w w5) := G4.out.trans (g5.mono G4.out.size)
  clear g5 H2'' HA4 G4 H4
  go_wp2_with fail
  refine (bytesN_any la _ _ HA5.out Hwa.out (by omega)).mono ?_
  rintro e w6 ⟨v6, rfl, h6, g6⟩
  obtain ⟨s1, s2, hs6⟩ := h6.shape
  rw [beB_length] at hs6
  subst hs6
  obtain ⟨n, hn⟩ : ∃ n, Hid ((nbits (valW la) + 7) / 8 = n) := ⟨_, rfl⟩
  rw [hn.out] at h6 ⊢
  have H6 : Hid (SK .u8 w6 (.slice s1 n s2) (beB (valW la) n)) := h6
  have HA6 : Hid (SK .u64 w6 (.slice a la.length ca) la) := HA5.out.below g6
  have G6 : Hid (Below w.heap.size w w6) := G5.out.trans (g6.mono G5.out.size)
  clear h6 g6 HA5 G5
  go_wp2_with fail
  refine (words_any la _ _ HA6.out Hwa.out (by omega)).mono ?_
  rintro e w7 ⟨v7, rfl, h7, g7⟩
  obtain ⟨t1, t2, t3, rfl⟩ := h7.shape
  have H7 : Hid (Num w7 (.slice t1 t2 t3) (valW la)) := h7
  have H6' : Hid (SK .u8 w7 (.slice s1 n s2) (beB (valW la) n)) := H6.out.below g7
  have G7 : Hid (Below w.heap.size w w7) := G6.out.trans (g7.mono G6.out.size)
  clear h7 g7 HA6 G6 H6
  go_wp2_with fail
  refine (bytesR_num _ _ _ H7.out 240 N3.out (by omega)).mono ?_
  rw [hn.out]
  rintro e w8 ⟨v8, rfl, h8, g8⟩
  obtain ⟨u1, u2, hs8⟩ := h8.shape
  rw [beB_length] at hs8
  subst hs8
  have H8 : Hid (SK .u8 w8 (.slice u1 n u2) (beB (valW la) n)) := h8
  have H6'' : Hid (SK .u8 w8 (.slice s1 n s2) (beB (valW la) n)) := H6'.out.below g8
  have G8 : Hid (Below w.heap.size w w8) := G7.out.trans (g8.mono G7.out.size)
  clear h8 g8 H6' G7
  go_wp2_with fail
  refine (sameB_any _ _ _ _ H6''.out H8.out (by rw [beB_length]; have := hn.out; omega)).mono ?_
  rintro e w9 ⟨rfl, g9⟩
  have G9 : Hid (Below w.heap.size w w9) := G8.out.trans (g9.mono G8.out.size)
  clear g9
  go_wp2_with fail
  go_ret
  exact ⟨rfl, G9.out⟩

end Go.Proofs.Ytdlocljnmaeikaa
