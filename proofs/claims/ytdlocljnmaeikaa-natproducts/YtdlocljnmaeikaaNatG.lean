/-
  The contracts of the document's own Same (of words, of bytes) and Words, and of the sums, differences, products and bits of its numbers. Conditions: as each theorem says.
-/
import Derived.Test.YtdlocljnmaeikaaNatF
namespace Go.Proofs.Ytdlocljnmaeikaa
open Go.RowKit
set_option linter.unusedVariables false

set_option maxHeartbeats 1000000 in
theorem sameW_any (l : List Nat) (va vb : Value) (w : World) (ha : SK .u64 w va l) (hb : SK .u64 w vb l) (hl : l.length ≤ 1000000) :
    Calls Try.prog 12 #[va, vb] w fun e w' => e = .returned (.bool true) ∧ Below w.heap.size w w' := by
  obtain ⟨a1, c1, rfl, -, -, k1⟩ := ha
  obtain ⟨a2, c2, rfl, -, -, k2⟩ := hb
  have K1 : Hid _ := k1
  have K2 : Hid _ := k2
  clear k1 k2
  have hl' : (l.length : Int) ≤ 1000000 := by omega
  go_enter Try.func12, Try.ntmps12
  go_wp2
  go_loopw [5] (fun y wr => ∃ i : Nat, i ≤ l.length ∧ y = .int .i64 i ∧ Below w.heap.size w wr) (fun y _ => l.length - (intOf y).toNat)
  case atStart => exact ⟨0, by omega, rfl, Below.refl _ _⟩
  case round =>
    obtain ⟨i, hi, rfl, hbel⟩ := hrel
    have Hb : Hid (Below w.heap.size w wr) := hbel
    by_cases hlt : i < l.length
    · have hlt' : (i : Int) < l.length := by omega
      obtain ⟨b1, o1, rfl, l1, k1⟩ := K1.out i hlt
      obtain ⟨b2, o2, rfl, l2, k2⟩ := K2.out i hlt
      have d1 := (hbel.cell (p := ⟨b1, o1 + i, none⟩) l1).trans k1
      have d2 := (hbel.cell (p := ⟨b2, o2 + i, none⟩) l2).trans k2
      generalize l.getD i 0 = z at d1 d2
      clear hbel k1 k2
      go_wp2
      go_region
      go_wp2
      go_roundw
      case rel => exact ⟨i + 1, by omega, by go_num, Hb.out.drew⟩
      case measure => simp [intOf]; omega
    · obtain rfl : i = l.length := by omega
      go_wp2
      go_ret
      exact ⟨rfl, Hb.out⟩

set_option maxHeartbeats 1000000 in
theorem sameB_any (l : List Nat) (va vb : Value) (w : World) (ha : SK .u8 w va l) (hb : SK .u8 w vb l) (hl : l.length ≤ 1000000) :
    Calls Try.prog 33 #[va, vb] w fun e w' => e = .returned (.bool true) ∧ Below w.heap.size w w' := by
  obtain ⟨a1, c1, rfl, -, -, k1⟩ := ha
  obtain ⟨a2, c2, rfl, -, -, k2⟩ := hb
  have K1 : Hid _ := k1
  have K2 : Hid _ := k2
  clear k1 k2
  have hl' : (l.length : Int) ≤ 1000000 := by omega
  go_enter Try.func33, Try.ntmps33
  go_wp2
  go_loopw [5] (fun y wr => ∃ i : Nat, i ≤ l.length ∧ y = .int .i64 i ∧ Below w.heap.size w wr) (fun y _ => l.length - (intOf y).toNat)
  case atStart => exact ⟨0, by omega, rfl, Below.refl _ _⟩
  case round =>
    obtain ⟨i, hi, rfl, hbel⟩ := hrel
    have Hb : Hid (Below w.heap.size w wr) := hbel
    by_cases hlt : i < l.length
    · have hlt' : (i : Int) < l.length := by omega
      obtain ⟨b1, o1, rfl, l1, k1⟩ := K1.out i hlt
      obtain ⟨b2, o2, rfl, l2, k2⟩ := K2.out i hlt
      have d1 := (hbel.cell (p := ⟨b1, o1 + i, none⟩) l1).trans k1
      have d2 := (hbel.cell (p := ⟨b2, o2 + i, none⟩) l2).trans k2
      generalize l.getD i 0 = z at d1 d2
      clear hbel k1 k2
      go_wp2
      go_region
      go_wp2
      go_roundw
      case rel => exact ⟨i + 1, by omega, by go_num, Hb.out.drew⟩
      case measure => simp [intOf]; omega
    · obtain rfl : i = l.length := by omega
      go_wp2
      go_ret
      exact ⟨rfl, Hb.out⟩

/-- Two slices that lead to one number's words are the same. -/
theorem same_can (N : Nat) (va vb : Value) (w : World) (ha : Can w va N) (hb : Can w vb N) (m : Nat) (hN : N < 18446744073709551616 ^ m) (hm : m ≤ 1000000) :
    Calls Try.prog 12 #[va, vb] w fun e w' => e = .returned (.bool true) ∧ Below w.heap.size w w' := by
  obtain ⟨l, h1, h2, h3, rfl⟩ := ha
  obtain ⟨l', k1, k2, k3, k4⟩ := hb
  obtain rfl : l' = l := can_uniq l' l k2 k3 h2 h3 k4
  have := can_len l' m h2 h3 hN
  exact sameW_any l' va vb w h1 k1 (by omega)

theorem bits_num (N : Nat) (va : Value) (w : World) (ha : Num w va N) (m : Nat) (hN : N < 16777216 ^ m) (hm : m ≤ 10000) :
    Calls Try.prog 20 #[va] w fun e w' => e = .returned (.int .i64 (nbits N : Int)) ∧ Below w.heap.size w w' := by
  obtain ⟨l, h1, h2, h3, rfl⟩ := ha
  have hl := nz_len l m h2 h3 hN
  exact bitsR_any l va w h1 h2 h3 (by omega)
theorem nbits_pos {N : Nat} (h : N ≠ 0) : 2 ^ (nbits N - 1) ≤ N := by
  unfold nbits
  rw [if_neg h]
  exact Nat.log2_self_le h

set_option maxHeartbeats 1000000 in
theorem wordsR_num (N : Nat) (va : Value) (w : World) (ha : Num w va N) (m : Nat) (hN : N < 16777216 ^ m) (hm : m ≤ 2000) :
    Calls Try.prog 13 #[va] w fun e w' => ∃ v, e = .returned v ∧ Can w' v N ∧ Below w.heap.size w w' := by
  have HA : Hid (Num w va N) := ha
  obtain ⟨a, c, d, rfl⟩ := ha.shape
  have cB : Hid (Calls Try.prog 20 #[.slice a c d] w fun e w' => e = .returned (.int .i64 (nbits N : Int)) ∧ Below w.heap.size w w') := bits_num N _ w ha m hN (by omega)
  have hb : nbits N ≤ 24 * m := nbits_le N _ (by rwa [Nat.pow_mul, show (2 : Nat) ^ 24 = 16777216 from by decide])
  have hlt := lt_nbits N
  have hps : N ≠ 0 → 2 ^ (nbits N - 1) ≤ N := nbits_pos
  have hz : N = 0 → nbits N = 0 := fun h => by rw [h]; rfl
  clear ha
  have Hlt : Hid (N < 2 ^ nbits N) := hlt
  have Hps : Hid (N ≠ 0 → 2 ^ (nbits N - 1) ≤ N) := hps
  have Hz : Hid (N = 0 → nbits N = 0) := hz
  have HN : Hid (N < 16777216 ^ m) := hN
  clear hlt hps hz hN
  generalize nbits N = T at *
  obtain ⟨n, hn⟩ : ∃ n : Nat, Hid ((T + 63) / 64 = n) := ⟨_, rfl⟩
  have hT1 : (T : Int) ≤ 48000 := by omega
  have hn1 : ((T : Int) + 63) / 64 = (n : Int) := by have := hn.out; omega
  have hn2 : (n : Int) ≤ 1000 := by omega
  go_enter Try.func13, Try.ntmps13
  go_wp2_with fail
  refine cB.out.mono ?_
  rintro e w1 ⟨rfl, g1⟩
  have G1 : Hid (Below w.heap.size w w1) := g1
  clear g1
  go_wp2_with fail
  obtain ⟨la, s1, d1, z1, v1⟩ := HA.out.below G1.out
  refine (toWords_any la _ n _ s1 d1 (by have := nz_len la m d1 z1 (by rw [v1]; exact HN.out); omega) (by omega)).mono ?_
  rintro e w2 ⟨o, rfl, hrow, hol, how, hov, g2⟩
  rw [v1, Nat.mod_eq_of_lt (Nat.lt_of_lt_of_le Hlt.out (Nat.pow_le_pow_right (by omega) (by have := hn.out; omega)))] at hov
  have hsk := hrow.sk
  rw [hol] at hsk
  have HC : Hid (Can w2 (.slice (some ⟨w1.heap.size, 0, none⟩) n n) N) := by
    refine ⟨o, hsk, how, ?_, hov⟩
    by_cases h0 : o = []
    · exact Or.inl h0
    · refine Or.inr fun ht => ?_
      have hn0 : 0 < o.length := List.length_pos_iff.2 h0
      have h1 := valW_take o (o.length - 1)
      rw [show o.length - 1 + 1 = o.length by omega, List.take_length, ht, Nat.mul_zero, Nat.add_zero, hov] at h1
      have h2 := valW_take_lt o how (o.length - 1)
      rw [← h1] at h2
      have h3 : N ≠ 0 := fun h => by have := Hz.out h; have := hn.out; omega
      have h4 := Hps.out h3
      have h5 : (18446744073709551616 : Nat) ^ (o.length - 1) ≤ 2 ^ (T - 1) := by
        rw [show (18446744073709551616 : Nat) = 2 ^ 64 from by decide, ← Nat.pow_mul]
        exact Nat.pow_le_pow_right (by omega) (by have := hn.out; omega)
      omega
  have G2 : Hid (Below w.heap.size w w2) := G1.out.trans (g2.mono G1.out.size)
  clear hrow hol how hov g2 hsk s1 d1 z1 v1
  go_wp2_with fail
  go_ret
  exact ⟨_, rfl, HC.out, G2.out⟩

end Go.Proofs.Ytdlocljnmaeikaa
