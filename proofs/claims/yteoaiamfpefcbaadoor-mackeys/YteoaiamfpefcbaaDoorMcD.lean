/-
  The contract of the mac's Same: are two lists of bytes one? Of the document's own Same, likewise. Conditions: as each theorem says.
-/
import Derived.Test.YteoaiamfpefcbaaDoorGX
import Derived.Laws.BitsAllLaws
namespace Go.Proofs.YteoaiamfpefcbaaDoor
open Go.RowKit
set_option linter.unusedVariables false
set_option linter.unusedSimpArgs false

theorem ofInt_i64 (a : Nat) (ha : a < 9223372036854775808) : (BitVec.ofInt 64 (a : Int)).toNat = a := by
  rw [BitVec.ofInt_natCast, BitVec.toNat_ofNat]; exact Nat.mod_eq_of_lt (by omega)
theorem i64_or_nat (a b : Nat) (ha : a < 9223372036854775808) (hb : b < 9223372036854775808) : bits .or .i64 (a : Int) (b : Int) = ((a ||| b : Nat) : Int) := by
  have hx : a ||| b < 2 ^ 63 := Nat.or_lt_two_pow (by omega) (by omega)
  show IntKind.i64.wrap ((BitVec.ofInt 64 (a : Int) ||| BitVec.ofInt 64 (b : Int)).toNat : Int) = _
  rw [BitVec.toNat_or, ofInt_i64 a ha, ofInt_i64 b hb]
  exact wrapI _ (by omega) (by omega)
theorem i64_xor_nat (a b : Nat) (ha : a < 9223372036854775808) (hb : b < 9223372036854775808) : bits .xor .i64 (a : Int) (b : Int) = ((a ^^^ b : Nat) : Int) := by
  have hx : a ^^^ b < 2 ^ 63 := Nat.xor_lt_two_pow (by omega) (by omega)
  show IntKind.i64.wrap ((BitVec.ofInt 64 (a : Int) ^^^ BitVec.ofInt 64 (b : Int)).toNat : Int) = _
  rw [BitVec.toNat_xor, ofInt_i64 a ha, ofInt_i64 b hb]
  exact wrapI _ (by omega) (by omega)
theorem xor_nought (a b : Nat) : a ^^^ b = 0 ↔ a = b := by
  refine ⟨fun h => ?_, fun h => by rw [h, Nat.xor_self]⟩
  have := congrArg (· ^^^ b) h
  simpa [Nat.xor_assoc] using this
theorem or_nought (a b : Nat) : a ||| b = 0 ↔ a = 0 ∧ b = 0 := Nat.or_eq_zero_iff
/-- The lists differ in length, or among the first i bytes. -/
def dif (l m : List Nat) (i : Nat) : Prop := l.length = m.length ∧ ∀ j, j < i → l.getD j 0 = m.getD j 0
theorem dif_zero (l m : List Nat) : dif l m 0 ↔ l.length = m.length := ⟨fun h => h.1, fun h => ⟨h, fun j hj => by omega⟩⟩
theorem dif_more (l m : List Nat) (i : Nat) : dif l m (i + 1) ↔ dif l m i ∧ l.getD i 0 = m.getD i 0 := by
  refine ⟨fun h => ⟨⟨h.1, fun j hj => h.2 j (by omega)⟩, h.2 i (by omega)⟩, fun h => ⟨h.1.1, fun j hj => ?_⟩⟩
  by_cases e : j = i
  · rw [e]; exact h.2
  · exact h.1.2 j (by omega)
theorem dif_all (l m : List Nat) (i : Nat) (hi : i = min l.length m.length) : dif l m i ↔ l = m := by
  refine ⟨fun h => list_of_getD l m h.1 (fun j hj => h.2 j (by have := h.1; omega)), fun h => ?_⟩
  subst h
  exact ⟨rfl, fun j _ => rfl⟩

set_option maxHeartbeats 1000000 in
theorem msame_any (l m : List Nat) (hl : l.length < 9223372036854775808) (hm : m.length < 9223372036854775808) (hbl : Bb l) (hbm : Bb m) (va vb : Value) (w : World) (ha : SK .u8 w va l) (hb : SK .u8 w vb m) :
    Calls Tryd.prog 9 #[va, vb] w fun e w' => e = .returned (.bool (decide (l = m))) ∧ Below w.heap.size w w' := by
  obtain ⟨a1, c1, rfl, hc1, -, k1⟩ := ha
  obtain ⟨a2, c2, rfl, hc2, -, k2⟩ := hb
  have K1 : Hid (∀ j, j < l.length → ∃ b o, a1 = some ⟨b, o, none⟩ ∧ b < w.heap.size ∧ w.cell? ⟨b, o + j, none⟩ = some (.int .u8 (l.getD j 0 : Int))) := k1
  have K2 : Hid (∀ j, j < m.length → ∃ b o, a2 = some ⟨b, o, none⟩ ∧ b < w.heap.size ∧ w.cell? ⟨b, o + j, none⟩ = some (.int .u8 (m.getD j 0 : Int))) := k2
  have BL : Hid (Bb l) := hbl
  have BM : Hid (Bb m) := hbm
  have hx0 := i64_xor_nat _ _ hl hm
  have DZ : Hid (∀ i, i = min l.length m.length → (dif l m i ↔ l = m)) := dif_all l m
  have D0 : Hid (l.length ^^^ m.length < 9223372036854775808 ∧ (l.length ^^^ m.length = 0 ↔ dif l m 0)) :=
    ⟨Nat.xor_lt_two_pow (n := 63) hl hm, (xor_nought _ _).trans (dif_zero l m).symm⟩
  obtain ⟨n1, hn1⟩ : ∃ n, l.length = n := ⟨_, rfl⟩
  obtain ⟨n2, hn2⟩ : ∃ n, m.length = n := ⟨_, rfl⟩
  rw [hn1] at hc1 hl K1 hx0 D0 DZ ⊢
  rw [hn2] at hc2 hm K2 hx0 D0 DZ ⊢
  obtain ⟨x0, hX⟩ : ∃ x, n1 ^^^ n2 = x := ⟨_, rfl⟩
  rw [hX] at hx0 D0
  obtain ⟨n, hn⟩ : ∃ n, n = min n1 n2 := ⟨_, rfl⟩
  have hmin : min (n1 : Int) (n2 : Int) = (n : Int) := by omega
  clear k1 k2 hbl hbm hn1 hn2 hX
  go_enter Tryd.func9, Tryd.ntmps9
  go_wp2_with fail
  go_loopw [5, 17] (fun u y W => ∃ (i x : Nat), i ≤ n ∧ y = .int .i64 i ∧ u = .int .i64 x ∧ x < 9223372036854775808 ∧ Below w.heap.size w W ∧ Hid (x = 0 ↔ dif l m i)) (fun _ y _ => n - (intOf y).toNat)
  case atStart => exact ⟨0, x0, by omega, rfl, rfl, D0.1, Below.refl _ _, D0.2⟩
  case round =>
    clear D0 hx0
    obtain ⟨i, x, hi, rfl, rfl, hx63, hbel, hdif⟩ := hrel
    have Hb : Hid (Below w.heap.size w wr) := hbel
    by_cases hlt : i < n
    · have hlt' : (i : Int) < n := by omega
      obtain ⟨b1, o1, rfl, l1, d1'⟩ := K1.out i (by omega)
      obtain ⟨b2, o2, rfl, l2, d2'⟩ := K2.out i (by omega)
      have d1 := (hbel.cell (p := ⟨b1, o1 + i, none⟩) l1).trans d1'
      have d2 := (hbel.cell (p := ⟨b2, o2 + i, none⟩) l2).trans d2'
      have q1 := BL.out i
      have q2 := BM.out i
      have hmore := dif_more l m i
      obtain ⟨z1, hz1⟩ : ∃ z, l.getD i 0 = z := ⟨_, rfl⟩
      obtain ⟨z2, hz2⟩ : ∃ z, m.getD i 0 = z := ⟨_, rfl⟩
      rw [hz1] at d1 q1 hmore
      rw [hz2] at d2 q2 hmore
      have hX := u8_xor_nat z1 z2 q1 q2
      have hy8 : z1 ^^^ z2 < 256 := Nat.xor_lt_two_pow (n := 8) q1 q2
      have hy0 := xor_nought z1 z2
      obtain ⟨y, hy⟩ : ∃ y, z1 ^^^ z2 = y := ⟨_, rfl⟩
      rw [hy] at hX hy8 hy0
      have hW : IntKind.i64.wrap (y : Int) = (y : Int) := wrapI _ (by omega) (by omega)
      have hO := i64_or_nat x y hx63 (by omega)
      have ho63 : x ||| y < 9223372036854775808 := Nat.or_lt_two_pow (n := 63) hx63 (by omega)
      have ho0 := or_nought x y
      obtain ⟨o, hoe⟩ : ∃ o, x ||| y = o := ⟨_, rfl⟩
      rw [hoe] at hO ho63 ho0
      have HD : Hid (o = 0 ↔ dif l m (i + 1)) := by
        unfold Hid
        rw [ho0, hmore, hy0, hdif.out]
      have hlt1 : (i : Int) < n1 := by omega
      have hlt2 : (i : Int) < n2 := by omega
      clear hbel d1' d2' hz1 hz2 hmore hy0 ho0 hdif hy hoe DZ
      go_wp2_with fail
      go_region
      go_wp2_with fail
      go_roundw
      case rel => exact ⟨i + 1, o, by omega, by go_num, rfl, ho63, Hb.out.drew, HD.out⟩
      case measure => simp [intOf]; omega
    · obtain rfl : i = n := by omega
      have hfin : (x = 0) ↔ (l = m) := hdif.out.trans (DZ _ hn)
      have hd : ((x : Int) == 0) = decide (l = m) := by
        rw [Bool.eq_iff_iff]
        simp only [beq_iff_eq, decide_eq_true_eq]
        rw [← hfin]; omega
      go_wp2_with fail
      go_ret
      exact ⟨rfl, Hb.out⟩

set_option maxHeartbeats 1000000 in
/-- The document's own Same, of any two lists. -/
theorem nsame_any (l m : List Nat) (va vb : Value) (w : World) (ha : SK .u8 w va l) (hb : SK .u8 w vb m) (hl : l.length < 9223372036854775808) :
    Calls Tryd.prog 6 #[va, vb] w fun e w' => e = .returned (.bool (decide (l = m))) ∧ Below w.heap.size w w' := by
  obtain ⟨a1, c1, rfl, hc1, -, k1⟩ := ha
  obtain ⟨a2, c2, rfl, hc2, -, k2⟩ := hb
  have K1 : Hid (∀ j, j < l.length → ∃ b o, a1 = some ⟨b, o, none⟩ ∧ b < w.heap.size ∧ w.cell? ⟨b, o + j, none⟩ = some (.int .u8 (l.getD j 0 : Int))) := k1
  have K2 : Hid (∀ j, j < m.length → ∃ b o, a2 = some ⟨b, o, none⟩ ∧ b < w.heap.size ∧ w.cell? ⟨b, o + j, none⟩ = some (.int .u8 (m.getD j 0 : Int))) := k2
  have DZ : Hid (∀ i, i = min l.length m.length → (dif l m i ↔ l = m)) := dif_all l m
  clear k1 k2
  by_cases hlen : l.length = m.length
  · have D0 : Hid (dif l m 0) := (dif_zero l m).2 hlen
    obtain ⟨n, hn⟩ : ∃ n, Hid (l.length = n) := ⟨_, rfl⟩
    have hm : Hid (m.length = n) := hlen.symm.trans hn.out
    rw [hn.out] at hc1 K1 hl hlen ⊢
    rw [hm.out] at hc2 K2 ⊢
    clear hlen
    go_enter Tryd.func6, Tryd.ntmps6
    go_wp2_with fail
    go_loopw [5] (fun y wr => ∃ i : Nat, i ≤ n ∧ y = .int .i64 i ∧ Below w.heap.size w wr ∧ Hid (dif l m i)) (fun y _ => n - (intOf y).toNat)
    case atStart => exact ⟨0, by omega, rfl, Below.refl _ _, D0.out⟩
    case round =>
      clear D0
      obtain ⟨i, hi, rfl, hbel, hdif⟩ := hrel
      have Hb : Hid (Below w.heap.size w wr) := hbel
      by_cases hlt : i < n
      · have hlt' : (i : Int) < n := by omega
        obtain ⟨b1, o1, rfl, l1, d1'⟩ := K1.out i hlt
        obtain ⟨b2, o2, rfl, l2, d2'⟩ := K2.out i hlt
        have d1 := (hbel.cell (p := ⟨b1, o1 + i, none⟩) l1).trans d1'
        have d2 := (hbel.cell (p := ⟨b2, o2 + i, none⟩) l2).trans d2'
        have hmore := dif_more l m i
        have hne : Hid (l.getD i 0 ≠ m.getD i 0 → l ≠ m) := fun h e => h (by rw [e])
        obtain ⟨z1, hz1⟩ : ∃ z, l.getD i 0 = z := ⟨_, rfl⟩
        obtain ⟨z2, hz2⟩ : ∃ z, m.getD i 0 = z := ⟨_, rfl⟩
        rw [hz1] at d1 hmore hne
        rw [hz2] at d2 hmore hne
        by_cases hz : z1 = z2
        · have HD : Hid (dif l m (i + 1)) := hmore.2 ⟨hdif.out, hz⟩
          subst hz
          clear hbel d1' d2' hz1 hz2 hmore hdif DZ hne
          go_wp2_with fail
          go_region
          go_wp2_with fail
          go_roundw
          case rel => exact ⟨i + 1, by omega, by go_num, Hb.out.drew, HD.out⟩
          case measure => simp [intOf]; omega
        · have hzi : ¬ (z1 : Int) = z2 := by omega
          have hd : Hid (decide (l = m) = false) := by unfold Hid; simp; exact hne.out hz
          clear hbel d1' d2' hz1 hz2 hmore hdif DZ hne
          go_wp2_with fail
          go_region
          go_wp2_with fail
          go_ret
          exact ⟨by rw [hd.out]; rfl, Hb.out.drew⟩
      · obtain rfl : i = n := by omega
        have hd : Hid (decide (l = m) = true) := by
          have := (DZ.out i (by rw [hn.out, hm.out]; omega)).1 hdif.out
          unfold Hid; simp [this]
        go_wp2_with fail
        go_ret
        exact ⟨by rw [hd.out]; rfl, Hb.out⟩
  · have hne : Hid (decide (l = m) = false) := by
      unfold Hid; simp; intro e; exact hlen (by rw [e])
    have hlen' : ¬ (l.length : Int) = m.length := by omega
    go_enter Tryd.func6, Tryd.ntmps6
    go_wp2_with fail
    go_ret
    exact ⟨by rw [hne.out]; rfl, Below.refl _ _⟩
end Go.Proofs.YteoaiamfpefcbaaDoor
