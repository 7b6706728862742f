/-
  The contracts of the document's own Words and Of over digits of 24 bits: words of 64 bits as a number. Conditions: as each theorem says.
-/
import Derived.Test.YtkkhpjcfojgggaaDoorRefC
import Derived.Test.YtkkhpjcfojgggaaDoorSk
namespace Go.Proofs.YtkkhpjcfojgggaaDoor
open Go.RowKit
set_option linter.unusedVariables false

def valW : List Nat → Nat
  | [] => 0
  | x :: l => x + 18446744073709551616 * valW l
/-- Each of them is a word. -/
def Ww (l : List Nat) : Prop := ∀ j, l.getD j 0 < 18446744073709551616
theorem valW_lt : ∀ (l : List Nat), Ww l → valW l < 18446744073709551616 ^ l.length
  | [], _ => by simp [valW]
  | d :: l, h => by
    have h0 := h 0
    have ih := valW_lt l (fun j => h (j + 1))
    simp only [List.getD_cons_zero] at h0
    simp only [valW, List.length_cons, Nat.pow_succ]
    omega
theorem valW_drop (l : List Nat) (k : Nat) (h : k < l.length) : valW (l.drop k) = l.getD k 0 + 18446744073709551616 * valW (l.drop (k + 1)) := by
  rw [List.drop_eq_getElem_cons h]
  simp [valW, List.getD_eq_getElem?_getD, h]
theorem Ww.drop {l : List Nat} (h : Ww l) (k : Nat) : Ww (l.drop k) := fun j => by
  have := h (k + j)
  rw [List.getD_eq_getElem?_getD] at this ⊢
  rwa [List.getElem?_drop]

theorem nz_len (l : List Nat) (m : Nat) (hd : Dg l) (hz : Nz l) (h : valD l < 16777216 ^ m) : l.length ≤ m := by
  rcases Nat.lt_or_ge m l.length with hlt | hge
  · exfalso
    rcases hz with e | e
    · rw [e] at hlt; simp at hlt
    · have ht := valD_take l (l.length - 1)
      rw [show l.length - 1 + 1 = l.length by omega, List.take_length] at ht
      have hp : 16777216 ^ m ≤ 16777216 ^ (l.length - 1) := Nat.pow_le_pow_right (by omega) (by omega)
      have hm : 16777216 ^ (l.length - 1) * 1 ≤ 16777216 ^ (l.length - 1) * l.getD (l.length - 1) 0 := Nat.mul_le_mul_left _ (by omega)
      generalize 16777216 ^ (l.length - 1) = P at *
      omega
  · exact hge
theorem words_len' (k m : Nat) (hk : 64 * k ≤ 24 * m) (N : Nat) (h : N < 18446744073709551616 ^ k) : N < 16777216 ^ m := by
  refine Nat.lt_of_lt_of_le h ?_
  rw [show (18446744073709551616 : Nat) = 2 ^ 64 from by decide, show (16777216 : Nat) = 2 ^ 24 from by decide, ← Nat.pow_mul, ← Nat.pow_mul]
  exact Nat.pow_le_pow_right (by omega) hk
theorem words_len (k : Nat) (hk : k ≤ 90) (N : Nat) (h : N < 18446744073709551616 ^ k) : N < 16777216 ^ 240 := words_len' k 240 (by omega) N h

/-- The slice v leads to the words l. -/
def SlU (w : World) (v : Value) (l : List Nat) : Prop :=
  ∃ b o cap, v = .slice (some ⟨b, o, none⟩) l.length cap ∧ b < w.heap.size ∧ ∀ j, j < l.length → w.cell? ⟨b, o + j, none⟩ = some (.int .u64 (l.getD j 0 : Int))

theorem SlU.sk {w : World} {v : Value} {l : List Nat} (h : SlU w v l) (hc : ∀ a n c, v = .slice a n c → n ≤ c) : SK .u64 w v l := by
  obtain ⟨b, o, cap, h1, h2, h3⟩ := h
  exact ⟨some ⟨b, o, none⟩, cap, h1, hc _ _ _ h1, fun h => by simp at h, fun j hj => ⟨b, o, rfl, h2, h3 j hj⟩⟩

theorem Sl.lit3 (w : World) (d0 d1 d2 : Nat) (z0 z1 z2 : Int) (h0 : z0 = (d0 : Int)) (h1 : z1 = (d1 : Int)) (h2 : z2 = (d2 : Int)) : Sl (w.alloc (.cells #[.int .i64 z0, .int .i64 z1, .int .i64 z2] 3)) (.slice (some ⟨w.heap.size, 0, none⟩) 3 3) [d0, d1, d2] := by
  subst h0 h1 h2
  refine ⟨some ⟨w.heap.size, 0, none⟩, 3, rfl, by simp, fun h => by simp at h, fun j hj => ⟨w.heap.size, 0, rfl, by simp, ?_⟩⟩
  have : j = 0 ∨ j = 1 ∨ j = 2 := by simp at hj; omega
  rcases this with rfl | rfl | rfl <;> simp

theorem Num.shape {w : World} {v : Value} {N : Nat} (h : Num w v N) : ∃ a c d, v = .slice a c d := by
  obtain ⟨l, ⟨a, c, e, _⟩, _⟩ := h
  exact ⟨a, _, c, e⟩

set_option maxHeartbeats 1000000 in
theorem words_any (l : List Nat) (va : Value) (w : World) (ha : SK .u64 w va l) (hw : Ww l) (hl : l.length ≤ 80) :
    Calls Tryd.prog 32 #[va] w fun e w' => ∃ v, e = .returned v ∧ Num w' v (valW l) ∧ Below w.heap.size w w' := by
  obtain ⟨a0, cap, rfl, hcap, -, hc⟩ := ha
  have Hc : Hid _ := hc
  have Hw : Hid (Ww l) := hw
  have hl' : (l.length : Int) ≤ 80 := by omega
  clear hc hw
  go_enter Tryd.func32, Tryd.ntmps32
  go_wp2
  go_loopw [3, 4] (fun v i wr => ∃ k : Nat, k ≤ l.length ∧ i = .int .i64 ((k : Int) - 1) ∧ Num wr v (valW (l.drop k)) ∧ Below w.heap.size w wr) (fun _ i _ => ((intOf i) + 1).toNat)
  case atStart => exact ⟨l.length, Nat.le_refl _, rfl, ⟨[], Sl.nil _, Dg.nil, Or.inl rfl, by simp [valD, valW]⟩, Below.refl _ _⟩
  case round =>
    obtain ⟨k, hk, rfl, hN, hbel⟩ := hrel
    have hlt := words_len (l.drop k).length (by simp; omega) _ (valW_lt _ (Hw.out.drop k))
    obtain ⟨a, c, d, rfl⟩ := hN.shape
    obtain ⟨m, hs, hd, hz, hv⟩ := hN
    have hml := nz_len m 240 hd hz (by rw [hv]; exact hlt)
    have Hs : Hid (Sl wr (.slice a c d) m) := hs
    have Hd : Hid (Dg m) := hd
    have Hv : Hid _ := hv
    have HB : Hid (Below w.heap.size w wr) := hbel
    clear hs hd hv hlt hbel
    cases k with
    | zero =>
      clear hz
      go_wp2_with (go_at_call 40; refine (trim_any m _ _ Hs.out (by omega) Hd.out).mono ?_; rintro e w' ⟨v', rfl, hN, rfl⟩)
      go_ret
      exact ⟨_, rfl, by rw [Hv.out, List.drop_zero] at hN; exact hN, HB.out⟩
    | succ k =>
      clear hz
      obtain ⟨x, hx⟩ : ∃ x, Hid (l.getD k 0 = x) := ⟨_, rfl⟩
      have hx1 : (x : Int) ≤ 18446744073709551615 := by have := Hw.out k; rw [hx.out] at this; omega
      obtain ⟨b, off, rfl, hb, hcb⟩ := Hc.out k (by omega)
      have hcx : wr.cell? ⟨b, off + k, none⟩ = some (.int .u64 (x : Int)) := by
        rw [HB.out.cell (p := ⟨b, off + k, none⟩) hb, hcb, hx.out]
      clear hcb
      have hkl : (k : Int) < l.length := by omega
      have hk0 : (0 : Int) ≤ (k : Int) := by omega
      go_wp2_with fail
      refine (shift_any m _ 64 _ Hs.out Hd.out (by omega) (by omega)).mono ?_
      rintro e w1 ⟨v1, rfl, hN1, b1⟩
      obtain ⟨a1, c1, d1, rfl⟩ := hN1.shape
      obtain ⟨m1, s1, dg1, z1, v1⟩ := hN1
      have hml1 := nz_len m1 240 dg1 z1 (by
        rw [v1, Hv.out, Nat.mul_comm, show (2 : Nat) ^ 64 = 18446744073709551616 by decide]
        have h := words_len (l.drop k).length (by simp; omega) _ (valW_lt _ (Hw.out.drop k))
        rw [valW_drop l k (by omega)] at h
        omega)
      have S1 : Hid (Sl w1 (.slice a1 c1 d1) m1) := s1
      have D1 : Hid (Dg m1) := dg1
      have V1 : Hid _ := v1
      have B1 : Hid (Below wr.heap.size wr w1) := b1
      clear s1 dg1 z1 v1 b1
      go_wp2_with fail
      refine (addR_any m1 [x % 16777216, x / 16777216 % 16777216, x / 281474976710656] _ _ _ (S1.out.below ((Below.refl _ _).alloc (Nat.le_refl _) _)) (Sl.lit3 w1 _ _ _ _ _ _ (by omega) (by omega) (by omega)) D1.out ?_ (by omega) (by simp)).mono ?_
      · intro j
        rcases j with _ | _ | _ | j <;> simp <;> omega
      rintro e w2 ⟨v2, rfl, hN2, b2⟩
      have e2 : valD m1 + valD [x % 16777216, x / 16777216 % 16777216, x / 281474976710656] = valW (l.drop k) := by
        rw [V1.out, Hv.out, valW_drop l k (by omega), hx.out, show (2 : Nat) ^ 64 = 18446744073709551616 by decide]
        simp only [valD]
        omega
      rw [e2] at hN2
      obtain ⟨a2, c2, d2, rfl⟩ := hN2.shape
      have N2 : Hid (Num w2 (.slice a2 c2 d2) (valW (l.drop k))) := hN2
      have sz1 := B1.out.size
      have szb := HB.out.size
      have B2 : Hid (Below w.heap.size w w2) := by
        refine HB.out.trans ((B1.out.mono szb).trans ?_)
        exact ((Below.refl w.heap.size w1).alloc (by omega) _).trans (b2.mono (by simp; omega))
      clear e2 hN2 b2
      go_wp2
      go_roundw
      case rel => exact ⟨k, by omega, by go_num, N2.out, B2.out⟩
      case measure => simp [intOf]

end Go.Proofs.YtkkhpjcfojgggaaDoor
