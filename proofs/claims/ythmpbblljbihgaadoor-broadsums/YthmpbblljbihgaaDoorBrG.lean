/-
  The contract of the broad's add: what has come so far, and more bytes, where some wait and no block is filled. Conditions: as the theorem says.
-/
import Derived.Test.YthmpbblljbihgaaDoorBrF
import Derived.Deep.Cut
import Derived.Deep.DeepCutAuto
namespace Go.Proofs.YthmpbblljbihgaaDoor.Br
open Go.RowKit
set_option linter.unusedVariables false
set_option linter.unusedSimpArgs false

theorem at_sk {T : TypeId} {W : World} {b : Nat} {s : S8} {r : List Nat} {n : Nat} (h : At T W b (hc s r n)) (hr : r.length = 128) : SK .u8 W (.slice (some ⟨b, 8, none⟩) 128 128) r :=
  ⟨some ⟨b, 8, none⟩, 128, by rw [hr], by omega, fun e => by simp at e, fun j hj => ⟨b, 8, rfl, h.lt, by rw [h.cell (8 + j), hc_rest _ _ _ hr j (by omega)]⟩⟩
theorem slice_rest (b q : Nat) (hq : q < 128) (W : World) : (Instr.sliceAt 42 (.pointer (some ⟨b, 8, none⟩)) (some (.int .i64 (q : Int))) none none).run Tryd.prog W = .ok (.slice (some ⟨b, 8 + q, none⟩) (128 - q) (128 - q)) W := by
  have h1 : (q : Int) ≤ 128 := by omega
  have h2 : ¬ 128 = q := by omega
  simp [Instr.sliceAt, Instr.sureAddr, run_underlying Tryd.underlying42, Instr.sliceBounds, run_sliceBound, h1, h2, go_sem]
/-- The block that is filled up. -/
theorem filled (m p r : List Nat) (q n N : Nat) (hN : m.length = N) (hq : N % 128 = q) (hn : q + n = 128) (hp : n ≤ p.length) (hr : r.length = 128) (hw : ∀ j, j < q → r.getD j 0 = m.getD (128 * (N / 128) + j) 0) :
    splice r q (p.take n) = ((m ++ p).drop (128 * (N / 128))).take 128 := by
  have hl : (p.take n).length = n := by simp; omega
  refine list_of_getD _ _ (by rw [length_splice _ _ _ (by omega), hr]; simp; omega) (fun j hj => ?_)
  rw [length_splice _ _ _ (by omega), hr] at hj
  rw [splice_get _ _ _ (by omega)]
  have e2 : (((m ++ p).drop (128 * (N / 128))).take 128).getD j 0 = (m ++ p).getD (128 * (N / 128) + j) 0 := by
    simp [List.getD_eq_getElem?_getD, List.getElem?_take, List.getElem?_drop, hj]
  rw [e2]
  by_cases h1 : j < q
  · rw [if_pos h1, hw j h1]
    simp only [List.getD_eq_getElem?_getD]
    rw [List.getElem?_append_left (by omega)]
  · rw [if_neg h1, if_pos (by omega)]
    simp only [List.getD_eq_getElem?_getD]
    rw [List.getElem?_append_right (by omega), List.getElem?_take, if_pos (by omega), show 128 * (N / 128) + j - m.length = j - q by omega]
/-- Some more wait. -/
theorem waits (m p r : List Nat) (q N P : Nat) (W : World) (b : Nat) (hN : m.length = N) (hP : p.length = P) (hq : N % 128 = q) (hn : q + P < 128) (hr : r.length = 128) (hw : ∀ j, j < q → r.getD j 0 = m.getD (128 * (N / 128) + j) 0)
    (h : At 44 W b (splice (hc (bl (m ++ p) (N / 128)) r (m ++ p).length) (8 + q) (bv8 (p.take P)))) : HH W b (m ++ p) := by
  have hl : (m ++ p).length = N + P := by simp [hN, hP]
  have e : (N + P) / 128 = N / 128 := by omega
  rw [List.take_of_length_le (by omega), hc_splice _ _ _ _ _ hr (by omega)] at h
  refine ⟨splice r q p, by rw [length_splice _ _ _ (by omega), hr], fun j hj => ?_, by rw [hl, e, ← hl]; exact h⟩
  rw [hl] at hj ⊢
  rw [splice_get _ _ _ (by omega), e]
  by_cases h1 : j < q
  · rw [if_pos h1, hw j h1]
    simp only [List.getD_eq_getElem?_getD]
    rw [List.getElem?_append_left (by omega)]
  · rw [if_neg h1, if_pos (by omega)]
    simp only [List.getD_eq_getElem?_getD]
    rw [List.getElem?_append_right (by omega), show 128 * (N / 128) + j - m.length = j - q by omega]

set_option maxRecDepth 100000 in
set_option maxHeartbeats 2000000 in
theorem add_wait (m p : List Nat) (hm : Bb m) (hp : Bb p) (hlen : m.length + p.length ≤ 1000000000) (v : Value) (w : World) (hg : Gl6 w) (b : Nat) (hb : 1 < b) (hH : HH w b m) (hs : SK .u8 w v p) (hv : Off b v) (q : Nat) (hq : m.length % 128 = q) (hpos : 0 < q) (h0 : q + p.length < 128) :
    Calls Tryd.prog 19 #[.pointer (some ⟨b, 0, none⟩), v] w fun e w' => e = .returned (.tuple #[]) ∧ HH w' b (m ++ p) ∧ Oth b w w' := by
  obtain ⟨r0, hr0, hw0, hA0⟩ := hH
  obtain ⟨a, cap, e⟩ := hs.shape
  subst e
  obtain ⟨M, hM⟩ : ∃ M, Hid (m ++ p = M) := ⟨_, rfl⟩
  have hML : M.length = m.length + p.length := by rw [← hM.out]; simp
  have hMB : Hid (Bb M) := by rw [← hM.out]; exact hm.app hp
  have G0 : Hid (Gl6 w) := hg
  have hb1 := hb
  have c72 := hA0.cell 136
  rw [hc_len _ _ _ hr0] at c72
  have f72 := hA0.free 136
  have HA0 : Hid (At 44 w b (hc (bl m (m.length / 128)) r0 m.length)) := hA0
  have HS0 : Hid (SK .u8 w (.slice a p.length cap) p) := hs
  have HF0 : Hid (Off b (.slice a p.length cap)) := hv
  have HW0 : Hid (∀ j, j < m.length % 128 → r0.getD j 0 = m.getD (128 * (m.length / 128) + j) 0) := hw0
  rw [hM.out]
  obtain ⟨N, hN⟩ : ∃ N, m.length = N := ⟨_, rfl⟩
  obtain ⟨P, hP⟩ : ∃ P, p.length = P := ⟨_, rfl⟩
  rw [hN] at c72 hq HA0 hML hlen HW0
  rw [hP] at HS0 HF0 hML hlen h0 ⊢
  have hN2 : (N : Int) ≤ 1000000000 := by omega
  have hP2 : (P : Int) ≤ 1000000000 := by omega
  have St : Hid ((hc (bl m (N / 128)) r0 N).set 136 (.int .i64 ((N : Int) + (P : Int))) = hc (bl M (N / 128)) r0 M.length) := by
    unfold Hid
    rw [hML, show ((N : Int) + (P : Int)) = ((N + P : Nat) : Int) by simp, hc_set_len _ _ _ _ hr0, ← hM.out, bl_app m p _ (by omega)]
  clear hA0 hs hv hm hp hg hb hw0
  have hW2 : Hid (∀ j, j < q → r0.getD j 0 = m.getD (128 * (N / 128) + j) 0) := by rw [← hq]; exact HW0.out
  have hq0 : (0 : Int) < q := by omega
  have hq1 : (q : Int) < 128 := by omega
  have hq2 : (N : Int) % 128 = (q : Int) := by omega
  have hsl := slice_rest b q (by omega)
  go_enter Tryd.func19, Tryd.ntmps19
  go_upto_region 3 with fail
  refine wp_cut (fun W => At 44 W b (hc (bl M (N / 128)) r0 M.length) ∧ Oth b w W) ⟨by rw [← St.out]; exact HA0.out.set 136 _, (Oth.refl _ _).set _ _⟩ ?_
  rintro W1 ⟨hA1, hO1⟩
  have HA1 : Hid (At 44 W1 b (hc (bl M (N / 128)) r0 M.length)) := hA1
  have HO1 : Hid (Oth b w W1) := hO1
  have HS1 : Hid (SK .u8 W1 (.slice a P cap) p) := HS0.out.oth hO1 HF0.out
  clear hA1 hO1 HA0 HS0 c72 f72 St
  rw [hq2]
  clear hq2
  have hfit : Hid (8 + q + (128 - q) ≤ (hc (bl M (N / 128)) r0 M.length).length) := by unfold Hid; rw [hc_length _ _ _ hr0]; omega
  have hmin : Hid (P = min p.length (128 - q)) := by unfold Hid; rw [hP]; omega
  have hlt : (q : Int) + P < 128 := by omega
  go_wp2_with (refine wpList_copyAt rfl _ _ rfl 44 b (8 + q) (128 - q) _ rfl (.slice a P cap) p rfl HS1.out (hc (bl M (N / 128)) r0 M.length) HA1.out hfit.out P hmin.out ?_; intro w1 hA1 hO1; have HA2 : Hid (At 44 w1 b (splice (hc (bl M (N / 128)) r0 M.length) (8 + q) (bv8 (p.take P)))) := hA1; have HO2 : Hid (Oth b W1 w1) := hO1; clear hA1 hO1)
  have HE : HH w1 b M := by
    have := waits m p r0 q N P w1 b hN hP hq h0 hr0 hW2.out (by rw [hM.out]; exact HA2.out)
    rwa [hM.out] at this
  exact bodyPost_ret (results_none Tryd.results19 _ _ _) rfl ⟨rfl, HE, HO1.out.trans HO2.out⟩
end Go.Proofs.YthmpbblljbihgaaDoor.Br
