/-
  The contract of the broad's add: what has come so far, and more bytes where none wait. Conditions: as the theorem says.
-/
import Derived.Test.YtkkhpjcfojgggaaDoorBrC
import Derived.Deep.Cut
import Derived.Deep.DeepCutAuto
namespace Go.Proofs.YtkkhpjcfojgggaaDoor.Br
open Go.RowKit
set_option linter.unusedVariables false
set_option linter.unusedSimpArgs false

theorem hh_end (M : List Nat) (W : World) (b k d : Nat) (r : List Nat) (hr : r.length = 128) (hk : 128 * k ≤ M.length) (hd : M.length - 128 * k = d) (hlt : d < 128)
    (h : At 51 W b (splice (hc (bl M k) r M.length) 8 (bv8 ((M.drop (128 * k)).take d)))) : HH W b M := by
  have e : k = M.length / 128 := by omega
  have hl : ((M.drop (128 * k)).take d).length = d := by simp; omega
  have := hc_splice (bl M k) r M.length 0 ((M.drop (128 * k)).take d) hr (by omega)
  rw [Nat.add_zero] at this
  rw [this] at h
  refine ⟨splice r 0 ((M.drop (128 * k)).take d), by rw [length_splice _ _ _ (by omega), hr], fun j hj => ?_, by rw [← e]; exact h⟩
  rw [splice_get _ _ _ (by omega), if_neg (by omega), if_pos (by omega), ← e]
  simp [List.getD_eq_getElem?_getD, List.getElem?_take, List.getElem?_drop, show j < d by omega]

set_option maxRecDepth 100000 in
set_option maxHeartbeats 2000000 in
theorem add_none (m p : List Nat) (hm : Bb m) (hp : Bb p) (hlen : m.length + p.length ≤ 1000000000) (v : Value) (w : World) (hg : Gl6 w) (b : Nat) (hb : 1 < b) (hH : HH w b m) (hs : SK .u8 w v p) (hv : Off b v) (h0 : m.length % 128 = 0) :
    Calls Tryd.prog 21 #[.pointer (some ⟨b, 0, none⟩), v] w fun e w' => e = .returned (.tuple #[]) ∧ HH w' b (m ++ p) ∧ Oth b w w' := by
  obtain ⟨r0, hr0, hw0, hA0⟩ := hH
  obtain ⟨a, cap, e⟩ := hs.shape
  subst e
  obtain ⟨M, hM⟩ : ∃ M, Hid (m ++ p = M) := ⟨_, rfl⟩
  have hML : M.length = m.length + p.length := by rw [← hM.out]; simp
  have hMB : Hid (Bb M) := by rw [← hM.out]; exact hm.app hp
  have G0 : Hid (Gl6 w) := hg
  have hb1 := hb
  have c72 := hA0.cell 136
  rw [hc_len _ _ _ hr0] at c72
  have f72 := hA0.free 136
  have HA0 : Hid (At 51 w b (hc (bl m (m.length / 128)) r0 m.length)) := hA0
  have HS0 : Hid (SK .u8 w (.slice a p.length cap) p) := hs
  have HF0 : Hid (Off b (.slice a p.length cap)) := hv
  have HW0 : Hid (∀ j, j < m.length % 128 → r0.getD j 0 = m.getD (128 * (m.length / 128) + j) 0) := hw0
  rw [hM.out]
  obtain ⟨N, hN⟩ : ∃ N, m.length = N := ⟨_, rfl⟩
  obtain ⟨P, hP⟩ : ∃ P, p.length = P := ⟨_, rfl⟩
  rw [hN] at c72 h0 HA0 hML hlen HW0
  rw [hP] at HS0 HF0 hML hlen ⊢
  have hN2 : (N : Int) ≤ 1000000000 := by omega
  have hP2 : (P : Int) ≤ 1000000000 := by omega
  have St : Hid ((hc (bl m (N / 128)) r0 N).set 136 (.int .i64 ((N : Int) + (P : Int))) = hc (bl M (N / 128)) r0 M.length) := by
    unfold Hid
    rw [hML, show ((N : Int) + (P : Int)) = ((N + P : Nat) : Int) by simp, hc_set_len _ _ _ _ hr0, ← hM.out, bl_app m p _ (by omega)]
  clear hA0 hs hv hm hp hg hb hw0
  have hN3 : (N : Int) % 128 = 0 := by omega
  go_enter Tryd.func21, Tryd.ntmps21
  go_wp2_with fail
  clear hN3
  go_loopw [1] (fun y W => ∃ (k : Nat) (r : List Nat), 128 * k ≤ M.length ∧ r.length = 128 ∧ SK .u8 W y (M.drop (128 * k)) ∧ Off b y ∧ At 51 W b (hc (bl M k) r M.length) ∧ Oth b w W) (fun y _ => lenOf y)
  case atStart =>
    refine ⟨N / 128, r0, by omega, hr0, ?_, HF0.out, ?_, (Oth.refl _ _).set _ _⟩
    · rw [← hM.out, List.drop_append, show 128 * (N / 128) - m.length = 0 by omega, List.drop_eq_nil_of_le (by omega)]
      exact HS0.out.oth ((Oth.refl _ _).set _ _) HF0.out
    · rw [← St.out]; exact HA0.out.set 136 _
  case round =>
    obtain ⟨k, r, hk, hr, hs, ho, hA, hO⟩ := hrel
    obtain ⟨pa, pc, hsh⟩ := hs.shape
    have HO : Hid (Oth b w wr) := hO
    have HA : Hid (At 51 wr b (hc (bl M k) r M.length)) := hA
    have HG : Hid (Gl6 wr) := hO.gl6 G0.out hb1
    have hdl : (M.drop (128 * k)).length = M.length - 128 * k := by simp
    rw [hdl] at hsh
    obtain ⟨d, hd⟩ : ∃ d, M.length - 128 * k = d := ⟨_, rfl⟩
    rw [hd] at hsh hdl
    subst hsh
    have HS : Hid (SK .u8 wr (.slice pa d pc) (M.drop (128 * k))) := hs
    have HF : Hid (Off b (.slice pa d pc)) := ho
    have hd2 : (d : Int) ≤ 1000000000 := by omega
    obtain ⟨hcap, hnone⟩ := hs.cap
    have HN : Hid (pa = none → pc = 0) := hnone
    have hcap' : (d : Int) ≤ pc := by omega
    clear hs ho hA hO hnone
    by_cases hlt : 128 ≤ d
    · have hlt' : (128 : Int) ≤ d := by omega
      have hSB : Hid (SK .u8 wr (.slice pa 128 pc) ((M.drop (128 * k)).take 128)) := by
        have := HS.out
        rw [← hdl] at this
        exact this.take (by omega) (by omega) HN.out
      have kT : Hid (∀ W, Oth b wr W → At 51 W b (hc (bl M k) r M.length) → Calls Tryd.prog 33 #[.pointer (some ⟨b, 0, none⟩), .slice pa 128 pc] W fun e w' => e = .returned (.tuple #[]) ∧ At 51 w' b (hc (bl M (k + 1)) r M.length) ∧ Oth b W w') :=
        fun W h1 h2 => take_any (bl M k) (bl_ok M k) ((M.drop (128 * k)).take 128) (by simp; omega) ((hMB.out.drop _).take _) _ W (h1.gl6 HG.out hb1) (hSB.out.oth h1 (HF.out.any (by omega))) _ b _ h2
      go_wp2_with fail
      go_region_with (first
        | (go_at_call 33; refine (kT.out _ (Oth.refl b _).drew HA.out).mono ?_; rintro e w1 ⟨rfl, hA1, hO1⟩; have HA1 : Hid (At 51 w1 b (hc (bl M (k + 1)) r M.length)) := hA1; have HO1 : Hid (Oth b wr w1) := (Oth.refl b _).drew.trans hO1; clear hA1 hO1))
      all_goals
        go_wp2_with (refine wpList_cut rfl _ _ rfl pa d pc 128 rfl rfl hlt ?_)
        go_roundw
        case rel =>
          refine ⟨k + 1, r, by omega, hr, ?_, HF.out.cut, HA1.out, HO.out.trans HO1.out⟩
          have := HS.out.oth HO1.out HF.out
          rw [← hdl] at this
          have := this.cut (n := 128) (by omega)
          rw [hdl, List.drop_drop, show 128 * k + 128 = 128 * (k + 1) by omega] at this
          exact this
        case measure => simp [lenOf, cutV] <;> omega
    · have hlt' : (d : Int) < 128 := by omega
      have hfit : Hid (8 + 128 ≤ (hc (bl M k) r M.length).length) := by unfold Hid; rw [hc_length _ _ _ hr]; omega
      have hmin : Hid (d = min (M.drop (128 * k)).length 128) := by unfold Hid; rw [hdl]; omega
      go_wp2_with (refine wpList_copyAt rfl _ _ rfl 51 b 8 128 128 rfl (.slice pa d pc) (M.drop (128 * k)) rfl HS.out (hc (bl M k) r M.length) HA.out hfit.out d hmin.out ?_; intro w1 hA1 hO1; have HA1 : Hid (At 51 w1 b (splice (hc (bl M k) r M.length) 8 (bv8 ((M.drop (128 * k)).take d)))) := hA1; have HO1 : Hid (Oth b wr w1) := hO1; clear hA1 hO1)
      go_end0
      exact ⟨rfl, hh_end M w1 b k d r hr hk hd (by omega) HA1.out, HO.out.trans HO1.out⟩
end Go.Proofs.YtkkhpjcfojgggaaDoor.Br

/-
  The contract of the broad's add: what has come so far, and more bytes, where some wait and no block is filled. Conditions: as the theorem says.
-/
namespace Go.Proofs.YtkkhpjcfojgggaaDoor.Br
open Go.RowKit
set_option linter.unusedVariables false
set_option linter.unusedSimpArgs false

theorem at_sk {T : TypeId} {W : World} {b : Nat} {s : S8} {r : List Nat} {n : Nat} (h : At T W b (hc s r n)) (hr : r.length = 128) : SK .u8 W (.slice (some ⟨b, 8, none⟩) 128 128) r :=
  ⟨some ⟨b, 8, none⟩, 128, by rw [hr], by omega, fun e => by simp at e, fun j hj => ⟨b, 8, rfl, h.lt, by rw [h.cell (8 + j), hc_rest _ _ _ hr j (by omega)]⟩⟩
theorem slice_rest (b q : Nat) (hq : q < 128) (W : World) : (Instr.sliceAt 49 (.pointer (some ⟨b, 8, none⟩)) (some (.int .i64 (q : Int))) none none).run Tryd.prog W = .ok (.slice (some ⟨b, 8 + q, none⟩) (128 - q) (128 - q)) W := by
  have h1 : (q : Int) ≤ 128 := by omega
  have h2 : ¬ 128 = q := by omega
  simp [Instr.sliceAt, Instr.sureAddr, run_underlying Tryd.underlying49, Instr.sliceBounds, run_sliceBound, h1, h2, go_sem]
/-- The block that is filled up. -/
theorem filled (m p r : List Nat) (q n N : Nat) (hN : m.length = N) (hq : N % 128 = q) (hn : q + n = 128) (hp : n ≤ p.length) (hr : r.length = 128) (hw : ∀ j, j < q → r.getD j 0 = m.getD (128 * (N / 128) + j) 0) :
    splice r q (p.take n) = ((m ++ p).drop (128 * (N / 128))).take 128 := by
  have hl : (p.take n).length = n := by simp; omega
  refine list_of_getD _ _ (by rw [length_splice _ _ _ (by omega), hr]; simp; omega) (fun j hj => ?_)
  rw [length_splice _ _ _ (by omega), hr] at hj
  rw [splice_get _ _ _ (by omega)]
  have e2 : (((m ++ p).drop (128 * (N / 128))).take 128).getD j 0 = (m ++ p).getD (128 * (N / 128) + j) 0 := by
    simp [List.getD_eq_getElem?_getD, List.getElem?_take, List.getElem?_drop, hj]
  rw [e2]
  by_cases h1 : j < q
  · rw [if_pos h1, hw j h1]
    simp only [List.getD_eq_getElem?_getD]
    rw [List.getElem?_append_left (by omega)]
  · rw [if_neg h1, if_pos (by omega)]
    simp only [List.getD_eq_getElem?_getD]
    rw [List.getElem?_append_right (by omega), List.getElem?_take, if_pos (by omega), show 128 * (N / 128) + j - m.length = j - q by omega]
/-- Some more wait. -/
theorem waits (m p r : List Nat) (q N P : Nat) (W : World) (b : Nat) (hN : m.length = N) (hP : p.length = P) (hq : N % 128 = q) (hn : q + P < 128) (hr : r.length = 128) (hw : ∀ j, j < q → r.getD j 0 = m.getD (128 * (N / 128) + j) 0)
    (h : At 51 W b (splice (hc (bl (m ++ p) (N / 128)) r (m ++ p).length) (8 + q) (bv8 (p.take P)))) : HH W b (m ++ p) := by
  have hl : (m ++ p).length = N + P := by simp [hN, hP]
  have e : (N + P) / 128 = N / 128 := by omega
  rw [List.take_of_length_le (by omega), hc_splice _ _ _ _ _ hr (by omega)] at h
  refine ⟨splice r q p, by rw [length_splice _ _ _ (by omega), hr], fun j hj => ?_, by rw [hl, e, ← hl]; exact h⟩
  rw [hl] at hj ⊢
  rw [splice_get _ _ _ (by omega), e]
  by_cases h1 : j < q
  · rw [if_pos h1, hw j h1]
    simp only [List.getD_eq_getElem?_getD]
    rw [List.getElem?_append_left (by omega)]
  · rw [if_neg h1, if_pos (by omega)]
    simp only [List.getD_eq_getElem?_getD]
    rw [List.getElem?_append_right (by omega), show 128 * (N / 128) + j - m.length = j - q by omega]

set_option maxRecDepth 100000 in
set_option maxHeartbeats 2000000 in
theorem add_wait (m p : List Nat) (hm : Bb m) (hp : Bb p) (hlen : m.length + p.length ≤ 1000000000) (v : Value) (w : World) (hg : Gl6 w) (b : Nat) (hb : 1 < b) (hH : HH w b m) (hs : SK .u8 w v p) (hv : Off b v) (q : Nat) (hq : m.length % 128 = q) (hpos : 0 < q) (h0 : q + p.length < 128) :
    Calls Tryd.prog 21 #[.pointer (some ⟨b, 0, none⟩), v] w fun e w' => e = .returned (.tuple #[]) ∧ HH w' b (m ++ p) ∧ Oth b w w' := by
  obtain ⟨r0, hr0, hw0, hA0⟩ := hH
  obtain ⟨a, cap, e⟩ := hs.shape
  subst e
  obtain ⟨M, hM⟩ : ∃ M, Hid (m ++ p = M) := ⟨_, rfl⟩
  have hML : M.length = m.length + p.length := by rw [← hM.out]; simp
  have hMB : Hid (Bb M) := by rw [← hM.out]; exact hm.app hp
  have G0 : Hid (Gl6 w) := hg
  have hb1 := hb
  have c72 := hA0.cell 136
  rw [hc_len _ _ _ hr0] at c72
  have f72 := hA0.free 136
  have HA0 : Hid (At 51 w b (hc (bl m (m.length / 128)) r0 m.length)) := hA0
  have HS0 : Hid (SK .u8 w (.slice a p.length cap) p) := hs
  have HF0 : Hid (Off b (.slice a p.length cap)) := hv
  have HW0 : Hid (∀ j, j < m.length % 128 → r0.getD j 0 = m.getD (128 * (m.length / 128) + j) 0) := hw0
  rw [hM.out]
  obtain ⟨N, hN⟩ : ∃ N, m.length = N := ⟨_, rfl⟩
  obtain ⟨P, hP⟩ : ∃ P, p.length = P := ⟨_, rfl⟩
  rw [hN] at c72 hq HA0 hML hlen HW0
  rw [hP] at HS0 HF0 hML hlen h0 ⊢
  have hN2 : (N : Int) ≤ 1000000000 := by omega
  have hP2 : (P : Int) ≤ 1000000000 := by omega
  have St : Hid ((hc (bl m (N / 128)) r0 N).set 136 (.int .i64 ((N : Int) + (P : Int))) = hc (bl M (N / 128)) r0 M.length) := by
    unfold Hid
    rw [hML, show ((N : Int) + (P : Int)) = ((N + P : Nat) : Int) by simp, hc_set_len _ _ _ _ hr0, ← hM.out, bl_app m p _ (by omega)]
  clear hA0 hs hv hm hp hg hb hw0
  have hW2 : Hid (∀ j, j < q → r0.getD j 0 = m.getD (128 * (N / 128) + j) 0) := by rw [← hq]; exact HW0.out
  have hq0 : (0 : Int) < q := by omega
  have hq1 : (q : Int) < 128 := by omega
  have hq2 : (N : Int) % 128 = (q : Int) := by omega
  have hsl := slice_rest b q (by omega)
  go_enter Tryd.func21, Tryd.ntmps21
  go_upto_region 3 with fail
  refine wp_cut (fun W => At 51 W b (hc (bl M (N / 128)) r0 M.length) ∧ Oth b w W) ⟨by rw [← St.out]; exact HA0.out.set 136 _, (Oth.refl _ _).set _ _⟩ ?_
  rintro W1 ⟨hA1, hO1⟩
  have HA1 : Hid (At 51 W1 b (hc (bl M (N / 128)) r0 M.length)) := hA1
  have HO1 : Hid (Oth b w W1) := hO1
  have HS1 : Hid (SK .u8 W1 (.slice a P cap) p) := HS0.out.oth hO1 HF0.out
  clear hA1 hO1 HA0 HS0 c72 f72 St
  rw [hq2]
  clear hq2
  have hfit : Hid (8 + q + (128 - q) ≤ (hc (bl M (N / 128)) r0 M.length).length) := by unfold Hid; rw [hc_length _ _ _ hr0]; omega
  have hmin : Hid (P = min p.length (128 - q)) := by unfold Hid; rw [hP]; omega
  have hlt : (q : Int) + P < 128 := by omega
  go_wp2_with (refine wpList_copyAt rfl _ _ rfl 51 b (8 + q) (128 - q) _ rfl (.slice a P cap) p rfl HS1.out (hc (bl M (N / 128)) r0 M.length) HA1.out hfit.out P hmin.out ?_; intro w1 hA1 hO1; have HA2 : Hid (At 51 w1 b (splice (hc (bl M (N / 128)) r0 M.length) (8 + q) (bv8 (p.take P)))) := hA1; have HO2 : Hid (Oth b W1 w1) := hO1; clear hA1 hO1)
  have HE : HH w1 b M := by
    have := waits m p r0 q N P w1 b hN hP hq h0 hr0 hW2.out (by rw [hM.out]; exact HA2.out)
    rwa [hM.out] at this
  exact bodyPost_ret (results_none Tryd.results21 _ _ _) rfl ⟨rfl, HE, HO1.out.trans HO2.out⟩
end Go.Proofs.YtkkhpjcfojgggaaDoor.Br

/-
  The contract of the broad's add: what has come so far, and more bytes, where some wait and a block is filled. Conditions: as the theorem says.
-/
namespace Go.Proofs.YtkkhpjcfojgggaaDoor.Br
open Go.RowKit
set_option linter.unusedVariables false
set_option linter.unusedSimpArgs false

set_option maxRecDepth 100000 in
set_option maxHeartbeats 2000000 in
theorem add_fill (m p : List Nat) (hm : Bb m) (hp : Bb p) (hlen : m.length + p.length ≤ 1000000000) (v : Value) (w : World) (hg : Gl6 w) (b : Nat) (hb : 1 < b) (hH : HH w b m) (hs : SK .u8 w v p) (hv : Off b v) (q n : Nat) (hq : m.length % 128 = q) (hpos : 0 < q) (hn : q + n = 128) (h0 : n ≤ p.length) :
    Calls Tryd.prog 21 #[.pointer (some ⟨b, 0, none⟩), v] w fun e w' => e = .returned (.tuple #[]) ∧ HH w' b (m ++ p) ∧ Oth b w w' := by
  obtain ⟨r0, hr0, hw0, hA0⟩ := hH
  obtain ⟨a, cap, e⟩ := hs.shape
  subst e
  obtain ⟨M, hM⟩ : ∃ M, Hid (m ++ p = M) := ⟨_, rfl⟩
  have hML : M.length = m.length + p.length := by rw [← hM.out]; simp
  have hMB : Hid (Bb M) := by rw [← hM.out]; exact hm.app hp
  have G0 : Hid (Gl6 w) := hg
  have hb1 := hb
  have c72 := hA0.cell 136
  rw [hc_len _ _ _ hr0] at c72
  have f72 := hA0.free 136
  have HA0 : Hid (At 51 w b (hc (bl m (m.length / 128)) r0 m.length)) := hA0
  have HS0 : Hid (SK .u8 w (.slice a p.length cap) p) := hs
  have HF0 : Hid (Off b (.slice a p.length cap)) := hv
  have HW0 : Hid (∀ j, j < m.length % 128 → r0.getD j 0 = m.getD (128 * (m.length / 128) + j) 0) := hw0
  rw [hM.out]
  obtain ⟨N, hN⟩ : ∃ N, m.length = N := ⟨_, rfl⟩
  obtain ⟨P, hP⟩ : ∃ P, p.length = P := ⟨_, rfl⟩
  rw [hN] at c72 hq HA0 hML hlen HW0
  rw [hP] at HS0 HF0 hML hlen h0 ⊢
  have hN2 : (N : Int) ≤ 1000000000 := by omega
  have hP2 : (P : Int) ≤ 1000000000 := by omega
  have St : Hid ((hc (bl m (N / 128)) r0 N).set 136 (.int .i64 ((N : Int) + (P : Int))) = hc (bl M (N / 128)) r0 M.length) := by
    unfold Hid
    rw [hML, show ((N : Int) + (P : Int)) = ((N + P : Nat) : Int) by simp, hc_set_len _ _ _ _ hr0, ← hM.out, bl_app m p _ (by omega)]
  clear hA0 hs hv hm hp hg hb hw0
  have hW2 : Hid (∀ j, j < q → r0.getD j 0 = m.getD (128 * (N / 128) + j) 0) := by rw [← hq]; exact HW0.out
  have hq0 : (0 : Int) < q := by omega
  have hq1 : (q : Int) < 128 := by omega
  have hq2 : (N : Int) % 128 = (q : Int) := by omega
  have hsl := slice_rest b q (by omega)
  go_enter Tryd.func21, Tryd.ntmps21
  go_upto_region 3 with fail
  refine wp_cut (fun W => At 51 W b (hc (bl M (N / 128)) r0 M.length) ∧ Oth b w W) ⟨by rw [← St.out]; exact HA0.out.set 136 _, (Oth.refl _ _).set _ _⟩ ?_
  rintro W1 ⟨hA1, hO1⟩
  have HA1 : Hid (At 51 W1 b (hc (bl M (N / 128)) r0 M.length)) := hA1
  have HO1 : Hid (Oth b w W1) := hO1
  have HS1 : Hid (SK .u8 W1 (.slice a P cap) p) := HS0.out.oth hO1 HF0.out
  clear hA1 hO1 HA0 HS0 c72 f72 St
  rw [hq2]
  clear hq2
  have hfit : Hid (8 + q + (128 - q) ≤ (hc (bl M (N / 128)) r0 M.length).length) := by unfold Hid; rw [hc_length _ _ _ hr0]; omega
  have hmin : Hid (n = min p.length (128 - q)) := by unfold Hid; rw [hP]; omega
  have hlt : ¬ (q : Int) + n < 128 := by omega
  have hnP : (n : Int) ≤ P := by omega
  obtain ⟨r1, hr1⟩ : ∃ r1, Hid (splice r0 q (p.take n) = r1) := ⟨_, rfl⟩
  have hfl : Hid (r1 = (M.drop (128 * (N / 128))).take 128) := by unfold Hid; rw [← hr1.out, ← hM.out]; exact filled m p r0 q n N hN hq hn (by omega) hr0 hW2.out
  have hr1l : r1.length = 128 := by rw [← hr1.out, length_splice _ _ _ (by simp; omega), hr0]
  have hsp : Hid (splice (hc (bl M (N / 128)) r0 M.length) (8 + q) (bv8 (p.take n)) = hc (bl M (N / 128)) r1 M.length) := by unfold Hid; rw [hc_splice _ _ _ _ _ hr0 (by simp; omega), hr1.out]
  have kT0 : Hid (∀ W, Gl6 W → At 51 W b (hc (bl M (N / 128)) r1 M.length) → Calls Tryd.prog 33 #[.pointer (some ⟨b, 0, none⟩), .slice (some ⟨b, 8, none⟩) 128 128] W fun e w' => e = .returned (.tuple #[]) ∧ At 51 w' b (hc (bl M (N / 128 + 1)) r1 M.length) ∧ Oth b W w') := by
    intro W h1 h2
    have := take_any (bl M (N / 128)) (bl_ok M _) r1 hr1l (by rw [hfl.out]; exact (hMB.out.drop _).take _) _ W h1 (at_sk h2 hr1l) _ b _ h2
    rw [show tk (bl M (N / 128)) r1 = bl M (N / 128 + 1) by rw [hfl.out]; rfl] at this
    exact this
  clear HW0 hW2 hr1
  go_wp2_with (refine wpList_copyAt rfl _ _ rfl 51 b (8 + q) (128 - q) _ rfl (.slice a P cap) p rfl HS1.out (hc (bl M (N / 128)) r0 M.length) HA1.out hfit.out n hmin.out ?_; intro w1 hA1 hO1; have HA2 : Hid (At 51 w1 b (hc (bl M (N / 128)) r1 M.length)) := (by rw [← hsp.out]; exact hA1); have HO2 : Hid (Oth b w w1) := HO1.out.trans hO1; have HS2 : Hid (SK .u8 w1 (.slice a P cap) p) := HS1.out.oth hO1 HF0.out; clear hA1 hO1)
  go_region_with (first
    | (go_at_call 33; refine (kT0.out _ (HO2.out.drew.gl6 G0.out hb1) HA2.out.drew).mono ?_; rintro e w2 ⟨rfl, hA1, hO1⟩; have HA3 : Hid (At 51 w2 b (hc (bl M (N / 128 + 1)) r1 M.length)) := hA1; have HO3 : Hid (Oth b w w2) := HO2.out.drew.trans hO1; have HS3 : Hid (SK .u8 w2 (.slice a P cap) p) := HS2.out.oth ((Oth.refl b _).drew.trans hO1) HF0.out; clear hA1 hO1))

  all_goals
    clear HA1 HO1 HS1 HA2 HO2 HS2 hfit hsp kT0 hmin hsl
    go_wp2_with (refine wpList_cut rfl _ _ rfl a P cap n rfl rfl h0 ?_)
    clear hnP hlt hq0 hq1
    go_loopw [1] (fun y W => ∃ (k : Nat) (r : List Nat), 128 * k ≤ M.length ∧ r.length = 128 ∧ SK .u8 W y (M.drop (128 * k)) ∧ Off b y ∧ At 51 W b (hc (bl M k) r M.length) ∧ Oth b w W) (fun y _ => lenOf y)
    case atStart =>
      refine ⟨N / 128 + 1, r1, by omega, hr1l, ?_, HF0.out.cut, HA3.out, HO3.out⟩
      have := HS3.out
      rw [← hP] at this
      have := this.cut (n := n) (by omega)
      rw [hP] at this
      rw [← hM.out, List.drop_append, List.drop_eq_nil_of_le (by omega), List.nil_append, show 128 * (N / 128 + 1) - m.length = n by omega]
      exact this
    case round =>
      obtain ⟨k, r, hk, hr, hs, ho, hA, hO⟩ := hrel
      obtain ⟨pa, pc, hsh⟩ := hs.shape
      have HO : Hid (Oth b w wr) := hO
      have HA : Hid (At 51 wr b (hc (bl M k) r M.length)) := hA
      have HG : Hid (Gl6 wr) := hO.gl6 G0.out hb1
      have hdl : (M.drop (128 * k)).length = M.length - 128 * k := by simp
      rw [hdl] at hsh
      obtain ⟨d, hd⟩ : ∃ d, M.length - 128 * k = d := ⟨_, rfl⟩
      rw [hd] at hsh hdl
      subst hsh
      have HS : Hid (SK .u8 wr (.slice pa d pc) (M.drop (128 * k))) := hs
      have HF : Hid (Off b (.slice pa d pc)) := ho
      have hd2 : (d : Int) ≤ 1000000000 := by omega
      obtain ⟨hcap, hnone⟩ := hs.cap
      have HN : Hid (pa = none → pc = 0) := hnone
      have hcap' : (d : Int) ≤ pc := by omega
      clear hs ho hA hO hnone
      by_cases hlt : 128 ≤ d
      · have hlt' : (128 : Int) ≤ d := by omega
        have hSB : Hid (SK .u8 wr (.slice pa 128 pc) ((M.drop (128 * k)).take 128)) := by
          have := HS.out
          rw [← hdl] at this
          exact this.take (by omega) (by omega) HN.out
        have kT : Hid (∀ W, Oth b wr W → At 51 W b (hc (bl M k) r M.length) → Calls Tryd.prog 33 #[.pointer (some ⟨b, 0, none⟩), .slice pa 128 pc] W fun e w' => e = .returned (.tuple #[]) ∧ At 51 w' b (hc (bl M (k + 1)) r M.length) ∧ Oth b W w') :=
          fun W h1 h2 => take_any (bl M k) (bl_ok M k) ((M.drop (128 * k)).take 128) (by simp; omega) ((hMB.out.drop _).take _) _ W (h1.gl6 HG.out hb1) (hSB.out.oth h1 (HF.out.any (by omega))) _ b _ h2
        go_wp2_with fail
        go_region_with (first
          | (go_at_call 33; refine (kT.out _ (Oth.refl b _).drew HA.out).mono ?_; rintro e w1 ⟨rfl, hA1, hO1⟩; have HA1 : Hid (At 51 w1 b (hc (bl M (k + 1)) r M.length)) := hA1; have HO1 : Hid (Oth b wr w1) := (Oth.refl b _).drew.trans hO1; clear hA1 hO1))
        all_goals
          go_wp2_with (refine wpList_cut rfl _ _ rfl pa d pc 128 rfl rfl hlt ?_)
          go_roundw
          case rel =>
            refine ⟨k + 1, r, by omega, hr, ?_, HF.out.cut, HA1.out, HO.out.trans HO1.out⟩
            have := HS.out.oth HO1.out HF.out
            rw [← hdl] at this
            have := this.cut (n := 128) (by omega)
            rw [hdl, List.drop_drop, show 128 * k + 128 = 128 * (k + 1) by omega] at this
            exact this
          case measure => simp [lenOf, cutV] <;> omega
      · have hlt' : (d : Int) < 128 := by omega
        have hfit : Hid (8 + 128 ≤ (hc (bl M k) r M.length).length) := by unfold Hid; rw [hc_length _ _ _ hr]; omega
        have hmin : Hid (d = min (M.drop (128 * k)).length 128) := by unfold Hid; rw [hdl]; omega
        go_wp2_with (refine wpList_copyAt rfl _ _ rfl 51 b 8 128 128 rfl (.slice pa d pc) (M.drop (128 * k)) rfl HS.out (hc (bl M k) r M.length) HA.out hfit.out d hmin.out ?_; intro w1 hA1 hO1; have HA1 : Hid (At 51 w1 b (splice (hc (bl M k) r M.length) 8 (bv8 ((M.drop (128 * k)).take d)))) := hA1; have HO1 : Hid (Oth b wr w1) := hO1; clear hA1 hO1)
        go_end0
        exact ⟨rfl, hh_end M w1 b k d r hr hk hd (by omega) HA1.out, HO.out.trans HO1.out⟩
end Go.Proofs.YtkkhpjcfojgggaaDoor.Br
