/-
  The contract of the broad's add: what has come so far, and more bytes where none wait. Conditions: as the theorem says.
-/
import Derived.Test.YthmpbblljbihgaaDoorBrE
namespace Go.Proofs.YthmpbblljbihgaaDoor.Br
open Go.RowKit
set_option linter.unusedVariables false
set_option linter.unusedSimpArgs false

theorem hh_end (M : List Nat) (W : World) (b k d : Nat) (r : List Nat) (hr : r.length = 128) (hk : 128 * k ≤ M.length) (hd : M.length - 128 * k = d) (hlt : d < 128)
    (h : At 44 W b (splice (hc (bl M k) r M.length) 8 (bv8 ((M.drop (128 * k)).take d)))) : HH W b M := by
  have e : k = M.length / 128 := by omega
  have hl : ((M.drop (128 * k)).take d).length = d := by simp; omega
  have := hc_splice (bl M k) r M.length 0 ((M.drop (128 * k)).take d) hr (by omega)
  rw [Nat.add_zero] at this
  rw [this] at h
  refine ⟨splice r 0 ((M.drop (128 * k)).take d), by rw [length_splice _ _ _ (by omega), hr], fun j hj => ?_, by rw [← e]; exact h⟩
  rw [splice_get _ _ _ (by omega), if_neg (by omega), if_pos (by omega), ← e]
  simp [List.getD_eq_getElem?_getD, List.getElem?_take, List.getElem?_drop, show j < d by omega]

set_option maxRecDepth 100000 in
set_option maxHeartbeats 2000000 in
theorem add_none (m p : List Nat) (hm : Bb m) (hp : Bb p) (hlen : m.length + p.length ≤ 1000000000) (v : Value) (w : World) (hg : Gl6 w) (b : Nat) (hb : 1 < b) (hH : HH w b m) (hs : SK .u8 w v p) (hv : Off b v) (h0 : m.length % 128 = 0) :
    Calls Tryd.prog 19 #[.pointer (some ⟨b, 0, none⟩), v] w fun e w' => e = .returned (.tuple #[]) ∧ HH w' b (m ++ p) ∧ Oth b w w' := by
  obtain ⟨r0, hr0, hw0, hA0⟩ := hH
  obtain ⟨a, cap, e⟩ := hs.shape
  subst e
  obtain ⟨M, hM⟩ : ∃ M, Hid (m ++ p = M) := ⟨_, rfl⟩
  have hML : M.length = m.length + p.length := by rw [← hM.out]; simp
  have hMB : Hid (Bb M) := by rw [← hM.out]; exact hm.app hp
  have G0 : Hid (Gl6 w) := hg
  have hb1 := hb
  have c72 := hA0.cell 136
  rw [hc_len _ _ _ hr0] at c72
  have f72 := hA0.free 136
  have HA0 : Hid (At 44 w b (hc (bl m (m.length / 128)) r0 m.length)) := hA0
  have HS0 : Hid (SK .u8 w (.slice a p.length cap) p) := hs
  have HF0 : Hid (Off b (.slice a p.length cap)) := hv
  have HW0 : Hid (∀ j, j < m.length % 128 → r0.getD j 0 = m.getD (128 * (m.length / 128) + j) 0) := hw0
  rw [hM.out]
  obtain ⟨N, hN⟩ : ∃ N, m.length = N := ⟨_, rfl⟩
  obtain ⟨P, hP⟩ : ∃ P, p.length = P := ⟨_, rfl⟩
  rw [hN] at c72 h0 HA0 hML hlen HW0
  rw [hP] at HS0 HF0 hML hlen ⊢
  have hN2 : (N : Int) ≤ 1000000000 := by omega
  have hP2 : (P : Int) ≤ 1000000000 := by omega
  have St : Hid ((hc (bl m (N / 128)) r0 N).set 136 (.int .i64 ((N : Int) + (P : Int))) = hc (bl M (N / 128)) r0 M.length) := by
    unfold Hid
    rw [hML, show ((N : Int) + (P : Int)) = ((N + P : Nat) : Int) by simp, hc_set_len _ _ _ _ hr0, ← hM.out, bl_app m p _ (by omega)]
  clear hA0 hs hv hm hp hg hb hw0
  have hN3 : (N : Int) % 128 = 0 := by omega
  go_enter Tryd.func19, Tryd.ntmps19
  go_wp2_with fail
  clear hN3
  go_loopw [1] (fun y W => ∃ (k : Nat) (r : List Nat), 128 * k ≤ M.length ∧ r.length = 128 ∧ SK .u8 W y (M.drop (128 * k)) ∧ Off b y ∧ At 44 W b (hc (bl M k) r M.length) ∧ Oth b w W) (fun y _ => lenOf y)
  case atStart =>
    refine ⟨N / 128, r0, by omega, hr0, ?_, HF0.out, ?_, (Oth.refl _ _).set _ _⟩
    · rw [← hM.out, List.drop_append, show 128 * (N / 128) - m.length = 0 by omega, List.drop_eq_nil_of_le (by omega)]
      exact HS0.out.oth ((Oth.refl _ _).set _ _) HF0.out
    · rw [← St.out]; exact HA0.out.set 136 _
  case round =>
    obtain ⟨k, r, hk, hr, hs, ho, hA, hO⟩ := hrel
    obtain ⟨pa, pc, hsh⟩ := hs.shape
    have HO : Hid (Oth b w wr) := hO
    have HA : Hid (At 44 wr b (hc (bl M k) r M.length)) := hA
    have HG : Hid (Gl6 wr) := hO.gl6 G0.out hb1
    have hdl : (M.drop (128 * k)).length = M.length - 128 * k := by simp
    rw [hdl] at hsh
    obtain ⟨d, hd⟩ : ∃ d, M.length - 128 * k = d := ⟨_, rfl⟩
    rw [hd] at hsh hdl
    subst hsh
    have HS : Hid (SK .u8 wr (.slice pa d pc) (M.drop (128 * k))) := hs
    have HF : Hid (Off b (.slice pa d pc)) := ho
    have hd2 : (d : Int) ≤ 1000000000 := by omega
    obtain ⟨hcap, hnone⟩ := hs.cap
    have HN : Hid (pa = none → pc = 0) := hnone
    have hcap' : (d : Int) ≤ pc := by omega
    clear hs ho hA hO hnone
    by_cases hlt : 128 ≤ d
    · have hlt' : (128 : Int) ≤ d := by omega
      have hSB : Hid (SK .u8 wr (.slice pa 128 pc) ((M.drop (128 * k)).take 128)) := by
        have := HS.out
        rw [← hdl] at this
        exact this.take (by omega) (by omega) HN.out
      have kT : Hid (∀ W, Oth b wr W → At 44 W b (hc (bl M k) r M.length) → Calls Tryd.prog 33 #[.pointer (some ⟨b, 0, none⟩), .slice pa 128 pc] W fun e w' => e = .returned (.tuple #[]) ∧ At 44 w' b (hc (bl M (k + 1)) r M.length) ∧ Oth b W w') :=
        fun W h1 h2 => take_any (bl M k) (bl_ok M k) ((M.drop (128 * k)).take 128) (by simp; omega) ((hMB.out.drop _).take _) _ W (h1.gl6 HG.out hb1) (hSB.out.oth h1 (HF.out.any (by omega))) _ b _ h2
      go_wp2_with fail
      go_region_with (first
        | (go_at_call 33; refine (kT.out _ (Oth.refl b _).drew HA.out).mono ?_; rintro e w1 ⟨rfl, hA1, hO1⟩; have HA1 : Hid (At 44 w1 b (hc (bl M (k + 1)) r M.length)) := hA1; have HO1 : Hid (Oth b wr w1) := (Oth.refl b _).drew.trans hO1; clear hA1 hO1))
      all_goals
        go_wp2_with (refine wpList_cut rfl _ _ rfl pa d pc 128 rfl rfl hlt ?_)
        go_roundw
        case rel =>
          refine ⟨k + 1, r, by omega, hr, ?_, HF.out.cut, HA1.out, HO.out.trans HO1.out⟩
          have := HS.out.oth HO1.out HF.out
          rw [← hdl] at this
          have := this.cut (n := 128) (by omega)
          rw [hdl, List.drop_drop, show 128 * k + 128 = 128 * (k + 1) by omega] at this
          exact this
        case measure => simp [lenOf, cutV] <;> omega
    · have hlt' : (d : Int) < 128 := by omega
      have hfit : Hid (8 + 128 ≤ (hc (bl M k) r M.length).length) := by unfold Hid; rw [hc_length _ _ _ hr]; omega
      have hmin : Hid (d = min (M.drop (128 * k)).length 128) := by unfold Hid; rw [hdl]; omega
      go_wp2_with (refine wpList_copyAt rfl _ _ rfl 44 b 8 128 128 rfl (.slice pa d pc) (M.drop (128 * k)) rfl HS.out (hc (bl M k) r M.length) HA.out hfit.out d hmin.out ?_; intro w1 hA1 hO1; have HA1 : Hid (At 44 w1 b (splice (hc (bl M k) r M.length) 8 (bv8 ((M.drop (128 * k)).take d)))) := hA1; have HO1 : Hid (Oth b wr w1) := hO1; clear hA1 hO1)
      go_end0
      exact ⟨rfl, hh_end M w1 b k d r hr hk hd (by omega) HA1.out, HO.out.trans HO1.out⟩
end Go.Proofs.YthmpbblljbihgaaDoor.Br
