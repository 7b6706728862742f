/-
  The contract of the document's own digits: quotient and rest, digit by digit from above, each digit found by halving. Conditions: as each theorem says.
-/
import Derived.Test.YtlpmbhneffdcfaaDoorQuoV
import Derived.Test.YtlpmbhneffdcfaaDoorNumLv
import Derived.Laws.AppendOwnNone
import Derived.Deep.DeepCutAuto
import Derived.Deep.CutBlock
namespace Go.Proofs.YtlpmbhneffdcfaaDoor
open Go.RowKit
set_option linter.unusedVariables false

theorem Own.lit1 (base : Nat) (w : World) (d : Nat) (hb : base ≤ w.heap.size) : Own base (w.alloc (.cells #[.int .i64 (d : Int)] 3)) (.slice (some ⟨w.heap.size, 0, none⟩) 1 1) [d] := by
  refine ⟨by simp [dv], Or.inr ⟨w.heap.size, 1, #[.int .i64 (d : Int)], by simp, hb, ?_, by simp, by unfold maxLen; simp, by simp, by simp [dv]⟩⟩
  show (w.heap.push _)[w.heap.size]? = _
  simp

/-- 'append(out, m...)' on the call's own slice, the digits m lying anywhere, or nowhere. -/
theorem wpList_appS {ops : Array Oper} {rest : List Oper} {o : Oper} {a : Act} {Q : Exit → Act → World → Prop} {wr : World} (hgd : o.guard = none) (s x : Operand)
    (ho : o.op = .call { callee := .builtin .append, args := #[s, x], argTypes := #[50, 50] })
    (base : Nat) (v : Value) (l m : List Nat) (vx : Value) (hs : a.eval s = v) (hown : Own base wr v l)
    (hx : a.eval x = vx) (hS : Sl wr vx m) (hlen : l.length ≤ 1000000) (hlen2 : m.length ≤ 1000000) (hbase : base ≤ wr.heap.size)
    (h : ∀ v' w', Own base w' v' (l ++ m) → Below base wr w' → wpList Tryd.prog ops Q rest (a.put o.dst v') w') :
    wpList Tryd.prog ops Q (o :: rest) a wr := by
  obtain ⟨i0, hi, hz0, hz1, hz2⟩ := info_parts info_int
  obtain ⟨p, cap, rfl, hcap, hnil, hc⟩ := hS
  cases p with
  | none =>
    obtain ⟨rfl, rfl⟩ := hnil rfl
    refine wpList_append_own_none hgd s x 50 ho base 3 i0 1 Tryd.underlying50 hi v _ _ hs hown hx ?_
    exact h v wr (by rw [List.append_nil]; exact hown) (Below.refl _ _)
  | some p =>
    refine wpList_append_own _ hgd s x 50 ho base 3 i0 (.int .i64 0) 1 8 Tryd.underlying50 hi hz0 hz1 hz2 rfl (by decide) v _ _ hs hown p m.length cap (dv m) hx (by simp [dv]) ?_ ?_ ?_ ?_ ?_ ?_
    · intro j u hj
      by_cases hjl : j < m.length
      · rw [dv_get m j hjl] at hj
        rw [← hj]
        obtain ⟨b, off, e, -, e3⟩ := hc j hjl
        obtain rfl : p = ⟨b, off, none⟩ := by simpa using e
        have e : Addr.add ⟨b, off, none⟩ j = ⟨b, off + j, none⟩ := by
          unfold Addr.add
          by_cases h0 : j = 0
          · subst h0; simp
          · simp [h0]
        rw [e]; exact e3
      · rw [List.getElem?_eq_none (by rw [dv_length]; omega)] at hj; cases hj
    · intro u hu; simp [dv] at hu; obtain ⟨d, _, rfl⟩ := hu; rfl
    · unfold maxLen; omega
    · omega
    · exact hbase
    · intro v' w' h1 h2 _
      refine h v' w' ?_ ?_
      · unfold Own
        have e : dv (l ++ m) = dv l ++ dv m := by simp [dv]
        rw [e]
        simpa using h1
      · refine Below.grown (Below.refl _ _) h2 hbase ?_
        intro k hk
        rcases hown.2 with ⟨e, _⟩ | ⟨g, cap, cur, e, hg, _⟩
        · rw [e] at hk; simp [Value.ownBlock] at hk
        · rw [e] at hk; simp [Value.ownBlock] at hk; omega

set_option maxHeartbeats 400000 in
/-- The digits without noughts at the end lie where they lay. -/
theorem trim_at (l : List Nat) (v : Value) (w : World) (h : Sl w v l) (hl : l.length ≤ 1000000) (hd : Dg l) :
    Calls Tryd.prog 63 #[v] w fun e w' => ∃ v', e = .returned v' ∧ Num w v' (valD l) ∧ w' = w ∧ Hid (∃ a m c m' c', v = .slice a m c ∧ v' = .slice a m' c') := by
  obtain ⟨a, cap, rfl, hcap, hnil, hc⟩ := h
  have Hc : Hid _ := hc
  clear hc
  go_enter Tryd.func63, Tryd.ntmps63
  go_wp2
  go_loop [3] (fun x => ∃ n : Nat, n ≤ l.length ∧ x = .int .i64 n ∧ Hid (valD (l.take n) = valD l)) (fun x => (intOf x).toNat)
  case atStart => exact ⟨l.length, Nat.le_refl _, rfl, by unfold Hid; rw [List.take_length]⟩
  case round =>
    obtain ⟨n, hn, rfl, hv⟩ := hrel
    cases n with
    | zero =>
      have hv' : valD l = 0 := by rw [← hv.out]; rfl
      have H : Hid (Num w (.slice a 0 cap) (valD l)) := ⟨[], ⟨a, cap, rfl, Nat.zero_le _, fun h => ⟨rfl, (hnil h).2⟩, fun j hj => by simp at hj⟩, Dg.nil, Or.inl rfl, hv'.symm⟩
      clear hv'
      go_wp2
      go_ret
      exact ⟨_, rfl, H.out, rfl, _, _, rfl⟩
    | succ n =>
      obtain ⟨b, o, rfl, hb, hcell⟩ := Hc.out n (by omega)
      obtain ⟨d, hd'⟩ : ∃ d, Hid (l.getD n 0 = d) := ⟨_, rfl⟩
      rw [hd'.out] at hcell
      have hn' : (n : Int) + 1 ≤ l.length := by omega
      by_cases hz : d = 0
      · subst hz
        go_wp2
        go_round
        case rel =>
          refine ⟨n, by omega, by go_num, ?_⟩
          have := valD_take l n
          rw [hd'.out] at this
          unfold Hid at *
          omega
        case measure => simp [intOf]
      · have hz' : ((d : Int) == 0) = false := by simp [hz]
        have H : Hid (Num w (.slice (some ⟨b, o, none⟩) (n + 1) cap) (valD l)) := by
          have e : (l.take (n + 1)).length = n + 1 := by rw [List.length_take]; omega
          have g : ∀ j, j < n + 1 → (l.take (n + 1)).getD j 0 = l.getD j 0 := fun j hj => by
            simp [List.getD_eq_getElem?_getD, hj]
          refine ⟨l.take (n + 1), ⟨some ⟨b, o, none⟩, cap, by rw [e], by omega, fun h => (by simp at h), fun j hj => ?_⟩, fun j => ?_, Or.inr ?_, hv.out⟩
          · obtain ⟨b', o', e1, e2, e3⟩ := Hc.out j (by omega)
            rw [g j (by omega)]
            exact ⟨b', o', e1, e2, e3⟩
          · by_cases hj : j < n + 1
            · rw [g j hj]; exact hd j
            · rw [List.getD_eq_getElem?_getD, List.getElem?_eq_none (by omega)]; decide
          · rw [e, show n + 1 - 1 = n by omega, g n (by omega), hd'.out]; exact hz
        clear hz
        go_wp2
        go_ret
        exact ⟨_, rfl, H.out, rfl, _, _, rfl⟩

theorem Num.setCell {W : World} {g o n cap N : Nat} (h : Num W (.slice (some ⟨g, o, none⟩) n cap) N) (b i : Nat) (v : Value) (hb : b ≠ g) : Num (W.setCell ⟨b, i, none⟩ v) (.slice (some ⟨g, o, none⟩) n cap) N := by
  obtain ⟨l, ⟨a, c, e, h2, h3, h4⟩, hd, hz, hv⟩ := h
  refine ⟨l, ⟨a, c, e, h2, h3, fun j hj => ?_⟩, hd, hz, hv⟩
  obtain ⟨b', o', e1, e2, e3⟩ := h4 j hj
  refine ⟨b', o', e1, by simpa using e2, ?_⟩
  subst e1
  simp only [Value.slice.injEq, Option.some.injEq, Addr.mk.injEq] at e
  rw [World.cell?_setCell_other _ _ _ _ (fun q => hb ((congrArg Addr.block q).trans e.1.1.symm))]
  exact e3
theorem Own.block {base : Nat} {w : World} {v : Value} {x : Nat} {l : List Nat} (h : Own base w v (x :: l)) : ∃ g n c, v = .slice (some ⟨g, 0, none⟩) n c ∧ base ≤ g := by
  rcases h.2 with ⟨_, e0⟩ | ⟨g, cap, cur, e, hg, _⟩
  · simp at e0
  · exact ⟨g, _, cap, e, hg⟩

theorem pow_next (n : Nat) (B m : Nat) (hB : B < 16777216 ^ (n + 1)) (hm : m ≤ 16777216) : B * m < 16777216 ^ (n + 2) := by
  rw [Nat.pow_succ 16777216 (n + 1)]
  exact Nat.lt_of_le_of_lt (Nat.mul_le_mul_left B hm) (Nat.mul_lt_mul_of_pos_right hB (by omega))

set_option maxRecDepth 100000 in
set_option maxHeartbeats 4000000 in
theorem digits_any (la lb : List Nat) (va vb : Value) (w : World) (ha : Sl w va la) (hb : Sl w vb lb) (hda : Dg la) (hdb : Dg lb) (hzb : Nz lb) (n : Nat) (hlb : lb.length = n + 1) (hla : la.length ≤ 1000) (hn : n ≤ 1000) :
    Calls Tryd.prog 64 #[va, vb] w fun e w' => ∃ q r, e = .returned (.tuple #[q, r]) ∧ Num w' q (valD la / valD lb) ∧ Num w' r (valD la % valD lb) ∧ Below w.heap.size w w' := by
  obtain ⟨B, hB⟩ : ∃ B, Hid (valD lb = B) := ⟨_, rfl⟩
  have HNb : Hid (Num w vb B) := ⟨lb, hb, hdb, hzb, hB.out⟩
  have HB0 : Hid (0 < B) := by unfold Hid; rw [← hB.out]; exact val_pos lb n hlb hzb
  have HBn : Hid (B < 16777216 ^ (n + 1)) := by unfold Hid; rw [← hB.out, ← hlb]; exact valD_lt lb hdb
  rw [hB.out]
  obtain ⟨a, capa, rfl, hcapa, hnila, hca⟩ := ha
  obtain ⟨b, capb, rfl, hcapb, hnilb, hcb⟩ := hb
  obtain ⟨bb, ob, rfl, hbb, hcellb⟩ := hcb n (by omega)
  have hbt := top_pos lb n hlb hzb
  obtain ⟨bt, hbte⟩ : ∃ bt, Hid (lb.getD n 0 = bt) := ⟨_, rfl⟩
  rw [hbte.out] at hcellb hbt
  have hbt1 : (bt : Int) ≤ 16777215 := by have := hdb n; rw [hbte.out] at this; omega
  have hbt0 : (0 : Int) < (bt : Int) := by omega
  have hbt2 : ¬ bt = 0 := by omega
  have hbt3 : ((bt : Int) == 0) = false := beq_eq_false_iff_ne.2 (by omega)
  have hbt4 : (((bt : Int) + 1) == 0) = false := beq_eq_false_iff_ne.2 (by omega)
  have hbt5 : ¬ (bt : Int) + 1 = 0 := by omega
  rw [hlb] at HNb ⊢
  have Hca : Hid _ := hca
  have Hda : Hid (Dg la) := hda
  have Hdb : Hid (Dg lb) := hdb
  have Hzb : Hid (Nz lb) := hzb
  have Hlb : Hid (lb.length = n + 1) := hlb
  have Hcb : Hid _ := hcellb
  clear hca hcb hda hdb hzb hnila hnilb hcellb
  have hla' : (la.length : Int) ≤ 1000 := by omega
  have hn' : (n : Int) ≤ 1000 := by omega
  have hmk := fun w => make_ints la.length (by omega) (la.length : Int) rfl w
  go_enter Tryd.func64, Tryd.ntmps64
  go_wp2
  clear hmk
  go_loopw [6, 8] (fun v i W => ∃ (k : Nat) (o : List Nat) (R : Nat), k ≤ la.length ∧ i = .int .i64 ((k : Int) - 1) ∧ Num W v R ∧ Row .i64 w.heap.size w.heap.size o W ∧ Below w.heap.size w W ∧ Hid (QAt la B k o R)) (fun _ i _ => ((intOf i) + 1).toNat)
  case atStart =>
    exact ⟨la.length, _, 0, Nat.le_refl _, rfl, ⟨[], Sl.nil _, Dg.nil, Or.inl rfl, rfl⟩, Row.made w la.length _, (Below.refl _ _).alloc (Nat.le_refl _) _, QAt.start la B⟩
  case round =>
    obtain ⟨k, o, R, hk, rfl, hN, hrow, hbel, H⟩ := hrel
    obtain ⟨ra, rc, rd, rfl⟩ := hN.shape
    have hol : o.length = la.length := H.out.len
    have HN : Hid (Num wr (.slice ra rc rd) R) := hN
    have Hr : Hid (Row .i64 w.heap.size w.heap.size o wr) := hrow
    have Hb : Hid (Below w.heap.size w wr) := hbel
    have Hol : Hid (o.length = la.length) := hol
    clear hN hrow hbel hol
    cases k with
    | zero =>
      have hsl := Hr.out.sl
      rw [Hol.out] at hsl
      have Hs : Hid (Sl wr (.slice (some ⟨w.heap.size, 0, none⟩) la.length la.length) o) := hsl
      clear hsl
      go_wp2_with fail
      refine (trim_any o _ _ Hs.out (by rw [Hol.out]; omega) H.out.dg).mono ?_
      rintro e w1 ⟨v1, rfl, hN1, hw1⟩; rw [hw1]; clear hw1 w1
      rw [H.out.done.1] at hN1
      have HN1 : Hid (Num wr v1 (valD la / B)) := hN1
      obtain ⟨a1, c1, d1, rfl⟩ := hN1.shape
      clear hN1
      go_wp2_with fail
      go_ret2
      exact ⟨_, _, rfl, HN1.out, by rw [← H.out.done.2]; exact HN.out, Hb.out⟩
    | succ k =>
      obtain ⟨x, hx⟩ : ∃ x, Hid (la.getD k 0 = x) := ⟨_, rfl⟩
      have hx1 : x < 16777216 := by have := Hda.out k; rw [hx.out] at this; exact this
      obtain ⟨ba, oa, rfl, hba, hcella⟩ := Hca.out k (by omega)
      rw [hx.out] at hcella
      have ca : wr.cell? ⟨ba, oa + k, none⟩ = some (.int .i64 (x : Int)) := (Hb.out.cell (p := ⟨ba, oa + k, none⟩) hba).trans hcella
      clear hcella
      have hkl : (k : Int) < la.length := by omega
      have hk0 : (0 : Int) ≤ (k : Int) := by omega
      obtain ⟨lr, sr, dr, zr, vr⟩ := HN.out
      have hlr := nz_len lr (n + 1) dr zr (by rw [vr]; exact Nat.lt_trans (H.out.lt HB0.out) HBn.out)
      have Sr : Hid (Sl wr (.slice ra rc rd) lr) := sr
      have Dr : Hid (Dg lr) := dr
      have Vr : Hid (valD lr = R) := vr
      have Hlr : Hid (lr.length ≤ n + 1) := hlr
      clear sr dr zr vr hlr
      have S0 : Hid (∀ o, Sl (wr.alloc o) (.slice ra rc rd) lr) := fun o => Sr.out.below ((Below.refl _ _).alloc (Nat.le_refl _) _)
      have hsz1 : wr.heap.size ≤ (wr.alloc (.cells #[.int .i64 (x : Int)] 3)).heap.size := by simp
      have hlr2 : lr.length ≤ 1000000 := by have := Hlr.out; omega
      go_wp2_with (at_builtin; refine wpList_appS rfl _ _ rfl wr.heap.size _ [x] lr (.slice ra rc rd) rfl (Own.lit1 _ _ _ (Nat.le_refl _)) rfl (S0.out _) (by simp) hlr2 hsz1 ?_; intro v1 w1 hown1 hb1)
      have O1 : Hid (Own wr.heap.size w1 v1 ([x] ++ lr)) := hown1
      have B1 : Hid (Below wr.heap.size wr w1) := ((Below.refl wr.heap.size wr).alloc (Nat.le_refl _) _).trans hb1
      clear hown1 hb1 ca hsz1 hlr2 S0
      obtain ⟨g, gn, gc, hg, hgb⟩ := Own.block (x := x) (l := lr) O1.out
      refine (trim_at ([x] ++ lr) _ _ O1.out.sl (by have := Hlr.out; simp; omega) (Dg.cons Dr.out hx1)).mono ?_
      rintro e w2 ⟨v2, rfl, hN2, hw2, ta, tm, tc, tm', tc', ht1, ht2⟩; rw [hw2]; clear hw2 w2
      have HG : Hid (∃ m c, v2 = .slice (some ⟨g, 0, none⟩) m c) := by
        rw [hg] at ht1
        simp only [Value.slice.injEq] at ht1
        rw [← ht1.1] at ht2
        exact ⟨_, _, ht2⟩
      have Hgb : Hid (w.heap.size ≠ g) := by have := Hr.out.lt; unfold Hid; omega
      clear ht1 ht2 hg hgb
      have eX : valD ([x] ++ lr) = x + 16777216 * R := by rw [← Vr.out]; rfl
      rw [eX] at hN2
      obtain ⟨X, hX⟩ : ∃ X, Hid (X = x + 16777216 * R) := ⟨_, rfl⟩
      rw [← hX.out] at hN2
      have HXB : Hid (X < 16777216 * B) := by unfold Hid; rw [hX.out]; exact H.out.next HB0.out hx1
      have NX : Hid (Num w1 v2 X) := hN2
      have BW : Hid (Below w.heap.size w w1) := Hb.out.trans (B1.out.mono Hb.out.size)
      have RW : Hid (Row .i64 w.heap.size w.heap.size o w1) := Hr.out.below B1.out
      obtain ⟨r2, s2, d2, z2, e2⟩ := hN2
      obtain ⟨L, hL⟩ : ∃ L, Hid (r2.length = L) := ⟨_, rfl⟩
      have hL2 : L ≤ n + 2 := by rw [← hL.out]; exact rest_len r2 lb n d2 z2 Hdb.out Hlb.out (by rw [e2, hB.out]; exact HXB.out)
      obtain ⟨p2, cap2, rfl, hcap2, -, hc2⟩ := s2
      rw [hL.out] at NX hcap2 hc2 ⊢
      have hLi : (L : Int) ≤ (n : Int) + 2 := by omega
      have HC2 : Hid _ := hc2
      have D2 : Hid (Dg r2) := d2
      have Z2 : Hid (Nz r2) := z2
      have E2 : Hid (valD r2 = X) := e2
      have cbt : w1.cell? ⟨bb, ob + n, none⟩ = some (.int .i64 (bt : Int)) := (BW.out.cell (p := ⟨bb, ob + n, none⟩) hbb).trans Hcb.out
      clear hc2 d2 z2 e2 eX O1 B1 HN Hr Hb Sr Dr Vr Hlr
      go_upto_if 37 with fail
      go_cut [10, 11, 12] (fun l h t W => ∃ low high : Nat, l = .int .i64 (low : Int) ∧ h = .int .i64 (high : Int) ∧ Hid (Brk X B low high) ∧ W = w1)
      case first =>
        by_cases h1 : L < n + 1
        · have h1' : (L : Int) < (n : Int) + 1 := by omega
          have K : Hid (Brk X B 0 1) := Brk.short (by rw [← E2.out, ← hB.out]; exact lenD_lt r2 lb D2.out Hzb.out (by rw [hL.out, Hlb.out]; exact h1))
          go_wp2_with fail
          go_meet
          exact ⟨0, 1, rfl, rfl, K, rfl⟩
        · have h1' : ¬ (L : Int) < (n : Int) + 1 := by omega
          by_cases h2 : L = n + 1
          · subst h2
            obtain ⟨b2, o2, rfl, -, hct⟩ := HC2.out n (by omega)
            obtain ⟨T, hT⟩ : ∃ T, Hid (r2.getD n 0 = T) := ⟨_, rfl⟩
            rw [hT.out] at hct
            have hT1 : (T : Int) ≤ 16777215 := by have := D2.out n; rw [hT.out] at this; omega
            have Kb := brk_same r2 lb n T bt D2.out Hdb.out hL.out Hlb.out hT.out hbte.out hbt
            rw [E2.out, hB.out] at Kb
            obtain ⟨ql, hql⟩ : ∃ q : Nat, T / (bt + 1) = q := ⟨_, rfl⟩
            obtain ⟨qh, hqh⟩ : ∃ q : Nat, T / bt = q := ⟨_, rfl⟩
            rw [hql, hqh] at Kb
            have hq1 : (T : Int) / ((bt : Int) + 1) = (ql : Int) := by rw [← hql]; simp
            have hq2 : (T : Int) / (bt : Int) = (qh : Int) := by rw [← hqh]; simp
            have hq3 : (ql : Int) ≤ 281474976710655 := by have := Nat.div_le_self T (bt + 1); omega
            have hq4 : (qh : Int) ≤ 281474976710655 := by have := Nat.div_le_self T bt; omega
            clear hql hqh
            by_cases hcap : qh + 1 ≤ 16777216
            · have hcap' : ¬ (16777216 : Int) < (qh : Int) + 1 := by omega
              have K : Hid (Brk X B ql (qh + 1)) := ⟨Kb.1, Kb.2, hcap⟩
              clear Kb
              go_wp2_with fail
              go_meet
              exact ⟨ql, qh + 1, by go_num, by go_num, K, rfl⟩
            · have hcap' : (16777216 : Int) < (qh : Int) + 1 := by omega
              have K : Hid (Brk X B ql 16777216) := ⟨Kb.1, HXB.out, Nat.le_refl _⟩
              clear Kb
              go_wp2_with fail
              go_meet
              exact ⟨ql, 16777216, by go_num, by go_num, K, rfl⟩
          · have h2' : L = n + 2 := by omega
            subst h2'
            obtain ⟨b2, o2, rfl, -, hct⟩ := HC2.out (n + 1) (by omega)
            obtain ⟨b3, o3, e3, -, hcu⟩ := HC2.out n (by omega)
            simp only [Option.some.injEq, Addr.mk.injEq, and_true] at e3
            rw [← e3.1, ← e3.2] at hcu
            clear e3
            obtain ⟨t1, ht1⟩ : ∃ T, Hid (r2.getD (n + 1) 0 = T) := ⟨_, rfl⟩
            obtain ⟨t0, ht0⟩ : ∃ T, Hid (r2.getD n 0 = T) := ⟨_, rfl⟩
            rw [ht1.out] at hct
            rw [ht0.out] at hcu
            have hb1 : (t1 : Int) ≤ 16777215 := by have := D2.out (n + 1); rw [ht1.out] at this; omega
            have hb0 : (t0 : Int) ≤ 16777215 := by have := D2.out n; rw [ht0.out] at this; omega
            have Kb := brk_long r2 lb n t1 t0 bt D2.out Hdb.out hL.out Hlb.out ht1.out ht0.out hbte.out hbt
            rw [E2.out, hB.out] at Kb
            obtain ⟨T, hT⟩ : ∃ T : Nat, t1 * 16777216 + t0 = T := ⟨_, rfl⟩
            rw [hT] at Kb
            have hTe : (t1 : Int) * 16777216 + (t0 : Int) = (T : Int) := by omega
            have hT1 : (T : Int) ≤ 281474976710655 := by omega
            have hnn : (n : Int) + 1 < (n : Int) + 2 := by omega
            clear hT
            obtain ⟨ql, hql⟩ : ∃ q : Nat, T / (bt + 1) = q := ⟨_, rfl⟩
            obtain ⟨qh, hqh⟩ : ∃ q : Nat, T / bt = q := ⟨_, rfl⟩
            rw [hql, hqh] at Kb
            have hq1 : (T : Int) / ((bt : Int) + 1) = (ql : Int) := by rw [← hql]; simp
            have hq2 : (T : Int) / (bt : Int) = (qh : Int) := by rw [← hqh]; simp
            have hq3 : (ql : Int) ≤ 281474976710655 := by have := Nat.div_le_self T (bt + 1); omega
            have hq4 : (qh : Int) ≤ 281474976710655 := by have := Nat.div_le_self T bt; omega
            clear hql hqh
            by_cases hcap : qh + 1 ≤ 16777216
            · have hcap' : ¬ (16777216 : Int) < (qh : Int) + 1 := by omega
              have K : Hid (Brk X B ql (qh + 1)) := ⟨Kb.1, Kb.2, hcap⟩
              clear Kb
              go_wp2_with fail
              go_meet
              exact ⟨ql, qh + 1, by go_num, by go_num, K, rfl⟩
            · have hcap' : (16777216 : Int) < (qh : Int) + 1 := by omega
              have K : Hid (Brk X B ql 16777216) := ⟨Kb.1, HXB.out, Nat.le_refl _⟩
              clear Kb
              go_wp2_with fail
              go_meet
              exact ⟨ql, 16777216, by go_num, by go_num, K, rfl⟩
      case rest =>
        obtain ⟨low, high, rfl, rfl, K, hwc⟩ := hcut
        rw [hwc]
        clear hwc wc HC2 cbt
        go_wp2_with fail
        go_loopw [10, 11] (fun l h W => ∃ low high : Nat, l = .int .i64 (low : Int) ∧ h = .int .i64 (high : Int) ∧ Hid (Brk X B low high) ∧ Below w1.heap.size w1 W) (fun l h _ => (intOf h - intOf l).toNat)
        case atStart => exact ⟨low, high, rfl, rfl, K, Below.refl _ _⟩
        case round =>
          clear K
          obtain ⟨low, high, rfl, rfl, K, hbi⟩ := hrel
          have Bi : Hid (Below w1.heap.size w1 wr) := hbi
          have hlh := K.out.lt
          have hhi : (high : Int) ≤ 16777216 := by have := K.out.2.2; omega
          have hlo : (low : Int) < (high : Int) := by omega
          have Bw : Hid (Below w.heap.size w wr) := BW.out.trans (hbi.mono BW.out.size)
          clear hbi
          by_cases hgo : low + 1 < high
          · have hgo' : (1 : Int) < (high : Int) - (low : Int) := by omega
            obtain ⟨m, hm⟩ : ∃ m : Nat, ((low : Int) + (high : Int)) / 2 = (m : Int) := ⟨(low + high) / 2, by omega⟩
            have hm1 : low < m ∧ m < high := by omega
            have Hm1 : Hid (low < m ∧ m < high) := hm1
            have hm2 : (m : Int) ≤ 16777216 := by omega
            have hmn : m ≤ 9223372036854775807 := by omega
            have hmm : m ≤ 16777216 := by omega
            clear hm1
            go_wp2_with fail
            refine (small_num B _ m _ (HNb.out.below Bw.out) (n + 1) HBn.out (by omega) hmn).mono ?_
            rintro e w3 ⟨v3, rfl, hN3, g3⟩
            obtain ⟨a3, c3, d3, rfl⟩ := hN3.shape
            have N3 : Hid (Num w3 (.slice a3 c3 d3) (B * m)) := hN3
            have X3 : Hid (Num w3 (.slice p2 L cap2) X) := (NX.out.below Bi.out).below g3
            have G3 : Hid (Below w1.heap.size w1 w3) := Bi.out.trans (g3.mono Bi.out.size)
            clear hN3 g3
            go_wp2_with fail
            refine (cmp_num (B * m) X _ _ _ N3.out X3.out (n + 2) (pow_next n B m HBn.out hmm) (by have := HXB.out; have := pow_next n B 16777216 HBn.out (Nat.le_refl _); omega) (by omega)).mono ?_
            rintro e w4 ⟨rfl, g4⟩
            have G4 : Hid (Below w1.heap.size w1 w4) := G3.out.trans (g4.mono G3.out.size)
            clear g4 G3 N3 X3
            obtain ⟨z, hz⟩ : ∃ z, ord ((B * m : Nat) : Int) (X : Int) = z := ⟨_, rfl⟩
            rw [hz]
            by_cases hc : B * m ≤ X
            · have hz0 : z ≤ 0 := by rw [← hz]; unfold ord; split <;> first | omega | (split <;> omega)
              have K2 : Hid (Brk X B m high) := K.out.up hc
              clear hz hc
              go_wp2_with fail
              go_roundw
              case rel => exact ⟨m, high, rfl, rfl, K2, G4.out⟩
              case measure => have := Hm1.out; simp [intOf]; omega
            · have hz0 : ¬ z ≤ 0 := by rw [← hz, ord_gt (by omega)]; omega
              have K2 : Hid (Brk X B low m) := K.out.down (by omega) (by have := Hm1.out; omega)
              clear hz hc
              go_wp2_with fail
              go_roundw
              case rel => exact ⟨low, m, rfl, rfl, K2, G4.out⟩
              case measure => have := Hm1.out; simp [intOf]; omega
          · have hgo' : ¬ (1 : Int) < (high : Int) - (low : Int) := by omega
            have hdone : Hid (X / B = low) := K.out.done (by omega)
            have Ri : Hid (Row .i64 w.heap.size w.heap.size o wr) := RW.out.below Bi.out
            have co := Ri.out.cell k (by rw [Hol.out]; omega)
            have fo := Ri.out.free k
            have hle : Hid (B * low ≤ X) := by unfold Hid; rw [Nat.mul_comm]; exact K.out.1
            have hlow : low ≤ 16777216 := by omega
            have hlowi : (low : Int) ≤ 16777216 := by omega
            have Xi : Hid (Num wr (.slice p2 L cap2) X) := NX.out.below Bi.out
            have Ni : Hid (Num wr (.slice (some ⟨bb, ob, none⟩) (n + 1) capb) B) := HNb.out.below Bw.out
            have hp2 : p2 = some ⟨g, 0, none⟩ := by
              obtain ⟨_, _, e⟩ := HG.out
              simp only [Value.slice.injEq] at e
              exact e.1
            subst hp2
            obtain ⟨W2, hW2⟩ : ∃ W2, wr.setCell ⟨w.heap.size, k, none⟩ (.int .i64 (low : Int)) = W2 := ⟨_, rfl⟩
            have X2 : Hid (Num W2 (.slice (some ⟨g, 0, none⟩) L cap2) X) := by unfold Hid; rw [← hW2]; exact Xi.out.setCell _ _ _ Hgb.out
            have B2 : Hid (Below w.heap.size w W2) := by unfold Hid; rw [← hW2]; exact Bw.out.setCell (Nat.le_refl _) _
            have R2 : Hid (Row .i64 w.heap.size w.heap.size (o.set k low) W2) := by unfold Hid; rw [← hW2]; exact Ri.out.set k _ (by rw [Hol.out]; omega)
            have Q2 : Hid (QAt la B k (o.set k low) (X - B * low)) := H.out.step (by omega) hx.out hx1 HB0.out hX.out hdone.out
            clear Xi Ni Ri Bw Bi K
            go_wp2_with fail
            clear hW2 co fo
            refine (small_num B _ low _ (HNb.out.below B2.out) (n + 1) HBn.out (by omega) (by omega)).mono ?_
            rintro e w3 ⟨v3, rfl, hN3, g3⟩
            obtain ⟨a3, c3, d3, rfl⟩ := hN3.shape
            have N3 : Hid (Num w3 (.slice a3 c3 d3) (B * low)) := hN3
            have X3 : Hid (Num w3 (.slice (some ⟨g, 0, none⟩) L cap2) X) := X2.out.below g3
            have R3 : Hid (Row .i64 w.heap.size w.heap.size (o.set k low) w3) := R2.out.below g3
            have G3 : Hid (Below w.heap.size w w3) := B2.out.trans (g3.mono B2.out.size)
            clear hN3 g3 X2 R2 B2
            go_wp2_with fail
            refine (sub_num X (B * low) _ _ _ X3.out N3.out (n + 2) (by have := HXB.out; have := pow_next n B 16777216 HBn.out (Nat.le_refl _); omega) (by omega) hle.out).mono ?_
            rintro e w4 ⟨v4, rfl, hN4, g4⟩
            obtain ⟨a4, c4, d4, rfl⟩ := hN4.shape
            have N4 : Hid (Num w4 (.slice a4 c4 d4) (X - B * low)) := hN4
            have R4 : Hid (Row .i64 w.heap.size w.heap.size (o.set k low) w4) := R3.out.below g4
            have G4 : Hid (Below w.heap.size w w4) := G3.out.trans (g4.mono G3.out.size)
            clear hN4 g4 X3 R3 G3 N3
            go_wp2_with fail
            go_roundw
            case rel => exact ⟨k, _, _, by omega, by go_num, N4.out, R4.out, G4.out, Q2⟩
            case measure => simp [intOf]

end Go.Proofs.YtlpmbhneffdcfaaDoor
