/-
  The contract of the document's own digits: quotient and rest, digit by digit from above, each digit found by halving. Conditions: as each theorem says.
-/
import Derived.Test.YtkbiiolkekpkiaaDoorQuoV
import Derived.Test.YtkbiiolkekpkiaaDoorNumLv
import Derived.Laws.AppendOwnNone
import Derived.Deep.DeepCutAuto
import Derived.Deep.CutBlock
namespace Go.Proofs.YtkbiiolkekpkiaaDoor
open Go.RowKit
set_option linter.unusedVariables false

theorem Own.lit1 (base : Nat) (w : World) (d : Nat) (hb : base ≤ w.heap.size) : Own base (w.alloc (.cells #[.int .i64 (d : Int)] 3)) (.slice (some ⟨w.heap.size, 0, none⟩) 1 1) [d] := by
  refine ⟨by simp [dv], Or.inr ⟨w.heap.size, 1, #[.int .i64 (d : Int)], by simp, hb, ?_, by simp, by unfold maxLen; simp, by simp, by simp [dv]⟩⟩
  show (w.heap.push _)[w.heap.size]? = _
  simp

/-- 'append(out, m...)' on the call's own slice, the digits m lying anywhere, or nowhere. -/
theorem wpList_appS {ops : Array Oper} {rest : List Oper} {o : Oper} {a : Act} {Q : Exit → Act → World → Prop} {wr : World} (hgd : o.guard = none) (s x : Operand)
    (ho : o.op = .call { callee := .builtin .append, args := #[s, x], argTypes := #[33, 33] })
    (base : Nat) (v : Value) (l m : List Nat) (vx : Value) (hs : a.eval s = v) (hown : Own base wr v l)
    (hx : a.eval x = vx) (hS : Sl wr vx m) (hlen : l.length ≤ 1000000) (hlen2 : m.length ≤ 1000000) (hbase : base ≤ wr.heap.size)
    (h : ∀ v' w', Own base w' v' (l ++ m) → Below base wr w' → wpList Tryd.prog ops Q rest (a.put o.dst v') w') :
    wpList Tryd.prog ops Q (o :: rest) a wr := by
  obtain ⟨i0, hi, hz0, hz1, hz2⟩ := info_parts info_int
  obtain ⟨p, cap, rfl, hcap, hnil, hc⟩ := hS
  cases p with
  | none =>
    obtain ⟨rfl, rfl⟩ := hnil rfl
    refine wpList_append_own_none hgd s x 33 ho base 3 i0 1 Tryd.underlying33 hi v _ _ hs hown hx ?_
    exact h v wr (by rw [List.append_nil]; exact hown) (Below.refl _ _)
  | some p =>
    refine wpList_append_own _ hgd s x 33 ho base 3 i0 (.int .i64 0) 1 8 Tryd.underlying33 hi hz0 hz1 hz2 rfl (by decide) v _ _ hs hown p m.length cap (dv m) hx (by simp [dv]) ?_ ?_ ?_ ?_ ?_ ?_
    · intro j u hj
      by_cases hjl : j < m.length
      · rw [dv_get m j hjl] at hj
        rw [← hj]
        obtain ⟨b, off, e, -, e3⟩ := hc j hjl
        obtain rfl : p = ⟨b, off, none⟩ := by simpa using e
        have e : Addr.add ⟨b, off, none⟩ j = ⟨b, off + j, none⟩ := by
          unfold Addr.add
          by_cases h0 : j = 0
          · subst h0; simp
          · simp [h0]
        rw [e]; exact e3
      · rw [List.getElem?_eq_none (by rw [dv_length]; omega)] at hj; cases hj
    · intro u hu; simp [dv] at hu; obtain ⟨d, _, rfl⟩ := hu; rfl
    · unfold maxLen; omega
    · omega
    · exact hbase
    · intro v' w' h1 h2 _
      refine h v' w' ?_ ?_
      · unfold Own
        have e : dv (l ++ m) = dv l ++ dv m := by simp [dv]
        rw [e]
        simpa using h1
      · refine Below.grown (Below.refl _ _) h2 hbase ?_
        intro k hk
        rcases hown.2 with ⟨e, _⟩ | ⟨g, cap, cur, e, hg, _⟩
        · rw [e] at hk; simp [Value.ownBlock] at hk
        · rw [e] at hk; simp [Value.ownBlock] at hk; omega

set_option maxHeartbeats 400000 in
/-- The digits without noughts at the end lie where they lay. -/
theorem trim_at (l : List Nat) (v : Value) (w : World) (h : Sl w v l) (hl : l.length ≤ 1000000) (hd : Dg l) :
    Calls Tryd.prog 71 #[v] w fun e w' => ∃ v', e = .returned v' ∧ Num w v' (valD l) ∧ w' = w ∧ Hid (∃ a m c m' c', v = .slice a m c ∧ v' = .slice a m' c') := by
  obtain ⟨a, cap, rfl, hcap, hnil, hc⟩ := h
  have Hc : Hid _ := hc
  clear hc
  go_enter Tryd.func71, Tryd.ntmps71
  go_wp2
  go_loop [3] (fun x => ∃ n : Nat, n ≤ l.length ∧ x = .int .i64 n ∧ Hid (valD (l.take n) = valD l)) (fun x => (intOf x).toNat)
  case atStart => exact ⟨l.length, Nat.le_refl _, rfl, by unfold Hid; rw [List.take_length]⟩
  case round =>
    obtain ⟨n, hn, rfl, hv⟩ := hrel
    cases n with
    | zero =>
      have hv' : valD l = 0 := by rw [← hv.out]; rfl
      have H : Hid (Num w (.slice a 0 cap) (valD l)) := ⟨[], ⟨a, cap, rfl, Nat.zero_le _, fun h => ⟨rfl, (hnil h).2⟩, fun j hj => by simp at hj⟩, Dg.nil, Or.inl rfl, hv'.symm⟩
      clear hv'
      go_wp2
      go_ret
      exact ⟨_, rfl, H.out, rfl, _, _, rfl⟩
    | succ n =>
      obtain ⟨b, o, rfl, hb, hcell⟩ := Hc.out n (by omega)
      obtain ⟨d, hd'⟩ : ∃ d, Hid (l.getD n 0 = d) := ⟨_, rfl⟩
      rw [hd'.out] at hcell
      have hn' : (n : Int) + 1 ≤ l.length := by omega
      by_cases hz : d = 0
      · subst hz
        go_wp2
        go_round
        case rel =>
          refine ⟨n, by omega, by go_num, ?_⟩
          have := valD_take l n
          rw [hd'.out] at this
          unfold Hid at *
          omega
        case measure => simp [intOf]
      · have hz' : ((d : Int) == 0) = false := by simp [hz]
        have H : Hid (Num w (.slice (some ⟨b, o, none⟩) (n + 1) cap) (valD l)) := by
          have e : (l.take (n + 1)).length = n + 1 := by rw [List.length_take]; omega
          have g : ∀ j, j < n + 1 → (l.take (n + 1)).getD j 0 = l.getD j 0 := fun j hj => by
            simp [List.getD_eq_getElem?_getD, hj]
          refine ⟨l.take (n + 1), ⟨some ⟨b, o, none⟩, cap, by rw [e], by omega, fun h => (by simp at h), fun j hj => ?_⟩, fun j => ?_, Or.inr ?_, hv.out⟩
          · obtain ⟨b', o', e1, e2, e3⟩ := Hc.out j (by omega)
            rw [g j (by omega)]
            exact ⟨b', o', e1, e2, e3⟩
          · by_cases hj : j < n + 1
            · rw [g j hj]; exact hd j
            · rw [List.getD_eq_getElem?_getD, List.getElem?_eq_none (by omega)]; decide
          · rw [e, show n + 1 - 1 = n by omega, g n (by omega), hd'.out]; exact hz
        clear hz
        go_wp2
        go_ret
        exact ⟨_, rfl, H.out, rfl, _, _, rfl⟩

theorem Num.setCell {W : World} {g o n cap N : Nat} (h : Num W (.slice (some ⟨g, o, none⟩) n cap) N) (b i : Nat) (v : Value) (hb : b ≠ g) : Num (W.setCell ⟨b, i, none⟩ v) (.slice (some ⟨g, o, none⟩) n cap) N := by
  obtain ⟨l, ⟨a, c, e, h2, h3, h4⟩, hd, hz, hv⟩ := h
  refine ⟨l, ⟨a, c, e, h2, h3, fun j hj => ?_⟩, hd, hz, hv⟩
  obtain ⟨b', o', e1, e2, e3⟩ := h4 j hj
  refine ⟨b', o', e1, by simpa using e2, ?_⟩
  subst e1
  simp only [Value.slice.injEq, Option.some.injEq, Addr.mk.injEq] at e
  rw [World.cell?_setCell_other _ _ _ _ (fun q => hb ((congrArg Addr.block q).trans e.1.1.symm))]
  exact e3
theorem Own.block {base : Nat} {w : World} {v : Value} {x : Nat} {l : List Nat} (h : Own base w v (x :: l)) : ∃ g n c, v = .slice (some ⟨g, 0, none⟩) n c ∧ base ≤ g := by
  rcases h.2 with ⟨_, e0⟩ | ⟨g, cap, cur, e, hg, _⟩
  · simp at e0
  · exact ⟨g, _, cap, e, hg⟩

theorem pow_next (n : Nat) (B m : Nat) (hB : B < 16777216 ^ (n + 1)) (hm : m ≤ 16777216) : B * m < 16777216 ^ (n + 2) := by
  rw [Nat.pow_succ 16777216 (n + 1)]
  exact Nat.lt_of_le_of_lt (Nat.mul_le_mul_left B hm) (Nat.mul_lt_mul_of_pos_right hB (by omega))

end Go.Proofs.YtkbiiolkekpkiaaDoor

/-
  The contract of the document's own Div: quotient and rest. Conditions: as each theorem says.
-/
namespace Go.Proofs.YtkbiiolkekpkiaaDoor
open Go.RowKit
set_option linter.unusedVariables false

theorem scale_lt (m A f : Nat) (hA : A < 16777216 ^ m) (hf : f ≤ 16777216) : A * f < 16777216 ^ (m + 1) := by
  rw [Nat.pow_succ]
  exact Nat.lt_of_le_of_lt (Nat.mul_le_mul_left A hf) (Nat.mul_lt_mul_of_pos_right hA (by omega))

end Go.Proofs.YtkbiiolkekpkiaaDoor
