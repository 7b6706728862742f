/-
  The contracts of the library's slices.Clone at words and of nat's Trim. Conditions: as each theorem says.
-/
import Derived.Test.YtdlocljnmaeikaaNatB
import Derived.Lib.SliceRun
namespace Go.Proofs.Ytdlocljnmaeikaa
open Go.RowKit
set_option linter.unusedVariables false

/-- The values of words. -/
def wv (l : List Nat) : List Value := l.map fun (d : Nat) => Value.int .u64 (d : Int)
theorem wv_length (l : List Nat) : (wv l).length = l.length := by simp [wv]
theorem wv_get (l : List Nat) (j : Nat) (h : j < l.length) : (wv l)[j]? = some (.int .u64 (l.getD j 0 : Int)) := by
  simp [wv, List.getD_eq_getElem?_getD, h]
theorem ownsW_sk {base : Nat} {w : World} {v : Value} {l : List Nat} (h : w.ownsRow base 37 1 v l.length (wv l)) : SK .u64 w v l := by
  obtain ⟨h1, h2⟩ := h
  rcases h2 with ⟨e, e0⟩ | ⟨g, cap, cur, e, hg, hh, hn, hm, hc, ht⟩
  · have : l = [] := List.eq_nil_of_length_eq_zero e0
    subst this
    rw [e]
    exact SK.nil _ w
  · refine ⟨some ⟨g, 0, none⟩, cap, e, hn, fun h => by simp at h, fun j hj => ⟨g, 0, rfl, ?_, ?_⟩⟩
    · rcases Nat.lt_or_ge g w.heap.size with h' | h'
      · exact h'
      · rw [Array.getElem?_eq_none h'] at hh; cases hh
    · have hj' : j < cur.size := by omega
      have : (cur.toList.take (l.length * 1))[j]? = some (.int .u64 (l.getD j 0 : Int)) := by rw [ht]; exact wv_get l j hj
      rw [List.getElem?_take, if_pos (by omega)] at this
      simp only [World.cell?, hh, Nat.zero_add]
      simpa using this
/-- 'append(fresh, l...)'. -/
theorem wpList_appW {ops : Array Oper} {rest : List Oper} {o : Oper} {a : Act} {Q : Exit → Act → World → Prop} {wr : World} (hgd : o.guard = none) (s x : Operand)
    (ho : o.op = .call { callee := .builtin .append, args := #[s, x], argTypes := #[22, 22] })
    (l : List Nat) (ad : Addr) (cap : Nat) (hs : a.eval s = .slice (some ⟨wr.heap.size, 0, none⟩) 0 0)
    (hx : a.eval x = .slice (some ad) l.length cap) (hm : ∀ j, j < l.length → wr.cell? (ad.add j) = some (.int .u64 (l.getD j 0 : Int)) ∧ ad.block < wr.heap.size) (hlen : l.length ≤ 1000000)
    (h : ∀ v' w', SK .u64 w' v' l → Below wr.heap.size wr w' → wpList Try.prog ops Q rest (a.put o.dst v') w') :
    wpList Try.prog ops Q (o :: rest) a (wr.alloc (.cells #[] 37)) := by
  obtain ⟨i0, hi, hz0, hz1, hz2⟩ := info_parts info_word
  refine wpList_append_own _ hgd s x 22 ho wr.heap.size 37 i0 (.int .u64 0) 1 8 Try.underlying22 hi hz0 hz1 hz2 rfl (by decide) _ 0 [] hs ⟨rfl, Or.inr ⟨wr.heap.size, 0, #[], rfl, Nat.le_refl _, ?_, Nat.le_refl _, by unfold maxLen; omega, rfl, rfl⟩⟩ ad l.length cap (wv l) hx (by simp [wv]) ?_ ?_ ?_ ?_ ?_ ?_
  · show (wr.heap.push _)[wr.heap.size]? = _
    simp
  · intro j u hj
    by_cases hjl : j < l.length
    · rw [wv_get l j hjl] at hj
      rw [← hj]
      obtain ⟨h1, h2⟩ := hm j hjl
      have e : (ad.add j).block = ad.block := by unfold Addr.add; split <;> rfl
      exact (((Below.refl wr.heap.size wr).alloc (Nat.le_refl _) _).cell (p := ad.add j) (by rw [e]; exact h2)).trans h1
    · rw [List.getElem?_eq_none (by rw [wv_length]; omega)] at hj; cases hj
  · intro u hu; simp [wv] at hu; obtain ⟨d, _, rfl⟩ := hu; rfl
  · unfold maxLen; omega
  · omega
  · simp
  · intro v' w' h1 h2 _
    rw [Nat.zero_add, List.nil_append] at h1
    refine h v' w' (ownsW_sk h1) ?_
    refine Below.grown (Below.alloc (Below.refl _ _) (Nat.le_refl _) _) h2 (by simp) ?_
    intro k hk
    simp [Value.ownBlock] at hk
    omega

set_option maxHeartbeats 1000000 in
theorem clone_any (l : List Nat) (v : Value) (w : World) (h : SK .u64 w v l) (hl : l.length ≤ 1000000) :
    Calls Try.prog 44 #[v] w fun e w' => ∃ v', e = .returned v' ∧ SK .u64 w' v' l ∧ Below w.heap.size w w' := by
  obtain ⟨a, cap, rfl, hcap, hnil, hc⟩ := h
  have hq := fun w => Lib.run_eql_slice_nil (P := Try.prog) w 22 37 a l.length cap 0 0 Try.underlying22
  cases a with
  | none =>
    obtain ⟨rfl, rfl⟩ := hnil rfl
    have hq0 : ∀ w, (binOp .eql 22 (.slice none 0 0) (.slice none 0 0)).run Try.prog w = .ok (.bool true) w := fun w => Lib.run_eql_slice_nil (P := Try.prog) w 22 37 none 0 0 0 0 Try.underlying22
    clear hc hnil hq
    show Calls Try.prog 44 #[.slice none 0 0] w _
    go_enter Try.func44, Try.ntmps44
    go_wp2
    go_ret
    exact ⟨_, rfl, SK.nil _ _, Below.refl _ _⟩
  | some ad =>
    have HM : Hid (∀ j, j < l.length → w.cell? (ad.add j) = some (.int .u64 (l.getD j 0 : Int)) ∧ ad.block < w.heap.size) := by
      intro j hj
      obtain ⟨b, o, e, hb, hcell⟩ := hc j hj
      simp only [Option.some.injEq] at e
      subst e
      refine ⟨?_, hb⟩
      unfold Addr.add
      by_cases h0 : j = 0
      · subst h0; simpa using hcell
      · rw [if_neg h0]; exact hcell
    clear hc hnil
    go_enter Try.func44, Try.ntmps44
    go_wp2_with (at_builtin; refine wpList_appW rfl _ _ rfl l ad cap rfl rfl HM.out hl ?_; intro v' w1 h1 g1)
    obtain ⟨ra, rc, rfl⟩ := h1.shape
    go_wp2_with fail
    go_ret
    exact ⟨_, rfl, h1, g1⟩

set_option maxHeartbeats 1000000 in
theorem trimN_any (l : List Nat) (v : Value) (w : World) (h : SK .u64 w v l) (hw : Ww l) (hl : l.length ≤ 1000000) :
    Calls Try.prog 18 #[v] w fun e w' => ∃ v', e = .returned v' ∧ Can w' v' (valW l) ∧ Below w.heap.size w w' := by
  have HS : Hid (SK .u64 w v l) := h
  have Hw : Hid (Ww l) := hw
  obtain ⟨a, c, rfl⟩ := h.shape
  clear h hw
  go_enter Try.func18, Try.ntmps18
  go_wp2_with fail
  refine (clone_any l _ _ HS.out hl).mono ?_
  rintro e w1 ⟨v1, rfl, h1, g1⟩
  obtain ⟨ra, rc, rfl⟩ := h1.shape
  have H1 : Hid (SK .u64 w1 (.slice ra l.length rc) l) := h1
  have G1 : Hid (Below w.heap.size w w1) := g1
  clear h1 g1
  go_wp2_with fail
  refine (cut_any l _ _ H1.out hl Hw.out).mono ?_
  rintro e w2 ⟨v2, rfl, hC, hw2⟩; rw [hw2]; clear hw2 w2
  obtain ⟨sa, sn, sc, rfl⟩ := hC.shape
  have HC : Hid (Can w1 (.slice sa sn sc) (valW l)) := hC
  clear hC
  go_wp2_with fail
  go_ret
  exact ⟨_, rfl, HC.out, G1.out⟩

end Go.Proofs.Ytdlocljnmaeikaa
