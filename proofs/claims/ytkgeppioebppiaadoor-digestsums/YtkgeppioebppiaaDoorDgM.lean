/-
  The chapter's example: the sum of 'abc', reckoned; the contracts of the law's awake and of the document's own Same; what the call owns, beside a hash that is written to. Conditions: as each theorem says.
-/
import Derived.Test.YtkgeppioebppiaaDoorDgL
import Derived.Laws.AppendOwnNone
namespace Go.Proofs.YtkgeppioebppiaaDoor
open Go.RowKit
set_option linter.unusedVariables false
set_option linter.unusedSimpArgs false

theorem abc_sum : sumB [97, 98, 99] = [186, 120, 22, 191, 143, 1, 207, 234, 65, 65, 64, 222, 93, 174, 34, 35, 176, 3, 97, 163, 150, 23, 122, 156, 180, 16, 255, 97, 242, 0, 21, 173] := by decide +kernel

/-- The slice leads to 32 bytes, of which these are four. -/
theorem SK.at {k : IntKind} {w : World} {a : Option Addr} {n c : Nat} {l : List Nat} (h : SK k w (.slice a n c) l) (hn : 0 < n) : ∃ b o, a = some ⟨b, o, none⟩ ∧ b < w.heap.size ∧ n ≤ c ∧ ∀ j, j < n → w.cell? ⟨b, o + j, none⟩ = some (.int k (l.getD j 0 : Int)) := by
  obtain ⟨a', c', h1, h2, h4, h3⟩ := h
  simp only [Value.slice.injEq] at h1
  obtain ⟨rfl, rfl, rfl⟩ := h1
  obtain ⟨b, o, rfl, hb, -⟩ := h3 0 hn
  refine ⟨b, o, rfl, hb, h2, fun j hj => ?_⟩
  obtain ⟨b', o', e, _, h⟩ := h3 j hj
  cases e
  exact h
theorem sk_abc (w : World) (cs : Array Value) (h : cs = #[.int .u8 97, .int .u8 98, .int .u8 99]) : SK .u8 (w.alloc (.cells cs 5)) (.slice (some ⟨w.heap.size, 0, none⟩) 3 3) [97, 98, 99] := by
  have := (Row.newA (k := .u8) w cs [97, 98, 99] 5 (by rw [h]; rfl)).sk
  exact this

set_option maxRecDepth 100000 in
set_option maxHeartbeats 1000000 in
theorem awake5 (w : World) (hg : Gl5 w) :
    Calls Tryd.prog 6 #[] w fun e w' => e = .returned (.bool true) ∧ Below w.heap.size w w' := by
  have kS : Hid (Calls Tryd.prog 8 #[.slice (some ⟨w.heap.size, 0, none⟩) 3 3] (w.alloc (.cells #[.int .u8 97, .int .u8 98, .int .u8 99] 5)) fun e w' => ∃ v', e = .returned v' ∧ SK .u8 w' v' (sumB [97, 98, 99]) ∧ Below w.heap.size w w') :=
    (sum_any [97, 98, 99] (fun j => by match j with | 0 => decide | 1 => decide | 2 => decide | n + 3 => exact (by decide : (0 : Nat) < 256)) (by simp) _ _ (hg.grown ((Below.refl _ _).alloc (Nat.le_refl _) _)) (sk_abc w _ rfl)).mono
      fun e w' ⟨v', h1, h2, h3⟩ => ⟨v', h1, h2, ((Below.refl _ _).alloc (Nat.le_refl _) _).trans (h3.mono (by simp))⟩
  clear hg
  go_enter Tryd.func6, Tryd.ntmps6
  go_wp2_with fail
  refine kS.out.mono ?_
  rintro e w1 ⟨v', rfl, hs, hB⟩
  have HB : Hid (Below w.heap.size w w1) := hB
  obtain ⟨a, c, e⟩ := hs.shape
  rw [abc_sum] at hs
  rw [sumB_length] at e
  subst e
  obtain ⟨b, o, rfl, hb, hc, hcell⟩ := hs.at (by omega)
  have c0 := hcell 0 (by omega)
  have c1 := hcell 1 (by omega)
  have c2 := hcell 2 (by omega)
  have c31 := hcell 31 (by omega)
  have c0' : w1.cell? ⟨b, o, none⟩ = some (.int .u8 186) := c0
  have c1' : w1.cell? ⟨b, o + 1, none⟩ = some (.int .u8 120) := c1
  have c2' : w1.cell? ⟨b, o + 2, none⟩ = some (.int .u8 22) := c2
  have c31' : w1.cell? ⟨b, o + 31, none⟩ = some (.int .u8 173) := c31
  clear hs hB hcell c0 c1 c2 c31 kS
  go_wp2_with fail
  go_ret
  exact ⟨rfl, HB.out⟩

set_option maxHeartbeats 1000000 in
theorem same_sk (l : List Nat) (hlen : l.length ≤ 1000000000) (va vb : Value) (w : World) (ha : SK .u8 w va l) (hb : SK .u8 w vb l) :
    Calls Tryd.prog 7 #[va, vb] w fun e w' => e = .returned (.bool true) ∧ Below w.heap.size w w' := by
  obtain ⟨a1, c1, rfl, hc1, -, k1⟩ := ha
  obtain ⟨a2, c2, rfl, hc2, -, k2⟩ := hb
  have K1 : Hid (∀ j, j < l.length → ∃ b o, a1 = some ⟨b, o, none⟩ ∧ b < w.heap.size ∧ w.cell? ⟨b, o + j, none⟩ = some (.int .u8 (l.getD j 0 : Int))) := k1
  have K2 : Hid (∀ j, j < l.length → ∃ b o, a2 = some ⟨b, o, none⟩ ∧ b < w.heap.size ∧ w.cell? ⟨b, o + j, none⟩ = some (.int .u8 (l.getD j 0 : Int))) := k2
  obtain ⟨n, hn⟩ : ∃ n, l.length = n := ⟨_, rfl⟩
  rw [hn] at hc1 hc2 hlen K1 K2 ⊢
  clear k1 k2
  go_enter Tryd.func7, Tryd.ntmps7
  go_wp2
  go_loopw [5] (fun y wr => ∃ i : Nat, i ≤ n ∧ y = .int .i64 i ∧ Below w.heap.size w wr) (fun y _ => n - (intOf y).toNat)
  case atStart => exact ⟨0, by omega, rfl, Below.refl _ _⟩
  case round =>
    obtain ⟨i, hi, rfl, hbel⟩ := hrel
    have Hb : Hid (Below w.heap.size w wr) := hbel
    by_cases hlt : i < n
    · have hlt' : (i : Int) < n := by omega
      obtain ⟨b1, o1, rfl, l1, d1'⟩ := K1.out i hlt
      obtain ⟨b2, o2, rfl, l2, d2'⟩ := K2.out i hlt
      have d1 := (hbel.cell (p := ⟨b1, o1 + i, none⟩) l1).trans d1'
      have d2 := (hbel.cell (p := ⟨b2, o2 + i, none⟩) l2).trans d2'
      obtain ⟨z, hz⟩ : ∃ z, l.getD i 0 = z := ⟨_, rfl⟩
      rw [hz] at d1 d2
      clear hbel d1' d2' hz
      go_wp2
      go_region
      go_wp2
      go_roundw
      case rel => exact ⟨i + 1, by omega, by go_num, Hb.out.drew⟩
      case measure => simp [intOf]; omega
    · obtain rfl : i = n := by omega
      go_wp2
      go_ret
      exact ⟨rfl, Hb.out⟩

/-- 'append(out, m...)' on the call's own slice, the bytes m lying anywhere, or nowhere. -/
theorem wpList_app8S {ops : Array Oper} {rest : List Oper} {o : Oper} {a : Act} {Q : Exit → Act → World → Prop} {wr : World} (hgd : o.guard = none) (s x : Operand)
    (ho : o.op = .call { callee := .builtin .append, args := #[s, x], argTypes := #[22, 22] })
    (base : Nat) (v : Value) (l m : List Nat) (vx : Value) (hs : a.eval s = v) (hown : Own8 base wr v l)
    (hx : a.eval x = vx) (hS : SK .u8 wr vx m) (hlen : l.length ≤ 1000000) (hlen2 : m.length ≤ 1000000) (hbase : base ≤ wr.heap.size)
    (h : ∀ v' w', Own8 base w' v' (l ++ m) → Below base wr w' → wpList Tryd.prog ops Q rest (a.put o.dst v') w') :
    wpList Tryd.prog ops Q (o :: rest) a wr := by
  obtain ⟨i0, hi, hz0, hz1, hz2⟩ := info_parts info_u8'
  obtain ⟨p, cap, rfl, hcap, hnil, hc⟩ := hS
  cases p with
  | none =>
    obtain ⟨rfl, rfl⟩ := hnil rfl
    refine wpList_append_own_none hgd s x 22 ho base 5 i0 1 Tryd.underlying22 hi v _ _ hs hown hx ?_
    exact h v wr (by rw [List.append_nil]; exact hown) (Below.refl _ _)
  | some p =>
    refine wpList_append_own _ hgd s x 22 ho base 5 i0 (.int .u8 0) 1 1 Tryd.underlying22 hi hz0 hz1 hz2 rfl (by decide) v _ _ hs hown p m.length cap (bv8 m) hx (by simp [bv8]) ?_ ?_ ?_ ?_ ?_ ?_
    · intro j u hj
      by_cases hjl : j < m.length
      · rw [bv8_get m j hjl] at hj
        rw [← hj]
        obtain ⟨b, off, e, -, e3⟩ := hc j hjl
        obtain rfl : p = ⟨b, off, none⟩ := by simpa using e
        rw [Addr.add_mid]; exact e3
      · rw [List.getElem?_eq_none (by rw [bv8_length]; omega)] at hj; cases hj
    · intro u hu; exact bv8_one hu
    · unfold maxLen; omega
    · omega
    · exact hbase
    · intro v' w' h1 h2 _
      refine h v' w' ?_ ?_
      · unfold Own8
        have e : bv8 (l ++ m) = bv8 l ++ bv8 m := by simp [bv8]
        rw [e]
        simpa using h1
      · refine Below.grown (Below.refl _ _) h2 hbase ?_
        intro k hk
        rcases hown.2 with ⟨e, _⟩ | ⟨g, cap, cur, e, hg, _⟩
        · rw [e] at hk; simp [Value.ownBlock] at hk
        · rw [e] at hk; simp [Value.ownBlock] at hk; omega

theorem Own8.oth {base b : Nat} {w W : World} {v : Value} {l : List Nat} (h : Own8 base w v l) (ho : Oth b w W) (hb : b < base) : Own8 base W v l := by
  obtain ⟨h1, h2⟩ := h
  refine ⟨h1, ?_⟩
  rcases h2 with ⟨e, e0⟩ | ⟨g, cap, cur, e, hg, hh, hn, hm, hc, ht⟩
  · exact Or.inl ⟨e, e0⟩
  · have hlt : g < w.heap.size := by
      rcases Nat.lt_or_ge g w.heap.size with h' | h'
      · exact h'
      · rw [Array.getElem?_eq_none h'] at hh; cases hh
    exact Or.inr ⟨g, cap, cur, e, hg, by rw [ho.other g hlt (by omega)]; exact hh, hn, hm, hc, ht⟩
theorem Own8.grown {base : Nat} {w W : World} {v : Value} {l : List Nat} (h : Own8 base w v l) (ho : Below w.heap.size w W) : Own8 base W v l := by
  obtain ⟨h1, h2⟩ := h
  refine ⟨h1, ?_⟩
  rcases h2 with ⟨e, e0⟩ | ⟨g, cap, cur, e, hg, hh, hn, hm, hc, ht⟩
  · exact Or.inl ⟨e, e0⟩
  · have hlt : g < w.heap.size := by
      rcases Nat.lt_or_ge g w.heap.size with h' | h'
      · exact h'
      · rw [Array.getElem?_eq_none h'] at hh; cases hh
    exact Or.inr ⟨g, cap, cur, e, hg, by rw [ho.block g hlt]; exact hh, hn, hm, hc, ht⟩
theorem Own8.off {base b : Nat} {w : World} {v : Value} {l : List Nat} (h : Own8 base w v l) (hb : b < base) : Off b v := by
  obtain ⟨h1, h2⟩ := h
  intro a n c e hn x hx
  rcases h2 with ⟨e', e0⟩ | ⟨g, cap, cur, e', hg, _⟩
  · rw [e'] at e; cases e; cases hx
  · rw [e'] at e
    simp only [Value.slice.injEq] at e
    obtain ⟨rfl, -, -⟩ := e
    cases hx
    show g ≠ b
    omega
theorem HH.under {n : Nat} {W W' : World} {b : Nat} {m : List Nat} (h : HH W b m) (hb : Below n W W') (hn : b < n) : HH W' b m := by
  obtain ⟨r, h1, h2, h3⟩ := h
  refine ⟨r, h1, h2, ?_⟩
  unfold At at h3 ⊢
  rw [hb.block b hn]; exact h3

/-- The slice leads to slices, and these to bytes. -/
def LL (W : World) (v : Value) (ls : List (List Nat)) : Prop :=
  ∃ a cap, v = .slice a ls.length cap ∧ ls.length ≤ cap ∧ ∀ j, j < ls.length → ∃ b o u, a = some ⟨b, o, none⟩ ∧ b < W.heap.size ∧ W.cell? ⟨b, o + j, none⟩ = some u ∧ SK .u8 W u (ls.getD j []) ∧ Bb (ls.getD j [])
end Go.Proofs.YtkgeppioebppiaaDoor
