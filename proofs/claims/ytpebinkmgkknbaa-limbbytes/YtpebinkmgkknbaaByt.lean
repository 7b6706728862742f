/-
  Slices of 32 bytes, and the contracts of the document's own Same, Turned, ToLittle, ToBig, Big and Little at them. Conditions: as each theorem says.
-/
import Derived.Test.YtpebinkmgkknbaaRefI
import Derived.Test.YtpebinkmgkknbaaLimbBytes
import Derived.Test.YtpebinkmgkknbaaSumsLaw
namespace Go.Proofs.Ytpebinkmgkknbaa
open Go.RowKit
set_option linter.unusedVariables false

/-- The slice v leads to the 32 bytes f 0, f 1, .. -/
def By (W : World) (v : Value) (f : Nat → Int) : Prop :=
  ∃ b off cap, v = .slice (some ⟨b, off, none⟩) 32 cap ∧ b < W.heap.size ∧ ∀ j, j < 32 → W.cell? ⟨b, off + j, none⟩ = some (.int .u8 (f j))
theorem By.below {W W' : World} {v : Value} {f : Nat → Int} (h : By W v f) (hb : Below W.heap.size W W') : By W' v f := by
  obtain ⟨b, off, cap, h1, h2, h3⟩ := h
  exact ⟨b, off, cap, h1, Nat.lt_of_lt_of_le h2 hb.size, fun j hj => (hb.cell (p := ⟨b, off + j, none⟩) h2).trans (h3 j hj)⟩

set_option maxHeartbeats 1000000 in
theorem same_any (f : Nat → Int) (va vb : Value) (w : World) (ha : By w va f) (hb : By w vb f) :
    Calls Try.prog 35 #[va, vb] w fun e w' => e = .returned (.bool true) ∧ Below w.heap.size w w' := by
  obtain ⟨b1, o1, c1, rfl, l1, k1⟩ := ha
  obtain ⟨b2, o2, c2, rfl, l2, k2⟩ := hb
  have K1 : Hid _ := k1
  have K2 : Hid _ := k2
  clear k1 k2
  go_enter Try.func35, Try.ntmps35
  go_wp2
  go_loopw [5] (fun y wr => ∃ i : Nat, i ≤ 32 ∧ y = .int .i64 i ∧ Below w.heap.size w wr) (fun y _ => 32 - (intOf y).toNat)
  case atStart => exact ⟨0, by omega, rfl, Below.refl _ _⟩
  case round =>
    obtain ⟨i, hi, rfl, hbel⟩ := hrel
    have Hb : Hid (Below w.heap.size w wr) := hbel
    by_cases hlt : i < 32
    · have hlt' : (i : Int) < 32 := by omega
      have d1 : wr.cell? ⟨b1, o1 + i, none⟩ = some (.int .u8 (f i)) := (hbel.cell (p := ⟨b1, o1 + i, none⟩) l1).trans (K1.out i hlt)
      have d2 : wr.cell? ⟨b2, o2 + i, none⟩ = some (.int .u8 (f i)) := (hbel.cell (p := ⟨b2, o2 + i, none⟩) l2).trans (K2.out i hlt)
      generalize f i = z at d1 d2
      clear hbel
      go_wp2
      go_region
      go_wp2
      go_roundw
      case rel => exact ⟨i + 1, by omega, by go_num, Hb.out.drew⟩
      case measure => simp [intOf]; omega
    · obtain rfl : i = 32 := by omega
      go_wp2
      go_ret
      exact ⟨rfl, Hb.out⟩

/-- The values of bytes. -/
def bvs (l : List Int) : List Value := l.map fun d => Value.int .u8 d
theorem bvs_get (l : List Int) (j : Nat) (h : j < l.length) : (bvs l)[j]? = some (.int .u8 (l.getD j 0)) := by
  simp [bvs, List.getD_eq_getElem?_getD, h]
/-- The call's own slice, with the bytes l. -/
def OwnB (base : Nat) (w : World) (v : Value) (l : List Int) : Prop := w.ownsRow base 5 1 v l.length (bvs l)
theorem OwnB.nil (base : Nat) (w : World) : OwnB base w (.slice none 0 0) [] := World.ownsRow_nil _ _ _ _
theorem OwnB.by {base : Nat} {w : World} {v : Value} {l : List Int} (h : OwnB base w v l) (hl : l.length = 32) (f : Nat → Int) (hf : ∀ j, j < 32 → l.getD j 0 = f j) : By w v f := by
  obtain ⟨h1, h2⟩ := h
  rcases h2 with ⟨e, e0⟩ | ⟨g, cap, cur, e, hg, hh, hn, hm, hc, ht⟩
  · omega
  · refine ⟨g, 0, cap, by rw [e, hl], ?_, fun j hj => ?_⟩
    · rcases Nat.lt_or_ge g w.heap.size with h' | h'
      · exact h'
      · rw [Array.getElem?_eq_none h'] at hh; cases hh
    · have hj' : j < cur.size := by omega
      have : (cur.toList.take (l.length * 1))[j]? = some (.int .u8 (l.getD j 0)) := by rw [ht]; exact bvs_get l j (by omega)
      rw [List.getElem?_take, if_pos (by omega), hf j hj] at this
      simp only [World.cell?, hh, Nat.zero_add]
      simpa using this
theorem info_u8 : (Try.prog.info? 5).map (fun i => (i.zero, i.size, i.bytes)) = some (some (.int .u8 0), 1, 1) := by kernel_rfl
theorem wpList_appB {ops : Array Oper} {rest : List Oper} {o : Oper} {a : Act} {Q : Exit → Act → World → Prop} {wr : World} (hgd : o.guard = none) (s x : Operand)
    (ho : o.op = .call { callee := .builtin .append, args := #[s, x], argTypes := #[53, 53] })
    (base : Nat) (v : Value) (l : List Int) (d : Int) (hs : a.eval s = v) (hown : OwnB base wr v l)
    (hx : a.eval x = .slice (some ⟨wr.heap.size, 0, none⟩) 1 1) (hlen : l.length ≤ 1000000) (hbase : base ≤ wr.heap.size)
    (h : ∀ v' w', OwnB base w' v' (l ++ [d]) → Below base wr w' → wpList Try.prog ops Q rest (a.put o.dst v') w') :
    wpList Try.prog ops Q (o :: rest) a (wr.alloc (.cells #[.int .u8 d] 5)) := by
  obtain ⟨i0, hi, hz0, hz1, hz2⟩ := info_parts info_u8
  refine wpList_append_own _ hgd s x 53 ho base 5 i0 (.int .u8 0) 1 1 Try.underlying53 hi hz0 hz1 hz2 rfl (by decide) v _ _ hs (World.ownsRow.alloc hown _) ⟨wr.heap.size, 0, none⟩ 1 1 [.int .u8 d] hx rfl ?_ ?_ ?_ ?_ ?_ ?_
  · intro j u hj
    match j, hj with
    | 0, hj => simp at hj; subst hj; simp [Addr.add]
  · intro u hu; simp at hu; subst hu; rfl
  · unfold maxLen; omega
  · omega
  · simp; omega
  · intro v' w' h1 h2 _
    refine h v' w' ?_ ?_
    · unfold OwnB
      have e : bvs (l ++ [d]) = bvs l ++ [.int .u8 d] := by simp [bvs]
      rw [e]
      simpa using h1
    · refine Below.grown (Below.alloc (Below.refl _ _) hbase _) h2 (by simp; omega) ?_
      intro k hk
      rcases hown.2 with ⟨e, _⟩ | ⟨g, cap, cur, e, hg, _⟩
      · rw [e] at hk; simp [Value.ownBlock] at hk
      · rw [e] at hk; simp [Value.ownBlock] at hk; omega
theorem getDI_snoc (l : List Int) (d : Int) (j : Nat) (h : j ≤ l.length) : (l ++ [d]).getD j 0 = if j < l.length then l.getD j 0 else d := by
  simp only [List.getD_eq_getElem?_getD]
  by_cases h' : j < l.length
  · rw [if_pos h', List.getElem?_append_left h']
  · obtain rfl : j = l.length := by omega
    simp

set_option maxHeartbeats 1000000 in
theorem turned_any (f : Nat → Int) (va : Value) (w : World) (ha : By w va f) :
    Calls Try.prog 49 #[va] w fun e w' => ∃ v, e = .returned v ∧ By w' v (fun j => f (31 - j)) ∧ Below w.heap.size w w' := by
  obtain ⟨b1, o1, c1, rfl, l1, k1⟩ := ha
  have K1 : Hid _ := k1
  clear k1
  go_enter Try.func49, Try.ntmps49
  go_wp2
  go_loopw [3, 4] (fun v y wr => ∃ (t : Nat) (o : List Int), t ≤ 32 ∧ o.length = t ∧ y = .int .i64 (31 - (t : Int)) ∧ OwnB w.heap.size wr v o ∧ Below w.heap.size w wr ∧ Hid (∀ j, j < t → o.getD j 0 = f (31 - j))) (fun _ y _ => (intOf y + 1).toNat)
  case atStart => exact ⟨0, [], by omega, rfl, by go_num, OwnB.nil _ _, Below.refl _ _, fun j hj => by omega⟩
  case round =>
    obtain ⟨t, o, ht, hol, rfl, hown, hbel, H⟩ := hrel
    have hsz := hbel.size
    have Hb : Hid (Below w.heap.size w wr) := hbel
    have Ho : Hid (OwnB w.heap.size wr u3 o) := hown
    have hlen : o.length ≤ 1000000 := by omega
    clear hown
    by_cases hlt : t < 32
    · obtain ⟨i, hi⟩ : ∃ i : Nat, 31 - (t : Int) = (i : Int) := ⟨31 - t, by omega⟩
      have hi2 : (i : Int) ≤ 31 := by omega
      have hi3 : 31 - t = i := by omega
      have d1 : wr.cell? ⟨b1, o1 + i, none⟩ = some (.int .u8 (f i)) := (hbel.cell (p := ⟨b1, o1 + i, none⟩) l1).trans (K1.out i (by omega))
      obtain ⟨z, hz⟩ : ∃ z, Hid (f i = z) := ⟨_, rfl⟩
      rw [hz.out] at d1
      rw [hi]
      clear hbel
      have R : Hid (∀ j, j < t + 1 → (o ++ [z]).getD j 0 = f (31 - j)) := by
        intro j hj
        rw [getDI_snoc o z j (by omega)]
        split
        · exact H.out j (by omega)
        · obtain rfl : j = t := by omega
          rw [hi3, hz.out]
      go_wp2_with (at_builtin; refine wpList_appB rfl _ _ rfl w.heap.size u3 o z rfl Ho.out rfl hlen hsz ?_; intro v' w1 hown' hb')
      go_roundw
      case rel => exact ⟨t + 1, _, by omega, by simp [hol], by rw [← hi]; go_num, hown', Hb.out.trans hb', R⟩
      case measure => simp [intOf] <;> omega
    · obtain rfl : t = 32 := by omega
      have R : Hid (By wr u3 (fun j => f (31 - j))) := Ho.out.by hol _ H.out
      obtain ⟨rb, ro, rc, hre, -, -⟩ := R.out
      subst hre
      clear hbel Ho H
      go_wp2
      go_ret
      exact ⟨_, rfl, R.out, Hb.out⟩

end Go.Proofs.Ytpebinkmgkknbaa
