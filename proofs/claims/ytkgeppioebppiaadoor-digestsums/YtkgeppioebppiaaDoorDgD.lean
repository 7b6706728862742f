/-
  What the digest has gone through so far, in memory; a slice cut, and bytes copied into a part of a block, as laws of the walk. Conditions: as each theorem says.
-/
import Derived.Test.YtkgeppioebppiaaDoorDgC
import Derived.Laws.CopyOwn
namespace Go.Proofs.YtkgeppioebppiaaDoor
open Go.RowKit
set_option linter.unusedVariables false
set_option linter.unusedSimpArgs false

/-- The words behind k blocks of m. -/
def bl (m : List Nat) : Nat → S8
  | 0 => h0
  | k + 1 => tk (bl m k) ((m.drop (64 * k)).take 64)
theorem bl_ok (m : List Nat) : ∀ k, (bl m k).ok
  | 0 => h0_ok
  | k + 1 => tk_ok _ _
theorem bl_app (m p : List Nat) : ∀ k, 64 * k ≤ m.length → bl (m ++ p) k = bl m k
  | 0, _ => rfl
  | k + 1, h => by
    simp only [bl]
    rw [bl_app m p k (by omega), List.drop_append_of_le_length (by omega), List.take_append_of_le_length (by simp; omega)]
theorem Bb.drop {l : List Nat} (h : Bb l) (n : Nat) : Bb (l.drop n) := fun j => by
  have := h (n + j)
  simpa [List.getD_eq_getElem?_getD, List.getElem?_drop] using this
theorem Bb.take {l : List Nat} (h : Bb l) (n : Nat) : Bb (l.take n) := fun j => by
  have := h j
  rw [List.getD_eq_getElem?_getD] at this ⊢
  rw [List.getElem?_take]
  split
  · exact this
  · decide
theorem Bb.app {l m : List Nat} (h : Bb l) (k : Bb m) : Bb (l ++ m) := fun j => by
  have h1 := h j
  have h2 := k (j - l.length)
  rw [List.getD_eq_getElem?_getD] at h1 h2 ⊢
  by_cases hj : j < l.length
  · rw [List.getElem?_append_left hj]; exact h1
  · rw [List.getElem?_append_right (by omega)]; exact h2
theorem Bb.nil : Bb [] := fun j => by simp

/-- A hash's cells: words, bytes that wait, how many came, and that it was made. -/
def hc (s : S8) (r : List Nat) (n : Nat) : List Value := uv s.list ++ (bv8 r ++ [.int .i64 (n : Int), .bool true])
theorem bv8_length (l : List Nat) : (bv8 l).length = l.length := by simp [bv8]
theorem bv8_one {l : List Nat} {v : Value} (h : v ∈ bv8 l) : v.oneCell' = true := by
  simp only [bv8, List.mem_map] at h
  obtain ⟨d, _, rfl⟩ := h
  rfl
theorem hc_length (s : S8) (r : List Nat) (n : Nat) (hr : r.length = 64) : (hc s r n).length = 74 := by simp [hc, uv_length, bv8_length, S8.list_length, hr]
theorem hc_rest (s : S8) (r : List Nat) (n : Nat) (hr : r.length = 64) (j : Nat) (hj : j < 64) : (hc s r n)[8 + j]? = some (.int .u8 (r.getD j 0 : Int)) := by
  unfold hc
  rw [List.getElem?_append_right (by rw [uv_length, S8.list_length]; omega), uv_length, S8.list_length, show 8 + j - 8 = j by omega, List.getElem?_append_left (by rw [bv8_length]; omega), bv8_get r j (by omega)]
theorem hc_len (s : S8) (r : List Nat) (n : Nat) (hr : r.length = 64) : (hc s r n)[72]? = some (.int .i64 (n : Int)) := by
  unfold hc
  rw [List.getElem?_append_right (by rw [uv_length, S8.list_length]; omega), uv_length, S8.list_length, List.getElem?_append_right (by rw [bv8_length]; omega), bv8_length, hr]
  rfl
theorem hc_made (s : S8) (r : List Nat) (n : Nat) (hr : r.length = 64) : (hc s r n)[73]? = some (.bool true) := by
  unfold hc
  rw [List.getElem?_append_right (by rw [uv_length, S8.list_length]; omega), uv_length, S8.list_length, List.getElem?_append_right (by rw [bv8_length]; omega), bv8_length, hr]
  rfl
theorem hc_set_len (s : S8) (r : List Nat) (n n' : Nat) (hr : r.length = 64) : (hc s r n).set 72 (.int .i64 (n' : Int)) = hc s r n' := by
  unfold hc
  rw [List.set_append_right _ _ (by rw [uv_length, S8.list_length]; omega), uv_length, S8.list_length, List.set_append_right _ _ (by rw [bv8_length]; omega), bv8_length, hr]
  rfl
/-- x laid over r from place q on. -/
theorem splice_get (r : List Nat) (q : Nat) (x : List Nat) (h : q + x.length ≤ r.length) (j : Nat) : (splice r q x).getD j 0 = if j < q then r.getD j 0 else if j < q + x.length then x.getD (j - q) 0 else r.getD j 0 := by
  unfold splice
  simp only [List.getD_eq_getElem?_getD]
  by_cases h1 : j < q
  · rw [if_pos h1, List.getElem?_append_left (by simp; omega), List.getElem?_take, if_pos h1]
  · rw [if_neg h1, List.getElem?_append_right (by simp; omega)]
    have e : (r.take q).length = q := by simp; omega
    rw [e]
    by_cases h2 : j < q + x.length
    · rw [if_pos h2, List.getElem?_append_left (by omega)]
    · rw [if_neg h2, List.getElem?_append_right (by omega), List.getElem?_drop, show q + x.length + (j - q - x.length) = j by omega]
theorem hc_splice (s : S8) (r : List Nat) (n q : Nat) (x : List Nat) (hr : r.length = 64) (h : q + x.length ≤ 64) : splice (hc s r n) (8 + q) (bv8 x) = hc s (splice r q x) n := by
  have e1 : (uv s.list).length = 8 := by rw [uv_length, S8.list_length]
  have e2 : (bv8 r).length = 64 := by rw [bv8_length, hr]
  have e3 : bv8 (splice r q x) = splice (bv8 r) q (bv8 x) := by simp [bv8, splice]
  unfold hc
  rw [e3]
  unfold splice
  rw [bv8_length, List.take_append, List.drop_append, e1, show 8 + q - 8 = q by omega, show 8 + q + x.length - 8 = q + x.length by omega]
  rw [List.take_of_length_le (by omega), List.drop_eq_nil_of_le (by omega), List.nil_append, List.take_append_of_le_length (by omega), List.drop_append_of_le_length (by omega)]
  simp only [List.append_assoc]

/-- The hash in block b has gone through the bytes m. -/
def HH (W : World) (b : Nat) (m : List Nat) : Prop := ∃ r : List Nat, r.length = 64 ∧ (∀ j, j < m.length % 64 → r.getD j 0 = m.getD (64 * (m.length / 64) + j) 0) ∧ At 44 W b (hc (bl m (m.length / 64)) r m.length)
theorem HH.lt {W : World} {b : Nat} {m : List Nat} (h : HH W b m) : b < W.heap.size := by obtain ⟨r, _, _, h⟩ := h; exact h.lt
theorem HH.below {W W' : World} {b : Nat} {m : List Nat} (h : HH W b m) (hb : Below W.heap.size W W') : HH W' b m := by
  obtain ⟨r, h1, h2, h3⟩ := h; exact ⟨r, h1, h2, h3.below hb⟩
theorem HH.oth {W W' : World} {b c : Nat} {m : List Nat} (h : HH W c m) (hb : Oth b W W') (hc : c ≠ b) : HH W' c m := by
  obtain ⟨r, h1, h2, h3⟩ := h; exact ⟨r, h1, h2, hb.at h3 hc⟩

/-- The slice, if it has any bytes, does not lie in block b. -/
def Off (b : Nat) (v : Value) : Prop := ∀ a n c, v = .slice a n c → n ≠ 0 → ∀ x : Addr, a = some x → x.block ≠ b
theorem SK.oth {k : IntKind} {b : Nat} {w W : World} {v : Value} {l : List Nat} (h : SK k w v l) (ho : Oth b w W) (hv : Off b v) : SK k W v l := by
  obtain ⟨a, cap, h1, h2, h4, h3⟩ := h
  refine ⟨a, cap, h1, h2, h4, fun j hj => ?_⟩
  obtain ⟨c, o, e1, e2, e3⟩ := h3 j hj
  exact ⟨c, o, e1, Nat.lt_of_lt_of_le e2 ho.size, (ho.cell ⟨c, o + j, none⟩ e2 (hv _ _ _ h1 (by omega) ⟨c, o, none⟩ e1)).trans e3⟩
theorem SK.off {k : IntKind} {w : World} {v : Value} {l : List Nat} (h : SK k w v l) {b : Nat} (hb : w.heap.size ≤ b) : Off b v := by
  intro a n c e hn x hx
  obtain ⟨a', cap, h1, h2, h4, h3⟩ := h
  rw [h1] at e
  simp only [Value.slice.injEq] at e
  obtain ⟨rfl, rfl, rfl⟩ := e
  obtain ⟨c', o, e1, e2, -⟩ := h3 0 (by omega)
  rw [e1] at hx
  cases hx
  show c' ≠ b
  omega
/-- What the cut of a slice is. -/
def cutV (a : Option Addr) (n len cap : Nat) : Value := .slice (if cap = n then a else a.map (·.add n)) (len - n) (cap - n)
theorem SK.cut {k : IntKind} {w : World} {a : Option Addr} {cap n : Nat} {l : List Nat} (h : SK k w (.slice a l.length cap) l) (hn : n ≤ l.length) : SK k w (cutV a n l.length cap) (l.drop n) := by
  obtain ⟨a', c', h1, h2, h4, h3⟩ := h
  simp only [Value.slice.injEq] at h1
  obtain ⟨rfl, -, rfl⟩ := h1
  unfold cutV
  by_cases e : cap = n
  · obtain rfl : n = l.length := by omega
    refine ⟨a, cap - l.length, by rw [if_pos e]; simp, by simp, fun ha => ⟨by simp, by omega⟩, fun j hj => ?_⟩
    simp at hj
  · rw [if_neg e]
    refine ⟨a.map (·.add n), cap - n, by simp, by simp; omega, fun ha => ?_, fun j hj => ?_⟩
    · cases a with
      | none => obtain ⟨rfl, rfl⟩ := h4 rfl; exact ⟨by simp, by simp⟩
      | some x => simp at ha
    · simp at hj
      obtain ⟨c, o, e1, e2, e3⟩ := h3 (n + j) (by omega)
      refine ⟨c, o + n, by rw [e1]; simp [Addr.add], e2, ?_⟩
      rw [Nat.add_assoc, e3]
      simp [List.getD_eq_getElem?_getD, List.getElem?_drop]
theorem Off.cut {b : Nat} {a : Option Addr} {cap n len : Nat} (h : Off b (.slice a len cap)) : Off b (cutV a n len cap) := by
  intro a' n' c' e hn x hx
  unfold cutV at e
  simp only [Value.slice.injEq] at e
  obtain ⟨e1, e2, -⟩ := e
  subst hx
  cases a with
  | none => simp at e1
  | some y =>
    have hy := h _ _ _ rfl (by omega) y rfl
    by_cases hc : cap = n
    · rw [if_pos hc] at e1; simp at e1; subst e1; exact hy
    · rw [if_neg hc] at e1; simp at e1; subst e1
      have : (y.add n).block = y.block := by unfold Addr.add; (repeat' split) <;> simp_all
      rw [this]; exact hy
theorem wpList_cut {ops : Array Oper} {rest : List Oper} {o : Oper} {a : Act} {Q : Exit → Act → World → Prop} {w : World} (hgd : o.guard = none) (x lo : Operand)
    (ho : o.op = .slice 22 x (some lo) none none) (ad : Option Addr) (len cap n : Nat) (hx : a.eval x = .slice ad len cap) (hl : a.eval lo = .int .i64 (n : Int)) (hn : n ≤ len)
    (h : wpList Tryd.prog ops Q rest (a.put o.dst (cutV ad n len cap)) w) : wpList Tryd.prog ops Q (o :: rest) a w := by
  refine wpList_plain hgd fun K hK => ?_
  have hrun : (Instr.sliceAt 22 (.slice ad len cap) (some (.int .i64 (n : Int))) none none).run Tryd.prog w = .ok (cutV ad n len cap) w := by
    have h0 : (0 : Int) ≤ n := by omega
    have h1 : (n : Int) ≤ len := by omega
    simp [cutV, go_sem, h0, h1]
  unfold Oper.wp
  simp [execOp, ho, hx, hl, hrun, Result.andThen]
  exact hK _ _ h
theorem wpList_copyAt {ops : Array Oper} {rest : List Oper} {o : Oper} {a : Act} {Q : Exit → Act → World → Prop} {w : World} (hgd : o.guard = none) (d s : Operand)
    (ho : o.op = .call { callee := .builtin .copy, args := #[d, s], argTypes := #[22, 22] }) (T : TypeId) (b off dLen dCap : Nat) (hd : a.eval d = .slice (some ⟨b, off, none⟩) dLen dCap)
    (v : Value) (p : List Nat) (hs : a.eval s = v) (hp : SK .u8 w v p) (L : List Value) (hA : At T w b L) (hfit : off + dLen ≤ L.length) (n : Nat) (hn : n = min p.length dLen)
    (h : ∀ w', At T w' b (splice L off (bv8 (p.take n))) → Oth b w w' → wpList Tryd.prog ops Q rest (a.put o.dst (.int .i64 (n : Int))) w') : wpList Tryd.prog ops Q (o :: rest) a w := by
  obtain ⟨ad, cap, rfl, hc, hnil, hcell⟩ := hp
  have hsz : (Tryd.prog.info? 5).map (·.size) = some 1 := by kernel_rfl
  by_cases h0 : n = 0
  · subst h0
    refine wpList_copy_nothing hgd d s 22 22 ho 5 Tryd.underlying22 hsz _ _ _ _ _ _ hd hs (by show min _ _ = 0; omega) ?_
    refine h w ?_ (Oth.refl _ _)
    simpa [splice, bv8] using hA
  · obtain ⟨c, o', rfl, hlt, -⟩ := hcell 0 (by omega)
    have hlen : (bv8 (p.take n)).length = n := by rw [bv8_length, List.length_take]; omega
    refine wpList_copy_own hgd d s 22 22 ho 5 Tryd.underlying22 hsz b off dLen dCap ⟨c, o', none⟩ p.length cap hd hs L.toArray T hA (bv8 (p.take n)) (by rw [hlen]; exact hn) ?_ (by rw [hlen]; simp; omega) (fun v hv => bv8_one hv) ?_
    · intro j u hj
      have hj' : j < n := by have := (List.getElem?_eq_some_iff.1 hj).1; rwa [hlen] at this
      obtain ⟨c', o'', e, _, h3⟩ := hcell j (by omega)
      cases e
      rw [bv8_get _ _ (by rw [List.length_take]; omega)] at hj
      rw [Addr.add_mid, h3, ← hj]
      simp [List.getD_eq_getElem?_getD, hj']
    · rw [hlen]
      refine h _ ?_ ?_
      · have := setRow_heap w b L.toArray (splice L off (bv8 (p.take n))).toArray T (0, 0) hA
        unfold At
        rw [← this]
        simp [splice, hlen]
      · exact ⟨rfl, rfl, rfl, by simp [World.setRow], fun k hk hb => setRow_other w b k _ hb⟩
end Go.Proofs.YtkgeppioebppiaaDoor
