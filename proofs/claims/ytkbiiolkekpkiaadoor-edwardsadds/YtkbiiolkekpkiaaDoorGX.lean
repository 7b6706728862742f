/-
  Blocks of memory as lists of cells, what lies beside them, slices cut, bytes copied and appended, pieces, primes counted: laws that speak of no package of the program. Conditions: as each theorem says.
-/
import Derived.Test.YtkbiiolkekpkiaaDoorExt
import Derived.Test.YtkbiiolkekpkiaaDoorRefA
import Derived.Test.YtkbiiolkekpkiaaDoorOct
import Derived.Deep.MidRow
import Derived.Deep.WholeRow
import Derived.Laws.CopyOwn
import Derived.Laws.AppendOwnNone
import Derived.ArgAppend
namespace Go.Proofs.YtkbiiolkekpkiaaDoor
open Go.RowKit
set_option linter.unusedVariables false
set_option linter.unusedSimpArgs false

theorem getD_snoc' (l : List Nat) (d j : Nat) : (l ++ [d]).getD j 0 = if j < l.length then l.getD j 0 else if j = l.length then d else 0 := by
  simp only [List.getD_eq_getElem?_getD]
  by_cases h : j < l.length
  · rw [if_pos h, List.getElem?_append_left h]
  · rw [if_neg h, List.getElem?_append_right (by omega)]
    by_cases e : j = l.length
    · subst e; simp
    · rw [if_neg e]
      rw [List.getElem?_eq_none (by simp; omega)]
      rfl
theorem Row.zeros {k : IntKind} (W : World) (cs : Array Value) (n : Nat) (t : TypeId) (h : cs = Array.replicate n (.int k 0)) : Row k W.heap.size W.heap.size (List.replicate n 0) (W.alloc (.cells cs t)) := by
  subst h
  refine ⟨fun j hj => ?_, fun j => by simp [go_sem], by simp, Nat.le_refl _⟩
  rw [List.length_replicate] at hj
  simp [go_sem, hj, List.getD_eq_getElem?_getD]
theorem body_cut' {P : Program} {fn : Func} {Q : Ending → World → Prop} {x : Exit} {a : Act} {w : World} (F : World → Prop) (h : F w) (k : ∀ w', F w' → bodyPost P fn Q x a w') : bodyPost P fn Q x a w := k w h
theorem below_setCells {B : Nat} {w : World} : ∀ {W : World}, Below B w W → ∀ {b : Nat}, B ≤ b → ∀ (o : Nat) (vs : List Value), Below B w (W.setCells b o vs)
  | W, h, b, hb, o, [] => h
  | W, h, b, hb, o, v :: r => below_setCells (W := W.setCell ⟨b, o, none⟩ v) (h.setCell hb _) hb (o + 1) r
theorem results_mid {P : Program} {fn : Func} {p : Tmp} {ty : TypeId} (h : fn.results = #[.cell p ty]) (tmps : Array Value) (w : World) (b o : Nat) (cs : List Value) (d : TypeDesc)
    (hp : tmps.getD p undef = .pointer (some ⟨b, o, none⟩)) (hc : w.rangeAt b o cs)
    (hu : P.underlying ty = some d) (hd : d.isRow = true) (hi : (P.info? ty).map (·.size) = some cs.length) :
    (results fn tmps).run P w = .ok (.agg cs.toArray) w := by
  have hp' : tmps[p]?.getD undef = .pointer (some ⟨b, o, none⟩) := by simpa using hp
  simp [results, h, hp', asAddr, run_loadVar_mid w b o ty cs d hc hu hd hi]
theorem below_drewN' (W : World) (n : Nat) : Below W.heap.size W (W.drewN n) := ⟨rfl, rfl, rfl, Nat.le_refl _, fun _ _ => rfl⟩
/-- Block b is this row of cells, and may be written. -/
def At (t : TypeId) (W : World) (b : Nat) (L : List Value) : Prop := W.heap[b]? = some (.cells L.toArray t (0, 0))
theorem At.lt {t : TypeId} {W : World} {b : Nat} {L : List Value} (h : At t W b L) : b < W.heap.size := by
  rcases Nat.lt_or_ge b W.heap.size with h' | h'
  · exact h'
  · unfold At at h; rw [Array.getElem?_eq_none h'] at h; cases h
theorem At.cell {t : TypeId} {W : World} {b : Nat} {L : List Value} (h : At t W b L) (j : Nat) : W.cell? ⟨b, j, none⟩ = L[j]? := by
  unfold At at h; simp [World.cell?, h]
theorem At.free {t : TypeId} {W : World} {b : Nat} {L : List Value} (h : At t W b L) (j : Nat) : W.frozen? ⟨b, j, none⟩ = false := by
  unfold At at h; simp [World.frozen?, h]
theorem At.set {t : TypeId} {W : World} {b : Nat} {L : List Value} (h : At t W b L) (j : Nat) (v : Value) : At t (W.setCell ⟨b, j, none⟩ v) b (L.set j v) := by
  have hlt := h.lt
  unfold At at h ⊢
  have hv : W.heap[b] = .cells L.toArray t (0, 0) := by rw [Array.getElem?_eq_getElem hlt] at h; exact Option.some.inj h
  unfold World.setCell
  rw [Array.getElem?_eq_getElem (by simpa using hlt), Array.getElem_modify]
  simp [hv]
theorem At.below {t : TypeId} {W W' : World} {b : Nat} {L : List Value} (h : At t W b L) (hb : Below W.heap.size W W') : At t W' b L := by
  have hlt := h.lt
  unfold At at h ⊢
  rw [hb.block b hlt, h]
theorem At.drew {t : TypeId} {W : World} {b : Nat} {L : List Value} (h : At t W b L) : At t W.drew b L := h
theorem At.drewN {t : TypeId} {W : World} {b : Nat} {L : List Value} (h : At t W b L) (n : Nat) : At t (W.drewN n) b L := h
/-- All but block b is as it was. -/
structure Oth (b : Nat) (w W : World) : Prop where
  os : W.os = w.os
  tape : W.tape = w.tape
  output : W.output = w.output
  size : w.heap.size ≤ W.heap.size
  other : ∀ k, k < w.heap.size → k ≠ b → W.heap[k]? = w.heap[k]?
theorem oth_of {w W : World} (h : Below w.heap.size w W) (b : Nat) : Oth b w W := ⟨h.os, h.tape, h.output, h.size, fun k hk _ => h.block k hk⟩
theorem Oth.refl (b : Nat) (w : World) : Oth b w w := oth_of (Below.refl _ _) b
theorem Oth.trans {b : Nat} {w W V : World} (h : Oth b w W) (k : Oth b W V) : Oth b w V :=
  ⟨k.os.trans h.os, k.tape.trans h.tape, k.output.trans h.output, Nat.le_trans h.size k.size, fun j hj hb => (k.other j (Nat.lt_of_lt_of_le hj h.size) hb).trans (h.other j hj hb)⟩
theorem Oth.drew {b : Nat} {w W : World} (h : Oth b w W) : Oth b w W.drew := ⟨h.os, h.tape, h.output, h.size, h.other⟩
theorem Oth.drewN {b : Nat} {w W : World} (h : Oth b w W) (n : Nat) : Oth b w (W.drewN n) := ⟨h.os, h.tape, h.output, h.size, h.other⟩
theorem Oth.set {b : Nat} {w W : World} (h : Oth b w W) (j : Nat) (v : Value) : Oth b w (W.setCell ⟨b, j, none⟩ v) := by
  refine ⟨h.os, h.tape, h.output, by simpa using h.size, fun k hk hb => ?_⟩
  rw [← h.other k hk hb]
  unfold World.setCell
  simp [Array.getElem?_modify, Ne.symm hb]
theorem Oth.cell {b : Nat} {w W : World} (h : Oth b w W) (p : Addr) (hp : p.block < w.heap.size) (hb : p.block ≠ b) : W.cell? p = w.cell? p := by
  unfold World.cell?; rw [h.other _ hp hb]
theorem Oth.at {t : TypeId} {b c : Nat} {w W : World} {L : List Value} (h : Oth b w W) (ha : At t w c L) (hb : c ≠ b) : At t W c L := by
  have hlt := ha.lt
  unfold At at ha ⊢
  rw [h.other c hlt hb, ha]
/-- The first i of p, then q's. -/
def mixL (p q : List Nat) (i : Nat) : List Nat := p.take i ++ q.drop i
theorem mixL_set (p q : List Nat) (i : Nat) (hp : i < p.length) (hq : p.length = q.length) : (mixL p q i).set i (p.getD i 0) = mixL p q (i + 1) := by
  unfold mixL
  have e : q.drop i = q.getD i 0 :: q.drop (i + 1) := by
    rw [List.drop_eq_getElem_cons (by omega)]
    simp [List.getD_eq_getElem?_getD, show i < q.length by omega]
  rw [e, List.set_append_right _ _ (by simp; omega)]
  simp only [List.length_take, Nat.min_eq_left (Nat.le_of_lt hp), Nat.sub_self, List.set_cons_zero]
  rw [List.take_succ_eq_append_getElem hp, List.append_assoc, List.singleton_append]
  simp [List.getD_eq_getElem?_getD, hp]
theorem mixL_get (p q : List Nat) (i : Nat) (hp : i < p.length) (hq : p.length = q.length) : (mixL p q i).getD i 0 = q.getD i 0 := by
  unfold mixL
  rw [List.getD_eq_getElem?_getD, List.getElem?_append_right (by simp; omega)]
  simp [List.getD_eq_getElem?_getD, Nat.min_eq_left (Nat.le_of_lt hp)]
theorem mixL_length (p q : List Nat) (i : Nat) (hp : i ≤ p.length) (hq : p.length = q.length) : (mixL p q i).length = p.length := by
  unfold mixL; simp; omega
theorem Bb.drop {l : List Nat} (h : Bb l) (n : Nat) : Bb (l.drop n) := fun j => by
  have := h (n + j)
  simpa [List.getD_eq_getElem?_getD, List.getElem?_drop] using this
theorem Bb.take {l : List Nat} (h : Bb l) (n : Nat) : Bb (l.take n) := fun j => by
  have := h j
  rw [List.getD_eq_getElem?_getD] at this ⊢
  rw [List.getElem?_take]
  split
  · exact this
  · decide
theorem Bb.app {l m : List Nat} (h : Bb l) (k : Bb m) : Bb (l ++ m) := fun j => by
  have h1 := h j
  have h2 := k (j - l.length)
  rw [List.getD_eq_getElem?_getD] at h1 h2 ⊢
  by_cases hj : j < l.length
  · rw [List.getElem?_append_left hj]; exact h1
  · rw [List.getElem?_append_right (by omega)]; exact h2
theorem Bb.nil : Bb [] := fun j => by simp

theorem bv8_length (l : List Nat) : (bv8 l).length = l.length := by simp [bv8]
theorem bv8_one {l : List Nat} {v : Value} (h : v ∈ bv8 l) : v.oneCell' = true := by
  simp only [bv8, List.mem_map] at h
  obtain ⟨d, _, rfl⟩ := h
  rfl
/-- x laid over r from place q on. -/
theorem splice_get (r : List Nat) (q : Nat) (x : List Nat) (h : q + x.length ≤ r.length) (j : Nat) : (splice r q x).getD j 0 = if j < q then r.getD j 0 else if j < q + x.length then x.getD (j - q) 0 else r.getD j 0 := by
  unfold splice
  simp only [List.getD_eq_getElem?_getD]
  by_cases h1 : j < q
  · rw [if_pos h1, List.getElem?_append_left (by simp; omega), List.getElem?_take, if_pos h1]
  · rw [if_neg h1, List.getElem?_append_right (by simp; omega)]
    have e : (r.take q).length = q := by simp; omega
    rw [e]
    by_cases h2 : j < q + x.length
    · rw [if_pos h2, List.getElem?_append_left (by omega)]
    · rw [if_neg h2, List.getElem?_append_right (by omega), List.getElem?_drop, show q + x.length + (j - q - x.length) = j by omega]
/-- The slice, if it has any bytes, does not lie in block b. -/
def Off (b : Nat) (v : Value) : Prop := ∀ a n c, v = .slice a n c → n ≠ 0 → ∀ x : Addr, a = some x → x.block ≠ b
theorem SK.oth {k : IntKind} {b : Nat} {w W : World} {v : Value} {l : List Nat} (h : SK k w v l) (ho : Oth b w W) (hv : Off b v) : SK k W v l := by
  obtain ⟨a, cap, h1, h2, h4, h3⟩ := h
  refine ⟨a, cap, h1, h2, h4, fun j hj => ?_⟩
  obtain ⟨c, o, e1, e2, e3⟩ := h3 j hj
  exact ⟨c, o, e1, Nat.lt_of_lt_of_le e2 ho.size, (ho.cell ⟨c, o + j, none⟩ e2 (hv _ _ _ h1 (by omega) ⟨c, o, none⟩ e1)).trans e3⟩
theorem SK.off {k : IntKind} {w : World} {v : Value} {l : List Nat} (h : SK k w v l) {b : Nat} (hb : w.heap.size ≤ b) : Off b v := by
  intro a n c e hn x hx
  obtain ⟨a', cap, h1, h2, h4, h3⟩ := h
  rw [h1] at e
  simp only [Value.slice.injEq] at e
  obtain ⟨rfl, rfl, rfl⟩ := e
  obtain ⟨c', o, e1, e2, -⟩ := h3 0 (by omega)
  rw [e1] at hx
  cases hx
  show c' ≠ b
  omega
/-- What the cut of a slice is. -/
def cutV (a : Option Addr) (n len cap : Nat) : Value := .slice (if cap = n then a else a.map (·.add n)) (len - n) (cap - n)
theorem SK.cut {k : IntKind} {w : World} {a : Option Addr} {cap n : Nat} {l : List Nat} (h : SK k w (.slice a l.length cap) l) (hn : n ≤ l.length) : SK k w (cutV a n l.length cap) (l.drop n) := by
  obtain ⟨a', c', h1, h2, h4, h3⟩ := h
  simp only [Value.slice.injEq] at h1
  obtain ⟨rfl, -, rfl⟩ := h1
  unfold cutV
  by_cases e : cap = n
  · obtain rfl : n = l.length := by omega
    refine ⟨a, cap - l.length, by rw [if_pos e]; simp, by simp, fun ha => ⟨by simp, by omega⟩, fun j hj => ?_⟩
    simp at hj
  · rw [if_neg e]
    refine ⟨a.map (·.add n), cap - n, by simp, by simp; omega, fun ha => ?_, fun j hj => ?_⟩
    · cases a with
      | none => obtain ⟨rfl, rfl⟩ := h4 rfl; exact ⟨by simp, by simp⟩
      | some x => simp at ha
    · simp at hj
      obtain ⟨c, o, e1, e2, e3⟩ := h3 (n + j) (by omega)
      refine ⟨c, o + n, by rw [e1]; simp [Addr.add], e2, ?_⟩
      rw [Nat.add_assoc, e3]
      simp [List.getD_eq_getElem?_getD, List.getElem?_drop]
theorem Off.cut {b : Nat} {a : Option Addr} {cap n len : Nat} (h : Off b (.slice a len cap)) : Off b (cutV a n len cap) := by
  intro a' n' c' e hn x hx
  unfold cutV at e
  simp only [Value.slice.injEq] at e
  obtain ⟨e1, e2, -⟩ := e
  subst hx
  cases a with
  | none => simp at e1
  | some y =>
    have hy := h _ _ _ rfl (by omega) y rfl
    by_cases hc : cap = n
    · rw [if_pos hc] at e1; simp at e1; subst e1; exact hy
    · rw [if_neg hc] at e1; simp at e1; subst e1
      have : (y.add n).block = y.block := by unfold Addr.add; (repeat' split) <;> simp_all
      rw [this]; exact hy
theorem wpList_cut {ops : Array Oper} {rest : List Oper} {o : Oper} {a : Act} {Q : Exit → Act → World → Prop} {w : World} (hgd : o.guard = none) (x lo : Operand)
    (ho : o.op = .slice 22 x (some lo) none none) (ad : Option Addr) (len cap n : Nat) (hx : a.eval x = .slice ad len cap) (hl : a.eval lo = .int .i64 (n : Int)) (hn : n ≤ len)
    (h : wpList Tryd.prog ops Q rest (a.put o.dst (cutV ad n len cap)) w) : wpList Tryd.prog ops Q (o :: rest) a w := by
  refine wpList_plain hgd fun K hK => ?_
  have hrun : (Instr.sliceAt 22 (.slice ad len cap) (some (.int .i64 (n : Int))) none none).run Tryd.prog w = .ok (cutV ad n len cap) w := by
    have h0 : (0 : Int) ≤ n := by omega
    have h1 : (n : Int) ≤ len := by omega
    simp [cutV, go_sem, h0, h1]
  unfold Oper.wp
  simp [execOp, ho, hx, hl, hrun, Result.andThen]
  exact hK _ _ h
theorem wpList_copyAt {ops : Array Oper} {rest : List Oper} {o : Oper} {a : Act} {Q : Exit → Act → World → Prop} {w : World} (hgd : o.guard = none) (d s : Operand)
    (ho : o.op = .call { callee := .builtin .copy, args := #[d, s], argTypes := #[22, 22] }) (T : TypeId) (b off dLen dCap : Nat) (hd : a.eval d = .slice (some ⟨b, off, none⟩) dLen dCap)
    (v : Value) (p : List Nat) (hs : a.eval s = v) (hp : SK .u8 w v p) (L : List Value) (hA : At T w b L) (hfit : off + dLen ≤ L.length) (n : Nat) (hn : n = min p.length dLen)
    (h : ∀ w', At T w' b (splice L off (bv8 (p.take n))) → Oth b w w' → wpList Tryd.prog ops Q rest (a.put o.dst (.int .i64 (n : Int))) w') : wpList Tryd.prog ops Q (o :: rest) a w := by
  obtain ⟨ad, cap, rfl, hc, hnil, hcell⟩ := hp
  have hsz : (Tryd.prog.info? 5).map (·.size) = some 1 := by kernel_rfl
  by_cases h0 : n = 0
  · subst h0
    refine wpList_copy_nothing hgd d s 22 22 ho 5 Tryd.underlying22 hsz _ _ _ _ _ _ hd hs (by show min _ _ = 0; omega) ?_
    refine h w ?_ (Oth.refl _ _)
    simpa [splice, bv8] using hA
  · obtain ⟨c, o', rfl, hlt, -⟩ := hcell 0 (by omega)
    have hlen : (bv8 (p.take n)).length = n := by rw [bv8_length, List.length_take]; omega
    refine wpList_copy_own hgd d s 22 22 ho 5 Tryd.underlying22 hsz b off dLen dCap ⟨c, o', none⟩ p.length cap hd hs L.toArray T hA (bv8 (p.take n)) (by rw [hlen]; exact hn) ?_ (by rw [hlen]; simp; omega) (fun v hv => bv8_one hv) ?_
    · intro j u hj
      have hj' : j < n := by have := (List.getElem?_eq_some_iff.1 hj).1; rwa [hlen] at this
      obtain ⟨c', o'', e, _, h3⟩ := hcell j (by omega)
      cases e
      rw [bv8_get _ _ (by rw [List.length_take]; omega)] at hj
      rw [Addr.add_mid, h3, ← hj]
      simp [List.getD_eq_getElem?_getD, hj']
    · rw [hlen]
      refine h _ ?_ ?_
      · have := setRow_heap w b L.toArray (splice L off (bv8 (p.take n))).toArray T (0, 0) hA
        unfold At
        rw [← this]
        simp [splice, hlen]
      · exact ⟨rfl, rfl, rfl, by simp [World.setRow], fun k hk hb => setRow_other w b k _ hb⟩
theorem wpList_app8s {ops : Array Oper} {rest : List Oper} {o : Oper} {a : Act} {Q : Exit → Act → World → Prop} {wr : World} (hgd : o.guard = none) (s x : Operand)
    (ho : o.op = .call { callee := .builtin .append, args := #[s, x], argTypes := #[22, 22] })
    (base : Nat) (v : Value) (l : List Nat) (d : List Nat) (k : Nat) (zs : Array Value) (hz : zs = (bv8 d).toArray) (hk : d.length = k) (hs : a.eval s = v) (hown : Own8 base wr v l)
    (hx : a.eval x = .slice (some ⟨wr.heap.size, 0, none⟩) k k) (hlen : l.length + k ≤ 1000000) (hbase : base ≤ wr.heap.size)
    (h : ∀ v' w', Own8 base w' v' (l ++ d) → Below base wr w' → wpList Tryd.prog ops Q rest (a.put o.dst v') w') :
    wpList Tryd.prog ops Q (o :: rest) a (wr.alloc (.cells zs 5)) := by
  subst hz
  subst hk
  obtain ⟨i0, hi, hz0, hz1, hz2⟩ := info_parts info_u8'
  refine wpList_append_own _ hgd s x 22 ho base 5 i0 (.int .u8 0) 1 1 Tryd.underlying22 hi hz0 hz1 hz2 rfl (by decide) v _ _ hs (World.ownsRow.alloc hown _) ⟨wr.heap.size, 0, none⟩ d.length d.length (bv8 d) hx (by rw [bv8_length]; omega) ?_ ?_ ?_ ?_ ?_ ?_
  · intro j u hj
    rw [Addr.add_mid]
    simpa using hj
  · intro u hu; exact bv8_one hu
  · unfold maxLen; omega
  · omega
  · simp; omega
  · intro v' w' h1 h2 _
    refine h v' w' ?_ ?_
    · unfold Own8
      have e : bv8 (l ++ d) = bv8 l ++ bv8 d := by simp [bv8]
      rw [e]
      simpa using h1
    · refine Below.grown (Below.alloc (Below.refl _ _) hbase _) h2 (by simp; omega) ?_
      intro k hk
      rcases hown.2 with ⟨e, _⟩ | ⟨g, cap, cur, e, hg, _⟩
      · rw [e] at hk; simp [Value.ownBlock] at hk
      · rw [e] at hk; simp [Value.ownBlock] at hk; omega

/-- How long a slice is. -/
def lenOf : Value → Nat
  | .slice _ n _ => n
  | _ => 0
theorem SK.cap {k : IntKind} {w : World} {a : Option Addr} {n c : Nat} {l : List Nat} (h : SK k w (.slice a n c) l) : n ≤ c ∧ (a = none → c = 0) := by
  obtain ⟨a', c', h1, h2, h4, h3⟩ := h
  simp only [Value.slice.injEq] at h1
  obtain ⟨rfl, rfl, rfl⟩ := h1
  exact ⟨h2, fun e => (h4 e).2⟩
theorem Off.any {b n c n' c' : Nat} {a : Option Addr} (h : Off b (.slice a n c)) (hn : n ≠ 0) : Off b (.slice a n' c') := by
  intro a' m d e _ x hx
  simp only [Value.slice.injEq] at e
  obtain ⟨rfl, -, -⟩ := e
  exact h _ _ _ rfl hn x hx
theorem beB_bb (N n : Nat) : Bb (beB N n) := fun j => by
  by_cases h : j < n
  · rw [beB_get N n j h]; omega
  · rw [List.getD_eq_getElem?_getD, List.getElem?_eq_none (by rw [beB_length]; omega)]; decide
theorem Row.newA {k : IntKind} (W : World) (cs : Array Value) (l : List Nat) (t : TypeId) (h : cs = (l.map fun (d : Nat) => Value.int k (d : Int)).toArray) : Row k W.heap.size W.heap.size l (W.alloc (.cells cs t)) := by
  subst h
  refine ⟨fun j hj => ?_, fun j => by simp [go_sem], by simp, Nat.le_refl _⟩
  simp [go_sem, List.getD_eq_getElem?_getD, hj]

theorem wpList_build {ops : Array Oper} {rest : List Oper} {o : Oper} {a : Act} {Q : Exit → Act → World → Prop} {w : World} (hgd : o.guard = none) (t : TypeId) (ps : Array (Nat × Operand)) (ho : o.op = .build t ps)
    (v : Value) (qs : Array (Nat × Value)) (hq : ps.map (fun x => (x.1, a.eval x.2)) = qs) (hrun : ∀ w, (Instr.build t qs).run Tryd.prog w = .ok v w) (h : wpList Tryd.prog ops Q rest (a.put o.dst v) w) : wpList Tryd.prog ops Q (o :: rest) a w := by
  refine wpList_plain hgd fun K hK => ?_
  unfold Oper.wp
  simp [execOp, ho, hq, hrun, Result.andThen]
  exact hK _ _ h
theorem Oth.bel {b : Nat} {w W V : World} (h : Below w.heap.size w W) (k : Oth b W V) (hb : w.heap.size ≤ b) : Below w.heap.size w V :=
  ⟨k.os.trans h.os, k.tape.trans h.tape, k.output.trans h.output, Nat.le_trans h.size k.size, fun j hj => (k.other j (Nat.lt_of_lt_of_le hj h.size) (by omega)).trans (h.block j hj)⟩
theorem at_new (T : TypeId) (w : World) (L : List Value) : At T (w.alloc (.cells L.toArray T)) w.heap.size L := by
  unfold At; show (w.heap.push _)[w.heap.size]? = _; simp
theorem At.there {T : TypeId} {W : World} {b : Nat} {L : List Value} (h : At T W b L) {n : Nat} (hn : n ≤ L.length) : W.there b 0 n := by
  intro j hj
  rw [Nat.zero_add, h.cell j, List.getElem?_eq_getElem (by omega)]
  exact ⟨rfl, h.free j⟩
theorem At.sets {T : TypeId} {b : Nat} : ∀ (vs : List Value) {W : World} {L : List Value} (o : Nat), At T W b L → ∃ L', L'.length = L.length ∧ At T (W.setCells b o vs) b L'
  | [], W, L, o, h => ⟨L, rfl, h⟩
  | v :: r, W, L, o, h => by
    obtain ⟨L', h1, h2⟩ := At.sets r (o + 1) (h.set o v)
    exact ⟨L', by rw [h1, List.length_set], h2⟩
theorem At.filled {T : TypeId} {W : World} {b : Nat} {L : List Value} (h : At T W b L) (cs : List Value) (hl : cs.length = L.length) : At T (W.setCells b 0 cs) b cs := by
  obtain ⟨L', h1, h2⟩ := At.sets cs 0 h
  have h3 : (W.setCells b 0 cs).rangeAt b 0 cs := World.rangeAt_setCells_same _ _ _ _ (h.there (by omega))
  have : L' = cs := by
    apply List.ext_getElem?
    intro j
    by_cases hj : j < cs.length
    · have := h3 j cs[j] (List.getElem?_eq_getElem hj)
      rw [Nat.zero_add, h2.cell j] at this
      rw [this, List.getElem?_eq_getElem hj]
    · rw [List.getElem?_eq_none (by omega), List.getElem?_eq_none (by omega)]
  rw [this] at h2
  exact h2
theorem At.range {T : TypeId} {W : World} {b : Nat} {L : List Value} (h : At T W b L) : W.rangeAt b 0 L := by
  intro j v hj
  rw [Nat.zero_add, h.cell j, hj]

/-- The slice leads to 32 bytes, of which these are four. -/
theorem SK.at {k : IntKind} {w : World} {a : Option Addr} {n c : Nat} {l : List Nat} (h : SK k w (.slice a n c) l) (hn : 0 < n) : ∃ b o, a = some ⟨b, o, none⟩ ∧ b < w.heap.size ∧ n ≤ c ∧ ∀ j, j < n → w.cell? ⟨b, o + j, none⟩ = some (.int k (l.getD j 0 : Int)) := by
  obtain ⟨a', c', h1, h2, h4, h3⟩ := h
  simp only [Value.slice.injEq] at h1
  obtain ⟨rfl, rfl, rfl⟩ := h1
  obtain ⟨b, o, rfl, hb, -⟩ := h3 0 hn
  refine ⟨b, o, rfl, hb, h2, fun j hj => ?_⟩
  obtain ⟨b', o', e, _, h⟩ := h3 j hj
  cases e
  exact h
theorem sk_abc (w : World) (cs : Array Value) (h : cs = #[.int .u8 97, .int .u8 98, .int .u8 99]) : SK .u8 (w.alloc (.cells cs 5)) (.slice (some ⟨w.heap.size, 0, none⟩) 3 3) [97, 98, 99] := by
  have := (Row.newA (k := .u8) w cs [97, 98, 99] 5 (by rw [h]; rfl)).sk
  exact this

set_option maxHeartbeats 1000000 in
theorem same_sk (l : List Nat) (hlen : l.length ≤ 1000000000) (va vb : Value) (w : World) (ha : SK .u8 w va l) (hb : SK .u8 w vb l) :
    Calls Tryd.prog 13 #[va, vb] w fun e w' => e = .returned (.bool true) ∧ Below w.heap.size w w' := by
  obtain ⟨a1, c1, rfl, hc1, -, k1⟩ := ha
  obtain ⟨a2, c2, rfl, hc2, -, k2⟩ := hb
  have K1 : Hid (∀ j, j < l.length → ∃ b o, a1 = some ⟨b, o, none⟩ ∧ b < w.heap.size ∧ w.cell? ⟨b, o + j, none⟩ = some (.int .u8 (l.getD j 0 : Int))) := k1
  have K2 : Hid (∀ j, j < l.length → ∃ b o, a2 = some ⟨b, o, none⟩ ∧ b < w.heap.size ∧ w.cell? ⟨b, o + j, none⟩ = some (.int .u8 (l.getD j 0 : Int))) := k2
  obtain ⟨n, hn⟩ : ∃ n, l.length = n := ⟨_, rfl⟩
  rw [hn] at hc1 hc2 hlen K1 K2 ⊢
  clear k1 k2
  go_enter Tryd.func13, Tryd.ntmps13
  go_wp2
  go_loopw [5] (fun y wr => ∃ i : Nat, i ≤ n ∧ y = .int .i64 i ∧ Below w.heap.size w wr) (fun y _ => n - (intOf y).toNat)
  case atStart => exact ⟨0, by omega, rfl, Below.refl _ _⟩
  case round =>
    obtain ⟨i, hi, rfl, hbel⟩ := hrel
    have Hb : Hid (Below w.heap.size w wr) := hbel
    by_cases hlt : i < n
    · have hlt' : (i : Int) < n := by omega
      obtain ⟨b1, o1, rfl, l1, d1'⟩ := K1.out i hlt
      obtain ⟨b2, o2, rfl, l2, d2'⟩ := K2.out i hlt
      have d1 := (hbel.cell (p := ⟨b1, o1 + i, none⟩) l1).trans d1'
      have d2 := (hbel.cell (p := ⟨b2, o2 + i, none⟩) l2).trans d2'
      obtain ⟨z, hz⟩ : ∃ z, l.getD i 0 = z := ⟨_, rfl⟩
      rw [hz] at d1 d2
      clear hbel d1' d2' hz
      go_wp2
      go_region
      go_wp2
      go_roundw
      case rel => exact ⟨i + 1, by omega, by go_num, Hb.out.drew⟩
      case measure => simp [intOf]; omega
    · obtain rfl : i = n := by omega
      go_wp2
      go_ret
      exact ⟨rfl, Hb.out⟩

/-- 'append(out, m...)' on the call's own slice, the bytes m lying anywhere, or nowhere. -/
theorem wpList_app8S {ops : Array Oper} {rest : List Oper} {o : Oper} {a : Act} {Q : Exit → Act → World → Prop} {wr : World} (hgd : o.guard = none) (s x : Operand)
    (ho : o.op = .call { callee := .builtin .append, args := #[s, x], argTypes := #[22, 22] })
    (base : Nat) (v : Value) (l m : List Nat) (vx : Value) (hs : a.eval s = v) (hown : Own8 base wr v l)
    (hx : a.eval x = vx) (hS : SK .u8 wr vx m) (hlen : l.length ≤ 1000000) (hlen2 : m.length ≤ 1000000) (hbase : base ≤ wr.heap.size)
    (h : ∀ v' w', Own8 base w' v' (l ++ m) → Below base wr w' → wpList Tryd.prog ops Q rest (a.put o.dst v') w') :
    wpList Tryd.prog ops Q (o :: rest) a wr := by
  obtain ⟨i0, hi, hz0, hz1, hz2⟩ := info_parts info_u8'
  obtain ⟨p, cap, rfl, hcap, hnil, hc⟩ := hS
  cases p with
  | none =>
    obtain ⟨rfl, rfl⟩ := hnil rfl
    refine wpList_append_own_none hgd s x 22 ho base 5 i0 1 Tryd.underlying22 hi v _ _ hs hown hx ?_
    exact h v wr (by rw [List.append_nil]; exact hown) (Below.refl _ _)
  | some p =>
    refine wpList_append_own _ hgd s x 22 ho base 5 i0 (.int .u8 0) 1 1 Tryd.underlying22 hi hz0 hz1 hz2 rfl (by decide) v _ _ hs hown p m.length cap (bv8 m) hx (by simp [bv8]) ?_ ?_ ?_ ?_ ?_ ?_
    · intro j u hj
      by_cases hjl : j < m.length
      · rw [bv8_get m j hjl] at hj
        rw [← hj]
        obtain ⟨b, off, e, -, e3⟩ := hc j hjl
        obtain rfl : p = ⟨b, off, none⟩ := by simpa using e
        rw [Addr.add_mid]; exact e3
      · rw [List.getElem?_eq_none (by rw [bv8_length]; omega)] at hj; cases hj
    · intro u hu; exact bv8_one hu
    · unfold maxLen; omega
    · omega
    · exact hbase
    · intro v' w' h1 h2 _
      refine h v' w' ?_ ?_
      · unfold Own8
        have e : bv8 (l ++ m) = bv8 l ++ bv8 m := by simp [bv8]
        rw [e]
        simpa using h1
      · refine Below.grown (Below.refl _ _) h2 hbase ?_
        intro k hk
        rcases hown.2 with ⟨e, _⟩ | ⟨g, cap, cur, e, hg, _⟩
        · rw [e] at hk; simp [Value.ownBlock] at hk
        · rw [e] at hk; simp [Value.ownBlock] at hk; omega

theorem Own8.oth {base b : Nat} {w W : World} {v : Value} {l : List Nat} (h : Own8 base w v l) (ho : Oth b w W) (hb : b < base) : Own8 base W v l := by
  obtain ⟨h1, h2⟩ := h
  refine ⟨h1, ?_⟩
  rcases h2 with ⟨e, e0⟩ | ⟨g, cap, cur, e, hg, hh, hn, hm, hc, ht⟩
  · exact Or.inl ⟨e, e0⟩
  · have hlt : g < w.heap.size := by
      rcases Nat.lt_or_ge g w.heap.size with h' | h'
      · exact h'
      · rw [Array.getElem?_eq_none h'] at hh; cases hh
    exact Or.inr ⟨g, cap, cur, e, hg, by rw [ho.other g hlt (by omega)]; exact hh, hn, hm, hc, ht⟩
theorem Own8.grown {base : Nat} {w W : World} {v : Value} {l : List Nat} (h : Own8 base w v l) (ho : Below w.heap.size w W) : Own8 base W v l := by
  obtain ⟨h1, h2⟩ := h
  refine ⟨h1, ?_⟩
  rcases h2 with ⟨e, e0⟩ | ⟨g, cap, cur, e, hg, hh, hn, hm, hc, ht⟩
  · exact Or.inl ⟨e, e0⟩
  · have hlt : g < w.heap.size := by
      rcases Nat.lt_or_ge g w.heap.size with h' | h'
      · exact h'
      · rw [Array.getElem?_eq_none h'] at hh; cases hh
    exact Or.inr ⟨g, cap, cur, e, hg, by rw [ho.block g hlt]; exact hh, hn, hm, hc, ht⟩
theorem Own8.off {base b : Nat} {w : World} {v : Value} {l : List Nat} (h : Own8 base w v l) (hb : b < base) : Off b v := by
  obtain ⟨h1, h2⟩ := h
  intro a n c e hn x hx
  rcases h2 with ⟨e', e0⟩ | ⟨g, cap, cur, e', hg, _⟩
  · rw [e'] at e; cases e; cases hx
  · rw [e'] at e
    simp only [Value.slice.injEq] at e
    obtain ⟨rfl, -, -⟩ := e
    cases hx
    show g ≠ b
    omega
theorem Own8.wider {base base' : Nat} {w : World} {v : Value} {l : List Nat} (h : Own8 base w v l) (hb : base' ≤ base) : Own8 base' w v l := by
  obtain ⟨h1, h2⟩ := h
  refine ⟨h1, ?_⟩
  rcases h2 with ⟨e, e0⟩ | ⟨g, cap, cur, e, hg, hh, hn, hm, hc, ht⟩
  · exact Or.inl ⟨e, e0⟩
  · exact Or.inr ⟨g, cap, cur, e, Nat.le_trans hb hg, hh, hn, hm, hc, ht⟩
/-- The slice leads to slices, and these to bytes. -/
def LL (W : World) (v : Value) (ls : List (List Nat)) : Prop :=
  ∃ a cap, v = .slice a ls.length cap ∧ ls.length ≤ cap ∧ ∀ j, j < ls.length → ∃ b o u, a = some ⟨b, o, none⟩ ∧ b < W.heap.size ∧ W.cell? ⟨b, o + j, none⟩ = some u ∧ SK .u8 W u (ls.getD j []) ∧ Bb (ls.getD j [])
/-- The slice leads to these words; where they lie. -/
theorem SK.words {k : IntKind} {w : World} {v : Value} {l : List Nat} {n : Nat} (h : SK k w v l) (hn : l.length = n) (h0 : 0 < n) : ∃ b o c, v = .slice (some ⟨b, o, none⟩) n c ∧ b < w.heap.size ∧ n ≤ c ∧ ∀ j, j < n → w.cell? ⟨b, o + j, none⟩ = some (.int k (l.getD j 0 : Int)) := by
  obtain ⟨a, c, e⟩ := h.shape
  subst e
  rw [hn] at h ⊢
  obtain ⟨b, o, rfl, hb, hc, hcell⟩ := h.at h0
  exact ⟨b, o, c, rfl, hb, hc, hcell⟩
theorem cells_ext {k : IntKind} {w : World} {b o n : Nat} {l : List Nat} (hb : b < w.heap.size) (h : ∀ j, j < n → w.cell? ⟨b, o + j, none⟩ = some (.int k (l.getD j 0 : Int))) (j : Nat) (hj : j < n) (m : World) : (ext w m).cell? ⟨b, o + j, none⟩ = some (.int k (l.getD j 0 : Int)) :=
  ((ext_below w m).cell (p := ⟨b, o + j, none⟩) hb).trans (h j hj)
theorem take_more (L : List Nat) (i : Nat) (h : i < L.length) : L.take (i + 1) = L.take i ++ [L.getD i 0] := by
  rw [List.take_succ_eq_append_getElem h]
  simp [List.getD_eq_getElem?_getD, h]
theorem SK.cells {k : IntKind} {w : World} {b o c n : Nat} {l : List Nat} (h : SK k w (.slice (some ⟨b, o, none⟩) n c) l) (hn : l.length = n) (h0 : 0 < n) : ∀ j, j < n → w.cell? ⟨b, o + j, none⟩ = some (.int k (l.getD j 0 : Int)) := by
  obtain ⟨b', o', e, _, _, hc⟩ := h.at h0
  cases e
  exact hc
theorem SK.blk {k : IntKind} {w : World} {b o c n : Nat} {l : List Nat} (h : SK k w (.slice (some ⟨b, o, none⟩) n c) l) (hn : l.length = n) (h0 : 0 < n) : b < w.heap.size := by
  obtain ⟨b', o', e, hb, _⟩ := h.at h0
  cases e
  exact hb

/-- The first j pieces, one behind the other. -/
def cat (ls : List (List Nat)) : Nat → List Nat
  | 0 => []
  | j + 1 => cat ls j ++ ls.getD j []
theorem cat_bb (ls : List (List Nat)) (h : ∀ j, j < ls.length → Bb (ls.getD j [])) : ∀ j, j ≤ ls.length → Bb (cat ls j)
  | 0, _ => Bb.nil
  | j + 1, hj => (cat_bb ls h j (by omega)).app (h j (by omega))

/-- No number from 2 on, below i, divides p. -/
def np (p : Nat) : Nat → Bool
  | 0 => true
  | i + 1 => if i < 2 then true else np p i && p % i != 0
/-- How many primes there are from 3 up to k + 2. -/
def ct : Nat → Nat
  | 0 => 0
  | k + 1 => ct k + if np (k + 3) (k + 3) then 1 else 0
theorem ct_le : ∀ k d, ct k ≤ ct (k + d)
  | k, 0 => Nat.le_refl _
  | k, d + 1 => Nat.le_trans (ct_le k d) (by show ct (k + d) ≤ ct (k + d) + _; omega)

/-- 'append(b, x)' where there is room: the byte goes into the slice's own block. -/
theorem wpList_app8room {ops : Array Oper} {rest : List Oper} {o : Oper} {a : Act} {Q : Exit → Act → World → Prop} {wr : World} (hgd : o.guard = none) (s x : Operand)
    (ho : o.op = .call { callee := .builtin .append, args := #[s, x], argTypes := #[22, 22] })
    (T : TypeId) (b n cap : Nat) (L : List Value) (d : Nat) (z : Int) (hz : z = (d : Int)) (hs : a.eval s = .slice (some ⟨b, 0, none⟩) n cap) (hA : At T wr b L)
    (hx : a.eval x = .slice (some ⟨wr.heap.size, 0, none⟩) 1 1) (hcap : n + 1 ≤ cap) (hL : n < L.length)
    (h : ∀ w', At T w' b (L.set n (.int .u8 (d : Int))) → Oth b wr w' → wpList Tryd.prog ops Q rest (a.put o.dst (.slice (some ⟨b, 0, none⟩) (n + 1) cap)) w') :
    wpList Tryd.prog ops Q (o :: rest) a (wr.alloc (.cells #[.int .u8 z] 5)) := by
  subst hz
  obtain ⟨i0, hi, hz0, hz1, hz2⟩ := info_parts info_u8'
  have hB : Below wr.heap.size wr (wr.alloc (.cells #[.int .u8 (d : Int)] 5)) := (Below.refl _ _).alloc (Nat.le_refl _) _
  have hA' := hA.below hB
  refine wpList_plain hgd fun K hK => ?_
  have hrun := run_append_room_cells (P := Tryd.prog) (wr.alloc (.cells #[.int .u8 (d : Int)] 5)) 22 o.type 5 i0 Tryd.underlying22 hi b 0 n cap ⟨wr.heap.size, 0, none⟩ 1 1 [.int .u8 (d : Int)] (by rw [hz1]; rfl) ?_ (by intro u hu; simp at hu; subst hu; rfl) hcap ?_ ?_
  · rw [hz1, Nat.zero_add, Nat.mul_one] at hrun
    unfold Oper.wp
    simp [execOp, ho, resolve, invoke, builtin, hs, hx, hrun, Result.andThen]
    exact hK _ _ (h _ (hA'.set n _) (((oth_of hB b)).set n _))
  · intro j u hj
    match j, hj with
    | 0, hj => simp at hj; subst hj; simp [Addr.add]
  · intro j hj
    rw [hz1]
    simp at hj
    subst hj
    rw [show 0 + n * 1 + 0 = n by omega, hA'.cell n, List.getElem?_eq_getElem hL]
    rfl
  · intro j hj
    exact hA'.free _
end Go.Proofs.YtkbiiolkekpkiaaDoor
