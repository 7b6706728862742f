/-
  Words of 32 bits that the call owns: appended to, one by one or many at once, in a region that draws its order too. Conditions: as each theorem says.
-/
import Derived.Test.YtkkhpjcfojgggaaDoorBtA
import Derived.Test.YtkkhpjcfojgggaaDoorExt
import Derived.Deep.AppendLies
namespace Go.Proofs.YtkkhpjcfojgggaaDoor.Br
open Go.RowKit
set_option linter.unusedVariables false
set_option linter.unusedSimpArgs false

theorem info_u64 : (Tryd.prog.info? 45).map (fun i => (i.zero, i.size, i.bytes)) = some (some (.int .u64 0), 1, 8) := by kernel_rfl
/-- The call's own slice, with the words l. -/
def OwnW (base : Nat) (w : World) (v : Value) (l : List Nat) : Prop := w.ownsRow base 45 1 v l.length (uv l)
theorem OwnW.nil (base : Nat) (w : World) : OwnW base w (.slice none 0 0) [] := World.ownsRow_nil _ _ _ _
theorem OwnW.sk {base : Nat} {w : World} {v : Value} {l : List Nat} (h : OwnW base w v l) : SK .u64 w v l := by
  obtain ⟨h1, h2⟩ := h
  rcases h2 with ⟨e, e0⟩ | ⟨g, cap, cur, e, hg, hh, hn, hm, hc, ht⟩
  · have : l = [] := List.eq_nil_of_length_eq_zero e0
    subst this
    rw [e]
    exact SK.nil _ w
  · refine ⟨some ⟨g, 0, none⟩, cap, e, hn, fun h => by simp at h, fun j hj => ⟨g, 0, rfl, ?_, ?_⟩⟩
    · rcases Nat.lt_or_ge g w.heap.size with h' | h'
      · exact h'
      · rw [Array.getElem?_eq_none h'] at hh; cases hh
    · have hj' : j < cur.size := by omega
      have : (cur.toList.take (l.length * 1))[j]? = some (.int .u64 (l.getD j 0 : Int)) := by rw [ht]; exact uv_get l j hj
      rw [List.getElem?_take, if_pos (by omega)] at this
      simp only [World.cell?, hh, Nat.zero_add]
      simpa using this
theorem OwnW.grown {base : Nat} {w W : World} {v : Value} {l : List Nat} (h : OwnW base w v l) (ho : Below w.heap.size w W) : OwnW base W v l := by
  obtain ⟨h1, h2⟩ := h
  refine ⟨h1, ?_⟩
  rcases h2 with ⟨e, e0⟩ | ⟨g, cap, cur, e, hg, hh, hn, hm, hc, ht⟩
  · exact Or.inl ⟨e, e0⟩
  · have hlt : g < w.heap.size := by
      rcases Nat.lt_or_ge g w.heap.size with h' | h'
      · exact h'
      · rw [Array.getElem?_eq_none h'] at hh; cases hh
    exact Or.inr ⟨g, cap, cur, e, hg, by rw [ho.block g hlt]; exact hh, hn, hm, hc, ht⟩
theorem uv_app (l m : List Nat) : uv (l ++ m) = uv l ++ uv m := by simp [uv]

/-- One word more, in a region that goes in the text's order. -/
theorem wpList_app64 {ops : Array Oper} {rest : List Oper} {o : Oper} {a : Act} {Q : Exit → Act → World → Prop} {wr : World} (hgd : o.guard = none) (s x : Operand)
    (ho : o.op = .call { callee := .builtin .append, args := #[s, x], argTypes := #[56, 56] })
    (base : Nat) (v : Value) (l : List Nat) (d : Nat) (z : Int) (hz : z = (d : Int)) (hs : a.eval s = v) (hown : OwnW base wr v l)
    (hx : a.eval x = .slice (some ⟨wr.heap.size, 0, none⟩) 1 1) (hlen : l.length ≤ 1000000) (hbase : base ≤ wr.heap.size)
    (h : ∀ v' w', OwnW base w' v' (l ++ [d]) → Below base wr w' → wpList Tryd.prog ops Q rest (a.put o.dst v') w') :
    wpList Tryd.prog ops Q (o :: rest) a (wr.alloc (.cells #[.int .u64 z] 45)) := by
  subst hz
  obtain ⟨i0, hi, hz0, hz1, hz2⟩ := info_parts info_u64
  refine wpList_append_own _ hgd s x 56 ho base 45 i0 (.int .u64 0) 1 8 Tryd.underlying56 hi hz0 hz1 hz2 rfl (by decide) v _ _ hs (World.ownsRow.alloc hown _) ⟨wr.heap.size, 0, none⟩ 1 1 [.int .u64 (d : Int)] hx rfl ?_ ?_ ?_ ?_ ?_ ?_
  · intro j u hj
    match j, hj with
    | 0, hj => simp at hj; subst hj; simp [Addr.add]
  · intro u hu; simp at hu; subst hu; rfl
  · unfold maxLen; omega
  · omega
  · simp; omega
  · intro v' w' h1 h2 _
    refine h v' w' ?_ ?_
    · unfold OwnW
      have e : uv (l ++ [d]) = uv l ++ [.int .u64 (d : Int)] := by simp [uv]
      rw [e]
      simpa using h1
    · refine Below.grown (Below.alloc (Below.refl _ _) hbase _) h2 (by simp; omega) ?_
      intro k hk
      rcases hown.2 with ⟨e, _⟩ | ⟨g, cap, cur, e, hg, _⟩
      · rw [e] at hk; simp [Value.ownBlock] at hk
      · rw [e] at hk; simp [Value.ownBlock] at hk; omega
/-- One word more, at a step of a region that draws its order. -/
theorem step_app64 {ops : Array Oper} {o : Oper} {a : Act} {K : Act → World → Prop} {Q : Exit → Act → World → Prop} {E : Prop} {W : World} (hgd : o.guard = none) (s x : Operand)
    (ho : o.op = .call { callee := .builtin .append, args := #[s, x], argTypes := #[56, 56] })
    (base : Nat) (v : Value) (l : List Nat) (d : Nat) (z : Int) (hz : z = (d : Int)) (hs : a.eval s = v) (hown : OwnW base W v l)
    (hx : a.eval x = .slice (some ⟨W.heap.size, 0, none⟩) 1 1) (hlen : l.length ≤ 1000000) (hbase : base ≤ W.heap.size)
    (h : ∀ v' w', OwnW base w' v' (l ++ [d]) → Below base W w' → K (a.put o.dst v') w') :
    if Region.wanted o (yielded ops a.tmps) = true then Oper.wp Tryd.prog o a (W.alloc (.cells #[.int .u64 z] 45)).drew K Q else E := by
  subst hz
  obtain ⟨i0, hi, hz0, hz1, hz2⟩ := info_parts info_u64
  refine step_append_lies (W.alloc (.cells #[.int .u64 (d : Int)] 45)).drew hgd s x 56 ho base 45 i0 (.int .u64 0) 1 8 Tryd.underlying56 hi hz0 hz1 hz2 rfl (by decide) v l.length (uv l) hs ((World.ownsRow.alloc hown _).drew) ⟨W.heap.size, 0, none⟩ 1 1 [.int .u64 (d : Int)] hx rfl
    (World.news_of_block (cs := #[.int .u64 (d : Int)]) (t := 45) (fr := (0, 0)) (heap_alloc_new W _)) ?_ (by omega) ?_ ?_ ?_ _ rfl ?_
  · intro u hu; simp at hu; subst hu; rfl
  · unfold maxLen; omega
  · omega
  · simp; omega
  · intro g cap w' h1 h2 _ _
    refine h _ w' ?_ ?_
    · unfold OwnW
      have e : uv (l ++ [d]) = uv l ++ [.int .u64 (d : Int)] := by simp [uv]
      rw [e]
      simpa using h1
    · refine Below.grown ((Below.alloc (Below.refl _ _) hbase _).drew) h2 (by simp; omega) ?_
      intro k hk
      rcases hown.2 with ⟨e, _⟩ | ⟨g, cap, cur, e, hg, _⟩
      · rw [e] at hk; simp [Value.ownBlock] at hk
      · rw [e] at hk; simp [Value.ownBlock] at hk; omega
/-- Many words at once, onto nothing. -/
theorem wpList_app64S {ops : Array Oper} {rest : List Oper} {o : Oper} {a : Act} {Q : Exit → Act → World → Prop} {wr : World} (hgd : o.guard = none) (s x : Operand)
    (ho : o.op = .call { callee := .builtin .append, args := #[s, x], argTypes := #[56, 56] })
    (base : Nat) (v : Value) (l m : List Nat) (vx : Value) (hs : a.eval s = v) (hown : OwnW base wr v l)
    (hx : a.eval x = vx) (hS : SK .u64 wr vx m) (hlen : l.length ≤ 1000000) (hlen2 : m.length ≤ 1000000) (hbase : base ≤ wr.heap.size)
    (h : ∀ v' w', OwnW base w' v' (l ++ m) → Below base wr w' → wpList Tryd.prog ops Q rest (a.put o.dst v') w') :
    wpList Tryd.prog ops Q (o :: rest) a wr := by
  obtain ⟨i0, hi, hz0, hz1, hz2⟩ := info_parts info_u64
  obtain ⟨p, cap, rfl, hcap, hnil, hc⟩ := hS
  cases p with
  | none =>
    obtain ⟨rfl, rfl⟩ := hnil rfl
    refine wpList_append_own_none hgd s x 56 ho base 45 i0 1 Tryd.underlying56 hi v _ _ hs hown hx ?_
    exact h v wr (by rw [List.append_nil]; exact hown) (Below.refl _ _)
  | some p =>
    refine wpList_append_own _ hgd s x 56 ho base 45 i0 (.int .u64 0) 1 8 Tryd.underlying56 hi hz0 hz1 hz2 rfl (by decide) v _ _ hs hown p m.length cap (uv m) hx (by simp [uv]) ?_ ?_ ?_ ?_ ?_ ?_
    · intro j u hj
      by_cases hjl : j < m.length
      · rw [uv_get m j hjl] at hj
        rw [← hj]
        obtain ⟨b, off, e, -, e3⟩ := hc j hjl
        obtain rfl : p = ⟨b, off, none⟩ := by simpa using e
        rw [Addr.add_mid]; exact e3
      · rw [List.getElem?_eq_none (by rw [uv_length]; omega)] at hj; cases hj
    · intro u hu; exact uv_one hu
    · unfold maxLen; omega
    · omega
    · exact hbase
    · intro v' w' h1 h2 _
      refine h v' w' ?_ ?_
      · unfold OwnW
        rw [uv_app]
        simpa using h1
      · refine Below.grown (Below.refl _ _) h2 hbase ?_
        intro k hk
        rcases hown.2 with ⟨e, _⟩ | ⟨g, cap, cur, e, hg, _⟩
        · rw [e] at hk; simp [Value.ownBlock] at hk
        · rw [e] at hk; simp [Value.ownBlock] at hk; omega
theorem turn_below (x n : Nat) (hx : x < 18446744073709551616) (h1 : 1 ≤ n) (h2 : n ≤ 63) (w : World) : Calls Tryd.prog 37 #[.int .u64 (x : Int), .int .i64 (n : Int)] w fun e w' => e = .returned (.int .u64 (rotr x n : Int)) ∧ Below w.heap.size w w' :=
  (turn_any x n hx h1 h2 w).mono fun e w' ⟨he, m, hm⟩ => ⟨he, by rw [hm]; exact below_drewN' _ _⟩
end Go.Proofs.YtkkhpjcfojgggaaDoor.Br
