/-
  A region that draws its order, made of operations that yield one value whatever memory has grown behind what was there, of new variables, and of stores into these: one walk in the order of the text serves every order. Conditions: as the theorems say.
-/
import Derived.Test.YtedhfimjcpbcpaaDoorKbob
import Derived.Test.YtedhfimjcpbcpaaDoorKboa
import Derived.Laws.AppendOwnNone
import Derived.Deep.DeepCutAuto
import Derived.Deep.CutBlock
namespace Go.Proofs.YtedhfimjcpbcpaaDoor
open Go.RowKit
set_option linter.unusedVariables false

/-- Memory has grown behind what was there; the new variables lie in it, each in a block of its own. -/
structure Hold (base : World) (γ : Nat → Option (Nat × Obj)) (w : World) : Prop where
  bel : Below base.heap.size base w
  own : ∀ i g, γ i = some g → base.heap.size ≤ g.1 ∧ g.1 < w.heap.size ∧ w.heap[g.1]? = some g.2
  ne : ∀ i j g h, i ≠ j → γ i = some g → γ j = some h → g.1 ≠ h.1
theorem Hold.below {base : World} {γ : Nat → Option (Nat × Obj)} {w w' : World} (h : Hold base γ w) (hb : Below w.heap.size w w') : Hold base γ w' :=
  ⟨h.bel.trans (hb.mono h.bel.size), fun i g hg => ⟨(h.own i g hg).1, Nat.lt_of_lt_of_le (h.own i g hg).2.1 hb.size, (hb.block g.1 (h.own i g hg).2.1).trans (h.own i g hg).2.2⟩, h.ne⟩
def upd (γ : Nat → Option (Nat × Obj)) (i : Nat) (g : Nat × Obj) : Nat → Option (Nat × Obj) := fun k => if k = i then some g else γ k
theorem upd_comm (γ : Nat → Option (Nat × Obj)) (i j : Nat) (g h : Nat × Obj) (hij : i ≠ j) : upd (upd γ i g) j h = upd (upd γ j h) i g := by
  funext k
  unfold upd
  by_cases h1 : k = i
  · subst h1; simp [hij]
  · by_cases h2 : k = j
    · subst h2; simp [h1]
    · simp [h1, h2]
theorem Hold.alloc {base : World} {γ : Nat → Option (Nat × Obj)} {w : World} (h : Hold base γ w) (i : Nat) (obj : Obj) : Hold base (upd γ i (w.heap.size, obj)) (w.alloc obj) := by
  have hb : Below w.heap.size w (w.alloc obj) := (Below.refl _ _).alloc (Nat.le_refl _) _
  have h' := h.below hb
  refine ⟨h'.bel, fun k g hg => ?_, fun k j g g' hkj hk hj => ?_⟩
  · unfold upd at hg
    split at hg
    · simp only [Option.some.injEq] at hg
      subst hg
      refine ⟨h.bel.size, by simp, ?_⟩
      show (w.heap.push _)[w.heap.size]? = _
      simp
    · exact h'.own k g hg
  · unfold upd at hk hj
    split at hk <;> split at hj
    · omega
    · simp only [Option.some.injEq] at hk
      subst hk
      have := (h.own j g' hj).2.1
      dsimp only
      omega
    · simp only [Option.some.injEq] at hj
      subst hj
      have := (h.own k g hk).2.1
      dsimp only
      omega
    · exact h.ne k j g g' hkj hk hj
/-- A block of its own has turned, nothing else. -/
structure Turned (w w' : World) (g : Nat) (obj : Obj) : Prop where
  os : w'.os = w.os
  tape : w'.tape = w.tape
  output : w'.output = w.output
  size : w'.heap.size = w.heap.size
  other : ∀ k, k ≠ g → w'.heap[k]? = w.heap[k]?
  here : w'.heap[g]? = some obj
theorem Hold.store {base : World} {γ : Nat → Option (Nat × Obj)} {w w' : World} (h : Hold base γ w) (i : Nat) (g : Nat) (o obj : Obj) (hg : γ i = some (g, o)) (ht : Turned w w' g obj) : Hold base (upd γ i (g, obj)) w' := by
  obtain ⟨h1, h2, h3⟩ := h.own i _ hg
  refine ⟨⟨ht.os.trans h.bel.os, ht.tape.trans h.bel.tape, ht.output.trans h.bel.output, by rw [ht.size]; exact h.bel.size, fun k hk => (ht.other k (by dsimp only at h1; omega)).trans (h.bel.block k hk)⟩, fun k q hq => ?_, fun k j q q' hkj hk hj => ?_⟩
  · unfold upd at hq
    split at hq
    · simp only [Option.some.injEq] at hq
      subst hq
      exact ⟨h1, by rw [ht.size]; exact h2, ht.here⟩
    · rename_i hki
      obtain ⟨k1, k2, k3⟩ := h.own k q hq
      exact ⟨k1, by rw [ht.size]; exact k2, (ht.other _ (h.ne k i q _ hki hq hg)).trans k3⟩
  · unfold upd at hk hj
    split at hk <;> split at hj
    · omega
    · rename_i e1 e2
      simp only [Option.some.injEq] at hk
      subst hk
      exact h.ne i j (g, o) q' (fun e => e2 e.symm) hg hj
    · rename_i e1 e2
      simp only [Option.some.injEq] at hj
      subst hj
      exact h.ne k i q (g, o) e1 hk hg
    · exact h.ne k j q q' hkj hk hj

section
variable {P : Program} {ops : Array Oper} {md : Region.Mode} {base : World} {ob : Nat → Option Obj} {st : Nat → Option (Nat × Obj)} {Q : Exit → Act → World → Prop} {full : Array Bool}

/-- The operation makes a new variable. -/
def Makes (P : Program) (o : Oper) (obj : Obj) : Prop := ∀ (a : Act) (w : World), (execOp a.eval o).run P w = .ok (.value (.pointer (some ⟨w.heap.size, 0, none⟩))) (w.alloc obj)
/-- The operation stores into the variable in block g. -/
def Stores (P : Program) (o : Oper) (a : Act) (g : Nat) (old obj : Obj) : Prop := ∀ w : World, w.heap[g]? = some old → ∃ w', (execOp a.eval o).run P w = .ok .skip w' ∧ Turned w w' g obj
/-- The operation yields v wherever memory has grown. -/
def Yb (P : Program) (ops : Array Oper) (base : World) (o : Oper) (v : Value) (a : Act) : Prop :=
  (Region.wanted o (yielded ops a.tmps) = true ∧ ∀ w, Below base.heap.size base w → o.quietAt P a (fun w'' => Below w.heap.size w w'') w v) ∨ (Region.wanted o (yielded ops a.tmps) = false ∧ v = undef)
def gOp (P : Program) (ops : Array Oper) (base : World) (ob : Nat → Option Obj) (st : Nat → Option (Nat × Obj)) (i : Nat) (K : (Nat → Option (Nat × Obj)) → Act → Prop) (γ : Nat → Option (Nat × Obj)) (a : Act) : Prop :=
  ∃ o, ops[i]? = some o ∧ ((∃ obj, ob i = some obj ∧ st i = none ∧ o.guard = none ∧ Makes P o obj ∧ ∀ g, K (upd γ i (g, obj)) (a.put o.dst (.pointer (some ⟨g, 0, none⟩)))) ∨
    (∃ k obj g old, ob i = none ∧ st i = some (k, obj) ∧ o.guard = none ∧ γ k = some (g, old) ∧ Stores P o a g old obj ∧ K (upd γ k (g, obj)) (a.put o.dst undef)) ∨
    (ob i = none ∧ st i = none ∧ ∃ v, Yb P ops base o v a ∧ K γ (a.put o.dst v)))

theorem gOp_at {i : Nat} {o : Oper} {K : (Nat → Option (Nat × Obj)) → Act → Prop} {γ : Nat → Option (Nat × Obj)} {a : Act} (ho : ops[i]? = some o) (h : gOp P ops base ob st i K γ a) :
    (∃ obj, ob i = some obj ∧ st i = none ∧ o.guard = none ∧ Makes P o obj ∧ ∀ g, K (upd γ i (g, obj)) (a.put o.dst (.pointer (some ⟨g, 0, none⟩)))) ∨
    (∃ k obj g old, ob i = none ∧ st i = some (k, obj) ∧ o.guard = none ∧ γ k = some (g, old) ∧ Stores P o a g old obj ∧ K (upd γ k (g, obj)) (a.put o.dst undef)) ∨
    (ob i = none ∧ st i = none ∧ ∃ v, Yb P ops base o v a ∧ K γ (a.put o.dst v)) := by
  obtain ⟨o', ho', hh⟩ := h
  rw [ho] at ho'
  simp only [Option.some.injEq] at ho'
  subst ho'
  exact hh

/-- Whatever order is picked. -/
def gAny (P : Program) (md : Region.Mode) (ops : Array Oper) (base : World) (ob : Nat → Option Obj) (st : Nat → Option (Nat × Obj)) (Q : Exit → Act → World → Prop) : Nat → Array Bool → (Nat → Option (Nat × Obj)) → Act → Prop
  | 0, listed, γ, a => Region.ready md ops listed = [] ∧ ∀ w, Hold base γ w → Q .normal a w
  | n + 1, listed, γ, a => Region.ready md ops listed ≠ [] ∧ ∀ i ∈ Region.ready md ops listed, gOp P ops base ob st i (gAny P md ops base ob st Q n (listed.setIfInBounds i true)) γ a

theorem wpOp_of_gOp {i : Nat} {K : (Nat → Option (Nat × Obj)) → Act → Prop} {K' : Act → World → Prop} {γ : Nat → Option (Nat × Obj)} {a : Act} {w : World} (hw : Hold base γ w) (h : ∀ γ a w, Hold base γ w → K γ a → K' a w) (hh : gOp P ops base ob st i K γ a) : wpOp P ops Q i K' a w := by
  obtain ⟨o, ho, hh⟩ := hh
  unfold wpOp
  simp only [ho]
  rcases hh with ⟨obj, h1, h0, h2, h3, h4⟩ | ⟨k, obj, g, old, h1, h2, h3, h4, h5, h6⟩ | ⟨h1, h0, v, hy, h3⟩
  · rw [if_pos (by unfold Region.wanted; rw [h2])]
    left
    unfold Oper.wp
    rw [h3 a w]
    exact h _ _ _ (hw.alloc i obj) (h4 w.heap.size)
  · rw [if_pos (by unfold Region.wanted; rw [h3])]
    left
    obtain ⟨w', hr, ht⟩ := h5 w (hw.own k _ h4).2.2
    unfold Oper.wp
    rw [hr]
    exact h _ _ _ (hw.store k g old obj h4 ht) h6
  · rcases hy with ⟨hwn, hq⟩ | ⟨hwn, rfl⟩
    · rw [if_pos hwn]
      left
      have h5 := hq w hw.bel
      unfold Oper.quietAt at h5
      unfold Oper.wp
      generalize (execOp a.eval o).run P w = r at *
      cases r with
      | ok n w' =>
        cases n <;> simp only [Oper.quietUpon] at h5 <;> simp only [Oper.upon]
        case value u =>
          obtain ⟨e1, e2⟩ := h5
          rw [e1, e2]
          exact h _ _ _ hw h3
        case skip =>
          obtain ⟨e1, e2⟩ := h5
          rw [e1, ← e2]
          exact h _ _ _ hw h3
        case enter f args =>
          obtain ⟨e1, hc⟩ := h5
          rw [e1]
          exact hc.mono fun e w'' ⟨he, hw''⟩ => by subst he; exact h _ _ _ (hw.below hw'') h3
      | halt x w' => simp only [Oper.quietUpon] at h5
    · rw [if_neg (by rw [hwn]; simp)]
      exact h _ _ _ hw h3

theorem wpAny_of_gAny : ∀ (n : Nat) (listed : Array Bool) (γ : Nat → Option (Nat × Obj)) (a : Act) (w : World), Hold base γ w → gAny P md ops base ob st Q n listed γ a → wpAny P md ops Q n listed a w
  | 0, _, _, _, _, hw, h => ⟨h.1, h.2 _ hw⟩
  | n + 1, _, _, _, _, hw, h => ⟨fun h0 => absurd h0 h.1, fun i hi => wpOp_of_gOp hw (fun γ a w hw' hk => wpAny_of_gAny n _ γ a w hw' hk) (h.2 i hi)⟩

theorem Yb.keep {o : Oper} {v : Value} {a : Act} {d : Option Tmp} {u : Value} (hs : ∀ cs b, o.op ≠ .select cs b) (h3 : ∀ t, d = some t → t ∉ o.looksAt ops) (hy : Yb P ops base o v a) : Yb P ops base o v (a.put d u) := by
  unfold Yb Oper.quietAt at *
  rw [execOp_put o hs a d u h3, wanted_put o a d u h3]
  exact hy
theorem Yb.back {o : Oper} {v : Value} {a : Act} {d : Option Tmp} {u : Value} (hs : ∀ cs b, o.op ≠ .select cs b) (h3 : ∀ t, d = some t → t ∉ o.looksAt ops) (hy : Yb P ops base o v (a.put d u)) : Yb P ops base o v a := by
  unfold Yb Oper.quietAt at *
  rw [execOp_put o hs a d u h3, wanted_put o a d u h3] at hy
  exact hy
theorem Stores.keep {o : Oper} {a : Act} {d : Option Tmp} {u : Value} {g : Nat} {old obj : Obj} (hs : ∀ cs b, o.op ≠ .select cs b) (h3 : ∀ t, d = some t → t ∉ o.looksAt ops) (hy : Stores P o a g old obj) : Stores P o (a.put d u) g old obj := by
  unfold Stores at *
  rw [execOp_put o hs a d u h3]
  exact hy
theorem Stores.back {o : Oper} {a : Act} {d : Option Tmp} {u : Value} {g : Nat} {old obj : Obj} (hs : ∀ cs b, o.op ≠ .select cs b) (h3 : ∀ t, d = some t → t ∉ o.looksAt ops) (hy : Stores P o (a.put d u) g old obj) : Stores P o a g old obj := by
  unfold Stores at *
  rw [execOp_put o hs a d u h3] at hy
  exact hy

theorem waits {i j : Nat} {listed : Array Bool} {oj : Oper} (hj : j ∈ Region.ready md ops listed) (hoj : ops[j]? = some oj) (hi : listed.getD i true = false) : ∀ e ∈ oj.after, Region.binds md e = true → e.on ≠ i := fun e he hb heq => by
  obtain ⟨-, o, ho, hall⟩ := mem_ready.1 hj
  rw [hoj] at ho
  simp only [Option.some.injEq] at ho
  subst ho
  have h1 := hall e he hb
  rw [heq] at h1
  rcases Nat.lt_or_ge i listed.size with h' | h'
  · simp [h'] at hi h1; rw [hi] at h1; cases h1
  · simp [Array.getElem?_eq_none h'] at h1

/-- An operation of one value that may come up now may be taken first. -/
theorem gAny_first {i : Nat} {oi : Oper} {v : Value} (hi : ops[i]? = some oi) (hob : ob i = none) (hst : st i = none) (hsel : ∀ (j : Nat) (o : Oper) cs b, ops[j]? = some o → o.op ≠ .select cs b) :
    ∀ (n : Nat) (listed : Array Bool) (γ : Nat → Option (Nat × Obj)) (a : Act),
      (∀ j oj, ops[j]? = some oj → j ≠ i → listed.getD j true = false → (∀ e ∈ oj.after, Region.binds md e = true → e.on ≠ i) → oi.apart ops oj = true) →
      i ∈ Region.ready md ops listed → Yb P ops base oi v a →
      gAny P md ops base ob st Q n (listed.setIfInBounds i true) γ (a.put oi.dst v) → gAny P md ops base ob st Q (n + 1) listed γ a := by
  intro n
  induction n with
  | zero =>
    intro listed γ a _ hr hy H
    refine ⟨fun h => (by rw [h] at hr; cases hr), fun j hj => ?_⟩
    by_cases hji : j = i
    · subst hji; exact ⟨oi, hi, .inr (.inr ⟨hob, hst, v, hy, H⟩)⟩
    · have := ready_mono hj hji
      rw [H.1] at this
      cases this
  | succ n ih =>
    intro listed γ a hfree hr hy H
    refine ⟨fun h => (by rw [h] at hr; cases hr), fun j hj => ?_⟩
    by_cases hji : j = i
    · subst hji; exact ⟨oi, hi, .inr (.inr ⟨hob, hst, v, hy, H⟩)⟩
    · have h1 := H.2 j (ready_mono hj hji)
      obtain ⟨hjun, oj, hoj, -⟩ := mem_ready.1 hj
      have hap := hfree j oj hoj hji hjun (waits hj hoj (mem_ready.1 hr).1)
      obtain ⟨k1, k2, k3⟩ := Oper.apart_spec hap
      have hfree' : ∀ k ok, ops[k]? = some ok → k ≠ i → (listed.setIfInBounds j true).getD k true = false → (∀ e ∈ ok.after, Region.binds md e = true → e.on ≠ i) → oi.apart ops ok = true := fun k ok hk hki hun hno => by
        refine hfree k ok hk hki ?_ hno
        by_cases hjk : j = k
        · subst hjk; exact hjun
        · rw [getD_set_ne true hjk] at hun; exact hun
      have hr' := ready_mono hr (Ne.symm hji)
      have hsi := fun cs b => hsel i oi cs b hi
      have hsj := fun cs b => hsel j oj cs b hoj
      have hc := Array.setIfInBounds_comm (xs := listed) true true (Ne.symm hji)
      obtain ⟨o', ho', hh⟩ := h1
      rw [hoj] at ho'
      simp only [Option.some.injEq] at ho'
      subst ho'
      refine ⟨oj, hoj, ?_⟩
      rcases hh with ⟨obj, e1, e0, e2, e3, e4⟩ | ⟨k, obj, g, old, e1, e2, e3, e4, e5, e6⟩ | ⟨e1, e0, u, e2, e3⟩
      · refine .inl ⟨obj, e1, e0, e2, e3, fun g => ih _ _ _ hfree' hr' (Yb.keep hsi k3 hy) ?_⟩
        have := e4 g
        rw [hc, Act.put_comm a v _ k2] at this
        exact this
      · refine .inr (.inl ⟨k, obj, g, old, e1, e2, e3, e4, Stores.back hsj k1 e5, ih _ _ _ hfree' hr' (Yb.keep hsi k3 hy) ?_⟩)
        rw [hc, Act.put_comm a v _ k2] at e6
        exact e6
      · refine .inr (.inr ⟨e1, e0, u, Yb.back hsj k1 e2, ih _ _ _ hfree' hr' (Yb.keep hsi k3 hy) ?_⟩)
        rw [hc, Act.put_comm a v _ k2] at e3
        exact e3

/-- A new variable may be made first, if nothing but new variables and stores is left. -/
theorem gAny_make {i : Nat} {oi : Oper} {obj : Obj} (hi : ops[i]? = some oi) (hob : ob i = some obj) (hst : st i = none) (hg : oi.guard = none) (hmk : Makes P oi obj) (hsel : ∀ (j : Nat) (o : Oper) cs b, ops[j]? = some o → o.op ≠ .select cs b) :
    ∀ (n : Nat) (listed : Array Bool) (γ : Nat → Option (Nat × Obj)) (a : Act),
      (∀ j oj, ops[j]? = some oj → j ≠ i → listed.getD j true = false → (∀ e ∈ oj.after, Region.binds md e = true → e.on ≠ i) → oi.apart ops oj = true ∧ (ob j ≠ none ∨ ∃ k o, st j = some (k, o) ∧ k ≠ i)) →
      i ∈ Region.ready md ops listed →
      (∀ g, gAny P md ops base ob st Q n (listed.setIfInBounds i true) (upd γ i (g, obj)) (a.put oi.dst (.pointer (some ⟨g, 0, none⟩)))) → gAny P md ops base ob st Q (n + 1) listed γ a := by
  intro n
  induction n with
  | zero =>
    intro listed γ a _ hr H
    refine ⟨fun h => (by rw [h] at hr; cases hr), fun j hj => ?_⟩
    by_cases hji : j = i
    · subst hji; exact ⟨oi, hi, .inl ⟨obj, hob, hst, hg, hmk, H⟩⟩
    · have := ready_mono hj hji
      rw [(H 0).1] at this
      cases this
  | succ n ih =>
    intro listed γ a hfree hr H
    refine ⟨fun h => (by rw [h] at hr; cases hr), fun j hj => ?_⟩
    by_cases hji : j = i
    · subst hji; exact ⟨oi, hi, .inl ⟨obj, hob, hst, hg, hmk, H⟩⟩
    · obtain ⟨hjun, oj, hoj, -⟩ := mem_ready.1 hj
      obtain ⟨hap, hjo⟩ := hfree j oj hoj hji hjun (waits hj hoj (mem_ready.1 hr).1)
      obtain ⟨k1, k2, k3⟩ := Oper.apart_spec hap
      have hfree' : ∀ k ok, ops[k]? = some ok → k ≠ i → (listed.setIfInBounds j true).getD k true = false → (∀ e ∈ ok.after, Region.binds md e = true → e.on ≠ i) → oi.apart ops ok = true ∧ (ob k ≠ none ∨ ∃ q o, st k = some (q, o) ∧ q ≠ i) := fun k ok hk hki hun hno => by
        refine hfree k ok hk hki ?_ hno
        by_cases hjk : j = k
        · subst hjk; exact hjun
        · rw [getD_set_ne true hjk] at hun; exact hun
      have hr' := ready_mono hr (Ne.symm hji)
      have hsj := fun cs b => hsel j oj cs b hoj
      have hc := Array.setIfInBounds_comm (xs := listed) true true (Ne.symm hji)
      have hall' := fun g => gOp_at hoj ((H g).2 j (ready_mono hj hji))
      refine ⟨oj, hoj, ?_⟩
      rcases hall' 0 with ⟨objj, e1, e0, e2, e3, -⟩ | ⟨k, objj, gg, old, e1, e2, e3, e4, e5, -⟩ | ⟨e1, e0, -⟩
      · refine .inl ⟨objj, e1, e0, e2, e3, fun g' => ih _ _ _ hfree' hr' fun g => ?_⟩
        rcases hall' g with ⟨ob2, f1, f0, f2, f3, f4⟩ | ⟨k, ob2, gg, old, f1, f2, -⟩ | ⟨f1, -⟩
        · have := f4 g'
          rw [e1] at f1
          simp only [Option.some.injEq] at f1
          subst f1
          rw [hc, upd_comm γ i j _ _ (Ne.symm hji), Act.put_comm a _ _ k2] at this
          exact this
        · rw [e0] at f2; cases f2
        · rw [e1] at f1; cases f1
      · have hk : k ≠ i := by
          rcases hjo with h | ⟨q, o, h, hq⟩
          · exact absurd e1 h
          · rw [e2] at h
            simp only [Option.some.injEq, Prod.mk.injEq] at h
            rw [h.1]; exact hq
        have e4' : γ k = some (gg, old) := by unfold upd at e4; rw [if_neg hk] at e4; exact e4
        refine .inr (.inl ⟨k, objj, gg, old, e1, e2, e3, e4', Stores.back hsj k1 e5, ih _ _ _ hfree' hr' fun g => ?_⟩)
        rcases hall' g with ⟨ob2, f1, -⟩ | ⟨k', ob2, gg', old', f1, f2, f3, f4, f5, f6⟩ | ⟨f1, f0, -⟩
        · rw [e1] at f1; cases f1
        · rw [e2] at f2
          simp only [Option.some.injEq, Prod.mk.injEq] at f2
          obtain ⟨rfl, rfl⟩ := f2
          unfold upd at f4
          rw [if_neg hk, e4'] at f4
          simp only [Option.some.injEq, Prod.mk.injEq] at f4
          obtain ⟨rfl, rfl⟩ := f4
          rw [hc, upd_comm γ i k _ _ (Ne.symm hk), Act.put_comm a _ _ k2] at f6
          exact f6
        · rw [e2] at f0; cases f0
      · rcases hjo with h | ⟨q, o, h, -⟩
        · exact absurd e1 h
        · rw [e0] at h; cases h

/-- A store may be done first, if nothing but stores into other variables is left. -/
theorem gAny_store {i k : Nat} {oi : Oper} {obj : Obj} (hi : ops[i]? = some oi) (hob : ob i = none) (hst : st i = some (k, obj)) (hg : oi.guard = none) (hsel : ∀ (j : Nat) (o : Oper) cs b, ops[j]? = some o → o.op ≠ .select cs b) :
    ∀ (n : Nat) (listed : Array Bool) (γ : Nat → Option (Nat × Obj)) (a : Act) (g : Nat) (old : Obj),
      (∀ j oj, ops[j]? = some oj → j ≠ i → listed.getD j true = false → (∀ e ∈ oj.after, Region.binds md e = true → e.on ≠ i) → oi.apart ops oj = true ∧ ∃ q o, st j = some (q, o) ∧ q ≠ k) →
      i ∈ Region.ready md ops listed → γ k = some (g, old) → Stores P oi a g old obj →
      gAny P md ops base ob st Q n (listed.setIfInBounds i true) (upd γ k (g, obj)) (a.put oi.dst undef) → gAny P md ops base ob st Q (n + 1) listed γ a := by
  intro n
  induction n with
  | zero =>
    intro listed γ a g old _ hr hk hs H
    refine ⟨fun h => (by rw [h] at hr; cases hr), fun j hj => ?_⟩
    by_cases hji : j = i
    · subst hji; exact ⟨oi, hi, .inr (.inl ⟨k, obj, g, old, hob, hst, hg, hk, hs, H⟩)⟩
    · have := ready_mono hj hji
      rw [H.1] at this
      cases this
  | succ n ih =>
    intro listed γ a g old hfree hr hk hs H
    refine ⟨fun h => (by rw [h] at hr; cases hr), fun j hj => ?_⟩
    by_cases hji : j = i
    · subst hji; exact ⟨oi, hi, .inr (.inl ⟨k, obj, g, old, hob, hst, hg, hk, hs, H⟩)⟩
    · obtain ⟨hjun, oj, hoj, -⟩ := mem_ready.1 hj
      obtain ⟨hap, q, o, hq, hqk⟩ := hfree j oj hoj hji hjun (waits hj hoj (mem_ready.1 hr).1)
      obtain ⟨k1, k2, k3⟩ := Oper.apart_spec hap
      have hfree' : ∀ l ol, ops[l]? = some ol → l ≠ i → (listed.setIfInBounds j true).getD l true = false → (∀ e ∈ ol.after, Region.binds md e = true → e.on ≠ i) → oi.apart ops ol = true ∧ ∃ q o, st l = some (q, o) ∧ q ≠ k := fun l ol hl hli hun hno => by
        refine hfree l ol hl hli ?_ hno
        by_cases hjl : j = l
        · subst hjl; exact hjun
        · rw [getD_set_ne true hjl] at hun; exact hun
      have hr' := ready_mono hr (Ne.symm hji)
      have hsi := fun cs b => hsel i oi cs b hi
      have hsj := fun cs b => hsel j oj cs b hoj
      have hc := Array.setIfInBounds_comm (xs := listed) true true (Ne.symm hji)
      refine ⟨oj, hoj, ?_⟩
      rcases gOp_at hoj (H.2 j (ready_mono hj hji)) with ⟨ob2, f1, f0, -⟩ | ⟨k', ob2, g', old', f1, f2, f3, f4, f5, f6⟩ | ⟨f1, f0, -⟩
      · rw [hq] at f0; cases f0
      · have e := f2
        rw [hq] at e
        simp only [Option.some.injEq, Prod.mk.injEq] at e
        have hk' : k' ≠ k := by rw [← e.1]; exact hqk
        unfold upd at f4
        rw [if_neg hk'] at f4
        refine .inr (.inl ⟨k', ob2, g', old', f1, f2, f3, f4, Stores.back hsj k1 f5, ih _ _ _ g old hfree' hr' (by unfold upd; rw [if_neg (Ne.symm hk')]; exact hk) (Stores.keep hsi k3 hs) ?_⟩)
        rw [hc, upd_comm γ k k' _ _ (Ne.symm hk'), Act.put_comm a _ _ k2] at f6
        exact f6
      · rw [hq] at f0; cases f0

def restB (md : Region.Mode) (ops : Array Oper) (good : Nat → Bool) (listed : Array Bool) (i : Nat) : Bool := (List.range ops.size).all fun j => j == i || listed.getD j true || good j || match ops[j]? with
  | some oj => oj.after.any (fun e => Region.binds md e && e.on == i)
  | none => true
theorem rest_of {good : Nat → Bool} {listed : Array Bool} {i j : Nat} {oj : Oper} (h : restB md ops good listed i = true) (hoj : ops[j]? = some oj) (hji : j ≠ i) (hun : listed.getD j true = false) (hno : ∀ e ∈ oj.after, Region.binds md e = true → e.on ≠ i) : good j = true := by
  have hlt : j < ops.size := (Array.getElem?_eq_some_iff.1 hoj).1
  have := List.all_eq_true.1 h j (List.mem_range.2 hlt)
  rw [hun, hoj] at this
  simp only [Bool.or_false, Bool.or_eq_true, beq_iff_eq] at this
  rcases this with (h | h) | h
  · exact absurd h hji
  · exact h
  · obtain ⟨e, he, hb⟩ := Array.any_eq_true'.1 h
    simp only [Bool.and_eq_true, beq_iff_eq] at hb
    exact absurd hb.2 (hno e he hb.1)

theorem g_first (i : Nat) (oi : Oper) (v : Value) {n : Nat} {listed : Array Bool} {γ : Nat → Option (Nat × Obj)} {a : Act} (hi : ops[i]? = some oi) (hob : ob i = none) (hst : st i = none) (hs : Region.noSelect ops = true) (hf : Region.free md ops listed i = true) (hr : (Region.ready md ops listed).contains i = true)
    (hy : Yb P ops base oi v a) (H : gAny P md ops base ob st Q n (listed.setIfInBounds i true) γ (a.put oi.dst v)) : gAny P md ops base ob st Q (n + 1) listed γ a :=
  gAny_first hi hob hst (Region.noSelect_spec hs) n listed γ a (Region.free_spec hi hf) (by simpa using hr) hy H
theorem g_make (i : Nat) (oi : Oper) (obj : Obj) (good : Nat → Bool) {n : Nat} {listed : Array Bool} {γ : Nat → Option (Nat × Obj)} {a : Act} (hi : ops[i]? = some oi) (hob : ob i = some obj) (hst : st i = none) (hg : oi.guard = none) (hmk : Makes P oi obj) (hgood : ∀ j, good j = true → ob j ≠ none ∨ ∃ k o, st j = some (k, o) ∧ k ≠ i) (hs : Region.noSelect ops = true)
    (hf : Region.free md ops listed i = true) (hre : restB md ops good listed i = true) (hr : (Region.ready md ops listed).contains i = true)
    (H : ∀ g, gAny P md ops base ob st Q n (listed.setIfInBounds i true) (upd γ i (g, obj)) (a.put oi.dst (.pointer (some ⟨g, 0, none⟩)))) : gAny P md ops base ob st Q (n + 1) listed γ a :=
  gAny_make hi hob hst hg hmk (Region.noSelect_spec hs) n listed γ a (fun j oj hoj hji hun hno => ⟨Region.free_spec hi hf j oj hoj hji hun hno, hgood j (rest_of hre hoj hji hun hno)⟩) (by simpa using hr) H
theorem g_store (i k : Nat) (oi : Oper) (obj : Obj) (g : Nat) (old : Obj) (good : Nat → Bool) {n : Nat} {listed : Array Bool} {γ : Nat → Option (Nat × Obj)} {a : Act} (hi : ops[i]? = some oi) (hob : ob i = none) (hst : st i = some (k, obj)) (hg : oi.guard = none) (hgood : ∀ j, good j = true → ∃ q o, st j = some (q, o) ∧ q ≠ k) (hs : Region.noSelect ops = true)
    (hf : Region.free md ops listed i = true) (hre : restB md ops good listed i = true) (hr : (Region.ready md ops listed).contains i = true) (hk : γ k = some (g, old)) (hS : Stores P oi a g old obj)
    (H : gAny P md ops base ob st Q n (listed.setIfInBounds i true) (upd γ k (g, obj)) (a.put oi.dst undef)) : gAny P md ops base ob st Q (n + 1) listed γ a :=
  gAny_store hi hob hst hg (Region.noSelect_spec hs) n listed γ a g old (fun j oj hoj hji hun hno => ⟨Region.free_spec hi hf j oj hoj hji hun hno, hgood j (rest_of hre hoj hji hun hno)⟩) (by simpa using hr) hk hS H

theorem wp_region_grow {id : Nat} {a : Act} {w : World} (hm : P.follows .mixedOrders = true) (h : gAny P .any ops w ob st Q ops.size (Array.replicate ops.size false) (fun _ => none) a) : (Code.region id ops true).wp P Q a w :=
  wp_region_any hm (wpAny_of_gAny _ _ _ a w.drew ⟨(Below.refl _ w).drew, fun i g hg => by simp at hg, fun i j g h _ hg => by simp at hg⟩ h)

end

theorem quiet_call {P : Program} {o : Oper} {a : Act} {C : World → Prop} {w : World} {v : Value} {f : FuncId} {args : Array Value} (h : (execOp a.eval o).run P w = .ok (.enter f args) w) (hc : Calls P f args w (fun e w'' => e = .returned v ∧ C w'')) : o.quietAt P a C w v := by
  unfold Oper.quietAt; rw [h]; exact ⟨rfl, hc⟩

end Go.Proofs.YtedhfimjcpbcpaaDoor

/-
  The plain arithmetic of a division digit by digit from above, each digit found by halving between what the highest digits say. Conditions: none beyond those written.
-/
namespace Go.Proofs.YtedhfimjcpbcpaaDoor
open Go.RowKit
set_option linter.unusedVariables false

/-- Behind the digits from i on: the quotient's digits, and the rest. -/
structure QAt (la : List Nat) (B i : Nat) (o : List Nat) (R : Nat) : Prop where
  len : o.length = la.length
  dg : Dg o
  low : ∀ j, j < i → o.getD j 0 = 0
  val : valD o = 16777216 ^ i * (valD (la.drop i) / B)
  rest : R = valD (la.drop i) % B
theorem QAt.start (la : List Nat) (B : Nat) : QAt la B la.length (List.replicate la.length 0) 0 := by
  refine ⟨by simp, Dg.zeros _, fun j _ => ?_, ?_, ?_⟩
  · rw [List.getD_eq_getElem?_getD, List.getElem?_replicate]; split <;> rfl
  · rw [valD_zeros, List.drop_length]; simp [valD]
  · rw [List.drop_length]; simp [valD]
theorem QAt.done {la : List Nat} {B : Nat} {o : List Nat} {R : Nat} (h : QAt la B 0 o R) : valD o = valD la / B ∧ R = valD la % B := by
  have h1 := h.val
  have h2 := h.rest
  rw [List.drop_zero] at h1 h2
  exact ⟨by rw [h1, Nat.pow_zero, Nat.one_mul], h2⟩
theorem QAt.lt {la : List Nat} {B i : Nat} {o : List Nat} {R : Nat} (h : QAt la B i o R) (hB : 0 < B) : R < B := by rw [h.rest]; exact Nat.mod_lt _ hB
theorem QAt.next {la : List Nat} {B i : Nat} {o : List Nat} {R x : Nat} (h : QAt la B i o R) (hB : 0 < B) (hx : x < 16777216) : x + 16777216 * R < 16777216 * B := by
  have := h.lt hB
  omega
theorem QAt.step {la : List Nat} {B i : Nat} {o : List Nat} {R x q X : Nat} (h : QAt la B (i + 1) o R) (hi : i < la.length) (hx : la.getD i 0 = x) (hxl : x < 16777216) (hB : 0 < B) (hX : X = x + 16777216 * R) (hq : X / B = q) :
    QAt la B i (o.set i q) (X - B * q) := by
  have hlt := h.next hB hxl
  rw [← hX] at hlt
  obtain ⟨h1, h2, h3, h4, h5⟩ := h
  have hd := valD_drop la i
  rw [hx] at hd
  generalize hH : valD (la.drop (i + 1)) = H at *
  have hHd := Nat.div_add_mod H B
  rw [← h5] at hHd
  have hE : valD (la.drop i) = B * (16777216 * (H / B)) + X := by
    rw [hd, hX, Nat.mul_left_comm B 16777216]
    generalize B * (H / B) = Z at *
    omega
  have hqb : q < 16777216 := by rw [← hq]; exact Nat.div_lt_of_lt_mul (by rw [Nat.mul_comm]; exact hlt)
  refine ⟨by rw [List.length_set]; exact h1, h2.set (by omega) hqb, fun j hj => ?_, ?_, ?_⟩
  · rw [getD_set _ _ _ _ (by omega), if_neg (by omega)]; exact h3 j (by omega)
  · have e := valD_set o i q (by omega)
    rw [h3 i (by omega), Nat.mul_zero, Nat.add_zero] at e
    rw [e, h4, hE, Nat.mul_add_div hB, hq, Nat.mul_add, Nat.pow_succ, Nat.mul_assoc]
  · rw [hE, Nat.mul_add_mod, ← hq]
    have := Nat.div_add_mod X B
    omega

/-- A digit lies between low and high. -/
def Brk (X B low high : Nat) : Prop := low * B ≤ X ∧ X < high * B ∧ high ≤ 16777216
theorem Brk.lt {X B low high : Nat} (h : Brk X B low high) : low < high := by
  rcases Nat.lt_or_ge low high with g | g
  · exact g
  · have := Nat.mul_le_mul_right B g
    have := h.1; have := h.2.1
    omega
theorem Brk.done {X B low high : Nat} (h : Brk X B low high) (hd : high ≤ low + 1) : X / B = low := by
  have hl := h.lt
  obtain rfl : high = low + 1 := by omega
  exact Nat.div_eq_of_lt_le h.1 h.2.1
theorem Brk.up {X B low high m : Nat} (h : Brk X B low high) (hm : B * m ≤ X) : Brk X B m high := ⟨by rw [Nat.mul_comm]; exact hm, h.2⟩
theorem Dg.take {l : List Nat} (h : Dg l) (n : Nat) : Dg (l.take n) := fun j => by
  by_cases hj : j < n
  · have := h j
    simpa [List.getD_eq_getElem?_getD, hj] using this
  · rw [List.getD_eq_getElem?_getD, List.getElem?_eq_none (by rw [List.length_take]; omega)]; decide
theorem Brk.cap {X B low high : Nat} (h1 : low * B ≤ X) (h2 : X < high * B) (h : X < 16777216 * B) : Brk X B low (if high ≤ 16777216 then high else 16777216) := by
  refine ⟨h1, ?_, ?_⟩ <;> split <;> first | assumption | omega
/-- A nought aside, what stands in front is the lowest digit. -/
theorem Dg.cons {l : List Nat} {d : Nat} (h : Dg l) (hd : d < 16777216) : Dg (d :: l) := fun j => by
  rcases j with _ | j
  · exact hd
  · exact h j
end Go.Proofs.YtedhfimjcpbcpaaDoor

/-
  The contract of the document's own digits: quotient and rest, digit by digit from above, each digit found by halving. Conditions: as each theorem says.
-/
namespace Go.Proofs.YtedhfimjcpbcpaaDoor
open Go.RowKit
set_option linter.unusedVariables false

theorem Own.lit1 (base : Nat) (w : World) (d : Nat) (hb : base ≤ w.heap.size) : Own base (w.alloc (.cells #[.int .i64 (d : Int)] 3)) (.slice (some ⟨w.heap.size, 0, none⟩) 1 1) [d] := by
  refine ⟨by simp [dv], Or.inr ⟨w.heap.size, 1, #[.int .i64 (d : Int)], by simp, hb, ?_, by simp, by unfold maxLen; simp, by simp, by simp [dv]⟩⟩
  show (w.heap.push _)[w.heap.size]? = _
  simp

theorem Num.setCell {W : World} {g o n cap N : Nat} (h : Num W (.slice (some ⟨g, o, none⟩) n cap) N) (b i : Nat) (v : Value) (hb : b ≠ g) : Num (W.setCell ⟨b, i, none⟩ v) (.slice (some ⟨g, o, none⟩) n cap) N := by
  obtain ⟨l, ⟨a, c, e, h2, h3, h4⟩, hd, hz, hv⟩ := h
  refine ⟨l, ⟨a, c, e, h2, h3, fun j hj => ?_⟩, hd, hz, hv⟩
  obtain ⟨b', o', e1, e2, e3⟩ := h4 j hj
  refine ⟨b', o', e1, by simpa using e2, ?_⟩
  subst e1
  simp only [Value.slice.injEq, Option.some.injEq, Addr.mk.injEq] at e
  rw [World.cell?_setCell_other _ _ _ _ (fun q => hb ((congrArg Addr.block q).trans e.1.1.symm))]
  exact e3
theorem Own.block {base : Nat} {w : World} {v : Value} {x : Nat} {l : List Nat} (h : Own base w v (x :: l)) : ∃ g n c, v = .slice (some ⟨g, 0, none⟩) n c ∧ base ≤ g := by
  rcases h.2 with ⟨_, e0⟩ | ⟨g, cap, cur, e, hg, _⟩
  · simp at e0
  · exact ⟨g, _, cap, e, hg⟩

end Go.Proofs.YtedhfimjcpbcpaaDoor

/-
  The contract of the document's own Div: quotient and rest. Conditions: as each theorem says.
-/
namespace Go.Proofs.YtedhfimjcpbcpaaDoor
open Go.RowKit
set_option linter.unusedVariables false

end Go.Proofs.YtedhfimjcpbcpaaDoor

/-
  Numbers modulo an odd number below 2^256, as Montgomery's products go through them: pure facts of naturals and integers. Conditions: as each theorem says.
-/
namespace Go.Proofs.YtedhfimjcpbcpaaDoor
open Go.RowKit
set_option linter.unusedVariables false

end Go.Proofs.YtedhfimjcpbcpaaDoor

/-
  The contracts of the document's own rest, numerals and residues of layer 3, at the level of numbers. Conditions: as each theorem says.
-/
namespace Go.Proofs.YtedhfimjcpbcpaaDoor
open Go.RowKit
set_option linter.unusedVariables false

theorem bit_num (N : Nat) (va : Value) (i : Nat) (w : World) (ha : Num w va N) (m : Nat) (hN : N < 16777216 ^ m) (hm : m ≤ 10000) (hi : i ≤ 1000000) :
    Calls Tryd.prog 42 #[va, .int .i64 (i : Int)] w fun e w' => e = .returned (.int .i64 ((N / 2 ^ i % 2 : Nat) : Int)) ∧ Below w.heap.size w w' := by
  obtain ⟨l, h1, h2, h3, rfl⟩ := ha
  have hl := nz_len l m h2 h3 hN
  exact bitR_any l va i w h1 h2 (by omega) hi
theorem down_num (M : Nat) (va : Value) (n : Nat) (w : World) (ha : Num w va M) (m : Nat) (hM : M < 16777216 ^ m) (hm : m ≤ 10000) (hn : n ≤ 100000) :
    Calls Tryd.prog 109 #[va, .int .i64 (n : Int)] w fun e w' => ∃ v, e = .returned v ∧ Num w' v (M / 2 ^ n) ∧ Below w.heap.size w w' := by
  obtain ⟨l, h1, h2, h3, rfl⟩ := ha
  have hl := nz_len l m h2 h3 hM
  exact downR_any l va n w h1 h2 (by omega) hn
theorem bits_num (M : Nat) (va : Value) (w : World) (ha : Num w va M) (m : Nat) (hM : M < 16777216 ^ m) (hm : m ≤ 10000) :
    Calls Tryd.prog 60 #[va] w fun e w' => e = .returned (.int .i64 (nbits M : Int)) ∧ Below w.heap.size w w' := by
  obtain ⟨l, h1, h2, h3, rfl⟩ := ha
  have hl := nz_len l m h2 h3 hM
  exact bitsR_any l va w h1 h2 h3 (by omega)

end Go.Proofs.YtedhfimjcpbcpaaDoor

/-
  A slice in memory leads to one number. Conditions: as each theorem says.
-/
namespace Go.Proofs.YtedhfimjcpbcpaaDoor
open Go.RowKit
set_option linter.unusedVariables false

theorem sl_unique {w : World} {v : Value} {l l' : List Nat} (h : Sl w v l) (h' : Sl w v l') : l = l' := by
  obtain ⟨a, c, e, -, -, k⟩ := h
  obtain ⟨a', c', e', -, -, k'⟩ := h'
  rw [e] at e'
  simp only [Value.slice.injEq] at e'
  obtain ⟨rfl, hl, rfl⟩ := e'
  apply List.ext_getElem?
  intro j
  by_cases hj : j < l.length
  · obtain ⟨b, o, e1, -, e2⟩ := k j hj
    obtain ⟨b', o', e1', -, e2'⟩ := k' j (by omega)
    rw [e1] at e1'
    simp only [Option.some.injEq, Addr.mk.injEq, and_true] at e1'
    obtain ⟨rfl, rfl⟩ := e1'
    rw [e2] at e2'
    simp only [Option.some.injEq, Value.int.injEq, true_and] at e2'
    have hj' : j < l'.length := by omega
    simp only [List.getD_eq_getElem?_getD, List.getElem?_eq_getElem hj, List.getElem?_eq_getElem hj', Option.getD_some] at e2' ⊢
    congr 1
    omega
  · rw [List.getElem?_eq_none (by omega), List.getElem?_eq_none (by omega)]
theorem num_unique {w : World} {v : Value} {N N' : Nat} (h : Num w v N) (h' : Num w v N') : N = N' := by
  obtain ⟨l, h1, -, -, rfl⟩ := h
  obtain ⟨l', h1', -, -, rfl⟩ := h'
  rw [sl_unique h1 h1']
theorem num_eps {w : World} {v : Value} {N : Nat} (h : Num w v N) : Classical.epsilon (fun n => Num w v n) = N := num_unique (Classical.epsilon_spec ⟨N, h⟩) h

end Go.Proofs.YtedhfimjcpbcpaaDoor

/-
  The contracts of the document's own numbers of layer 4: 2^255 - 19, what is modulo it, products, sums, differences. Conditions: as each theorem says.
-/
namespace Go.Proofs.YtedhfimjcpbcpaaDoor
open Go.RowKit
set_option linter.unusedVariables false

theorem P25_lt11 : P25 < 16777216 ^ 11 := by decide +kernel
theorem P25_lt22 : P25 < 16777216 ^ 22 := by decide +kernel
theorem pow_lt22 : 2 ^ 255 < 16777216 ^ 22 := by decide +kernel
theorem num_lit (w : World) (d : Nat) (h0 : 0 < d) (h1 : d < 16777216) : Num (w.alloc (.cells #[.int .i64 (d : Int)] 3)) (.slice (some ⟨w.heap.size, 0, none⟩) 1 1) d :=
  ⟨[d], Sl.lit1 w d (d : Int) rfl, fun j => by rcases j with _ | j <;> simp [h1], Or.inr (by simp; omega), by simp [valD]⟩
theorem num_none (w : World) : Num w (.slice none 0 0) 0 := ⟨[], Sl.nil w, Dg.nil, Or.inl rfl, rfl⟩
set_option maxRecDepth 100000 in
set_option maxHeartbeats 2000000 in
theorem pD_num  (w : World) :
    Calls Tryd.prog 46 #[] w fun e w' => ∃ v, e = .returned v ∧ Num w' v (P25) ∧ Below w.heap.size w w' := by
  go_enter Tryd.func46, Tryd.ntmps46
  go_wp2_with fail
  refine (power_any 255 _ (by omega)).mono ?_
  rintro e w1 ⟨v, rfl, hn, g⟩
  obtain ⟨Aa, Ac, Ad, rfl⟩ := hn.shape
  have A_1 : Hid (Num w1 (.slice Aa Ac Ad) (2 ^ 255)) := hn
  have G_1 : Hid (Below w.heap.size w w1) := g
  clear  hn g
  go_wp2_with fail
  refine calls_at (fun V => Num V (.slice Aa Ac Ad) (2 ^ 255) ∧ Num V (.slice (some ⟨w1.heap.size, 0, none⟩) 1 1) 19 ∧ Below w.heap.size w V) ⟨A_1.out.below ((Below.refl _ _).alloc (Nat.le_refl _) _), num_lit w1 19 (by omega) (by omega), G_1.out.alloc G_1.out.size _⟩ ?_
  rintro w2 ⟨k0, k1, hG⟩
  have A_2 : Hid (Num w2 (.slice Aa Ac Ad) (2 ^ 255)) := k0
  have B_2 : Hid (Num w2 (.slice (some ⟨w1.heap.size, 0, none⟩) 1 1) 19) := k1
  have G_2 : Hid (Below w.heap.size w w2) := hG
  clear A_1 G_1 hG k0 k1
  refine (sub_num (2 ^ 255) 19 _ _ _ A_2.out B_2.out 22 pow_lt22 (by omega) (by decide +kernel)).mono ?_
  rintro e w3 ⟨v, rfl, hn, g⟩
  obtain ⟨Ca, Cc, Cd, rfl⟩ := hn.shape
  have C_3 : Hid (Num w3 (.slice Ca Cc Cd) (2 ^ 255 - 19)) := hn
  have G_3 := hold (G_2.out.trans (g.mono G_2.out.size))
  clear A_2 B_2 G_2 hn g
  have H : Hid (Num w3 (.slice Ca Cc Cd) P25) := by unfold Hid; rw [P25_pow]; exact C_3.out
  go_wp2_with fail
  go_ret
  exact ⟨_, rfl, H.out, G_3.out⟩

theorem reduce_step (B : Nat) : (B - B / 2 ^ 255 * 2 ^ 255 + B / 2 ^ 255 * 19) % P25 = B % P25 := by
  have e := Nat.div_add_mod B (2 ^ 255)
  have h : B = (B - B / 2 ^ 255 * 2 ^ 255 + B / 2 ^ 255 * 19) + P25 * (B / 2 ^ 255) := by
    have h2 : B / 2 ^ 255 * 2 ^ 255 ≤ B := Nat.div_mul_le_self _ _
    have h3 : B / 2 ^ 255 * 2 ^ 255 = B / 2 ^ 255 * 19 + P25 * (B / 2 ^ 255) := by
      rw [Nat.mul_comm P25, ← Nat.mul_add]
      congr 1
    omega
  conv => rhs; rw [h, Nat.add_mul_mod_self_left]
theorem reduce_less (B : Nat) (h : 2 ^ 255 ≤ B) : B - B / 2 ^ 255 * 2 ^ 255 + B / 2 ^ 255 * 19 < B := by
  have h1 : 0 < B / 2 ^ 255 := Nat.div_pos h (Nat.two_pow_pos 255)
  have h2 : B / 2 ^ 255 * 2 ^ 255 ≤ B := Nat.div_mul_le_self _ _
  have h3 : B / 2 ^ 255 * 19 < B / 2 ^ 255 * 2 ^ 255 := Nat.mul_lt_mul_of_pos_left (by decide +kernel) h1
  omega
theorem nbits_above (B : Nat) : 255 < nbits B ↔ 2 ^ 255 ≤ B := by
  constructor
  · intro h
    rcases Nat.lt_or_ge B (2 ^ 255) with h1 | h1
    · have := nbits_le B 255 h1; omega
    · exact h1
  · intro h
    rcases Nat.lt_or_ge 255 (nbits B) with h1 | h1
    · exact h1
    · have h2 : B < 2 ^ nbits B := by
        unfold nbits
        by_cases h0 : B = 0
        · rw [if_pos h0, h0]; decide
        · rw [if_neg h0]; exact Nat.lt_log2_self
      have h3 : 2 ^ nbits B ≤ 2 ^ 255 := Nat.pow_le_pow_right (by omega) h1
      omega
theorem reduce_last (B : Nat) (h : B < 2 ^ 255) (h1 : P25 ≤ B) : B - P25 = B % P25 := by
  rw [Nat.mod_eq_sub_mod h1, Nat.mod_eq_of_lt]
  have : 2 ^ 255 < P25 + P25 := by decide +kernel
  omega
set_option maxRecDepth 100000 in
set_option maxHeartbeats 2000000 in
theorem reduceD_num (A : Nat) (va : Value) (w : World) (hA : Num w va A) (hb : A < 16777216 ^ 22) :
    Calls Tryd.prog 89 #[va] w fun e w' => ∃ v, e = .returned v ∧ Num w' v (A % P25) ∧ Below w.heap.size w w' := by
  obtain ⟨Aa, Ac, Ad, rfl⟩ := hA.shape
  have A_0 : Hid (Num w (.slice Aa Ac Ad) (A)) := hA
  clear hA
  go_enter Tryd.func89, Tryd.ntmps89
  go_wp2_with fail
  refine (pD_num _).mono ?_
  rintro e w1 ⟨v, rfl, hn, g⟩
  obtain ⟨Pa, Pc, Pd, rfl⟩ := hn.shape
  have P_1 : Hid (Num w1 (.slice Pa Pc Pd) (P25)) := hn
  have A_1 := hold (A_0.out.below g)
  have G_1 : Hid (Below w.heap.size w w1) := g
  clear A_0 hn g
  go_wp2_with fail
  go_loopw [0] (fun v wr => ∃ B : Nat, Hid (Num wr v B) ∧ Hid (B % P25 = A % P25 ∧ B < 16777216 ^ 22) ∧ Hid (Num wr (.slice Pa Pc Pd) P25) ∧ Hid (Below w.heap.size w wr)) (fun v wr => Classical.epsilon (fun n => Num wr v n))
  case atStart => exact ⟨A, A_1, ⟨rfl, hb⟩, P_1, G_1⟩
  case round =>
    obtain ⟨B, hN, hB, hP, hG⟩ := hrel
    obtain ⟨ba, bc, bd, rfl⟩ := hN.out.shape
    have hE : Hid (Classical.epsilon (fun n => Num wr (.slice ba bc bd) n) = B) := num_eps hN.out
    clear A_1 P_1 G_1 hb
    obtain ⟨w1, hw1⟩ : ∃ w1, wr = w1 := ⟨_, rfl⟩
    subst hw1
    have HB22 : Hid (B < 16777216 ^ 22) := hB.out.2
    by_cases hlt : 2 ^ 255 ≤ B
    · have hn : (255 : Int) < (nbits B : Int) := by have := (nbits_above B).2 hlt; omega
      obtain ⟨n, hn'⟩ : ∃ n, nbits B = n := ⟨_, rfl⟩
      obtain ⟨C, hC⟩ : ∃ C, B / 2 ^ 255 = C := ⟨_, rfl⟩
      have hC22 : C < 16777216 ^ 22 := by rw [← hC]; exact Nat.lt_of_le_of_lt (Nat.div_le_self _ _) HB22.out
      have hCB : C * 2 ^ 255 ≤ B := by rw [← hC]; exact Nat.div_mul_le_self _ _
      have r1 := reduce_step B
      have r2 := reduce_less B hlt
      rw [hC] at r1 r2
      have C1 : Hid (∀ w, Num w (.slice ba bc bd) B → Calls Tryd.prog 60 #[.slice ba bc bd] w fun e w' => e = .returned (.int .i64 (n : Int)) ∧ Below w.heap.size w w') := by
        intro w h; have := bits_num B _ w h 22 HB22.out (by omega); rwa [hn'] at this
      have C2 : Hid (∀ w, Num w (.slice ba bc bd) B → Calls Tryd.prog 109 #[.slice ba bc bd, .int .i64 255] w fun e w' => ∃ v, e = .returned v ∧ Num w' v C ∧ Below w.heap.size w w') := by
        intro w h; have := down_num B _ 255 w h 22 HB22.out (by omega) (by omega); rwa [hC] at this
      have C3 : Hid (∀ v w, Num w v C → Calls Tryd.prog 88 #[v, .int .i64 255] w fun e w' => ∃ v, e = .returned v ∧ Num w' v (C * 2 ^ 255) ∧ Below w.heap.size w w') := fun v w h => shift_num C v 255 w h 22 hC22 (by omega) (by omega)
      have C5 : Hid (∀ v w, Num w v C → Calls Tryd.prog 63 #[v, .int .i64 19] w fun e w' => ∃ v, e = .returned v ∧ Num w' v (C * 19) ∧ Below w.heap.size w w') := fun v w h => small_num C v 19 w h 22 hC22 (by omega) (by omega)
      obtain ⟨S, hS⟩ : ∃ S, C * 2 ^ 255 = S := ⟨_, rfl⟩
      obtain ⟨T, hT⟩ : ∃ T, C * 19 = T := ⟨_, rfl⟩
      rw [hS] at C3 hCB r1 r2
      rw [hT] at C5 r1 r2
      have hBS : B - S < 16777216 ^ 22 := Nat.lt_of_le_of_lt (Nat.sub_le _ _) HB22.out
      have hT22 : T < 16777216 ^ 22 := by have := HB22.out; omega
      have C4 : Hid (∀ v w, Num w (.slice ba bc bd) B → Num w v S → Calls Tryd.prog 43 #[.slice ba bc bd, v] w fun e w' => ∃ v, e = .returned v ∧ Num w' v (B - S) ∧ Below w.heap.size w w') := fun v w h h' => sub_num B S _ v w h h' 22 HB22.out (by omega) hCB
      have C6 : Hid (∀ u v w, Num w u (B - S) → Num w v T → Calls Tryd.prog 58 #[u, v] w fun e w' => ∃ v, e = .returned v ∧ Num w' v (B - S + T) ∧ Below w.heap.size w w') := fun u v w h h' => add_num (B - S) T u v w h h' 22 hBS hT22 (by omega)
      have HR : Hid ((B - S + T) % P25 = A % P25 ∧ B - S + T < 16777216 ^ 22) := ⟨by rw [r1]; exact hB.out.1, by have := HB22.out; omega⟩
      have HL : Hid (B - S + T < B) := r2
      rw [hn'] at hn
      clear r1 r2 hS hT hC hn' hC22 hCB hlt hBS hT22 hB HB22
      have N_1 : Hid (Num wr (.slice ba bc bd) B) := hN
      have P_1 : Hid (Num wr (.slice Pa Pc Pd) P25) := hP
      have G_1 : Hid (Below w.heap.size w wr) := hG
      clear hN hP hG
      go_wp2_with fail
      refine (C1.out _ N_1.out).mono ?_
      rintro e w2 ⟨rfl, g⟩
      have N_2 := hold (N_1.out.below g)
      have P_2 := hold (P_1.out.below g)
      have G_2 := hold (G_1.out.trans (g.mono G_1.out.size))
      clear N_1 P_1 G_1 g
      go_wp2_with fail
      refine (C2.out _ N_2.out).mono ?_
      rintro e w3 ⟨v, rfl, hn, g⟩
      obtain ⟨Ca, Cc, Cd, rfl⟩ := hn.shape
      have C_3 : Hid (Num w3 (.slice Ca Cc Cd) (C)) := hn
      have N_3 := hold (N_2.out.below g)
      have P_3 := hold (P_2.out.below g)
      have G_3 := hold (G_2.out.trans (g.mono G_2.out.size))
      clear N_2 P_2 G_2 hn g
      go_wp2_with fail
      refine (C3.out _ _ C_3.out).mono ?_
      rintro e w4 ⟨v, rfl, hn, g⟩
      obtain ⟨Sa, Sc, Sd, rfl⟩ := hn.shape
      have S_4 : Hid (Num w4 (.slice Sa Sc Sd) (S)) := hn
      have N_4 := hold (N_3.out.below g)
      have P_4 := hold (P_3.out.below g)
      have C_4 := hold (C_3.out.below g)
      have G_4 := hold (G_3.out.trans (g.mono G_3.out.size))
      clear N_3 P_3 C_3 G_3 hn g
      go_wp2_with fail
      refine (C4.out _ _ N_4.out S_4.out).mono ?_
      rintro e w5 ⟨v, rfl, hn, g⟩
      obtain ⟨Ya, Yc, Yd, rfl⟩ := hn.shape
      have Y_5 : Hid (Num w5 (.slice Ya Yc Yd) (B - S)) := hn
      have P_5 := hold (P_4.out.below g)
      have C_5 := hold (C_4.out.below g)
      have G_5 := hold (G_4.out.trans (g.mono G_4.out.size))
      clear N_4 P_4 C_4 S_4 G_4 hn g
      go_wp2_with fail
      refine (C5.out _ _ C_5.out).mono ?_
      rintro e w6 ⟨v, rfl, hn, g⟩
      obtain ⟨Ta, Tc, Td, rfl⟩ := hn.shape
      have T_6 : Hid (Num w6 (.slice Ta Tc Td) (T)) := hn
      have P_6 := hold (P_5.out.below g)
      have Y_6 := hold (Y_5.out.below g)
      have G_6 := hold (G_5.out.trans (g.mono G_5.out.size))
      clear P_5 C_5 Y_5 G_5 hn g
      go_wp2_with fail
      refine (C6.out _ _ _ Y_6.out T_6.out).mono ?_
      rintro e w7 ⟨v, rfl, hn, g⟩
      obtain ⟨Za, Zc, Zd, rfl⟩ := hn.shape
      have Z_7 : Hid (Num w7 (.slice Za Zc Zd) (B - S + T)) := hn
      have P_7 := hold (P_6.out.below g)
      have G_7 := hold (G_6.out.trans (g.mono G_6.out.size))
      clear P_6 Y_6 T_6 G_6 hn g
      go_wp2_with fail
      go_roundw
      case rel => exact ⟨_, Z_7, HR, P_7, G_7⟩
      case measure =>
        rw [num_eps Z_7.out, hE.out]
        exact HL.out
    · have hn : ¬ (255 : Int) < (nbits B : Int) := by have := (nbits_above B).1; omega
      obtain ⟨n, hn'⟩ : ∃ n, nbits B = n := ⟨_, rfl⟩
      have C1 : Hid (∀ w, Num w (.slice ba bc bd) B → Calls Tryd.prog 60 #[.slice ba bc bd] w fun e w' => e = .returned (.int .i64 (n : Int)) ∧ Below w.heap.size w w') := by
        intro w h; have := bits_num B _ w h 22 HB22.out (by omega); rwa [hn'] at this
      have C2 : Hid (∀ w, Num w (.slice ba bc bd) B → Num w (.slice Pa Pc Pd) P25 → Calls Tryd.prog 45 #[.slice ba bc bd, .slice Pa Pc Pd] w fun e w' => e = .returned (.int .i64 (ord (B : Int) (P25 : Int))) ∧ Below w.heap.size w w') := fun w h h' => cmp_num B P25 _ _ w h h' 22 HB22.out P25_lt22 (by omega)
      rw [hn'] at hn
      have N_1 : Hid (Num wr (.slice ba bc bd) B) := hN
      have P_1 : Hid (Num wr (.slice Pa Pc Pd) P25) := hP
      have G_1 : Hid (Below w.heap.size w wr) := hG
      clear hN hP hG hn' hE
      by_cases hge : P25 ≤ B
      · have C3 : Hid (∀ w, Num w (.slice ba bc bd) B → Num w (.slice Pa Pc Pd) P25 → Calls Tryd.prog 43 #[.slice ba bc bd, .slice Pa Pc Pd] w fun e w' => ∃ v, e = .returned v ∧ Num w' v (B - P25) ∧ Below w.heap.size w w') := fun w h h' => sub_num B P25 _ _ w h h' 22 HB22.out (by omega) hge
        have HE : Hid (∀ w v, Num w v (B - P25) → Num w v (A % P25)) := by intro w v h; rwa [reduce_last B (by omega) hge, hB.out.1] at h
        obtain ⟨x, hx⟩ : ∃ x : Int, ord (B : Int) (P25 : Int) = x := ⟨_, rfl⟩
        have hx0 : 0 ≤ x := by rw [← hx]; unfold ord; split <;> (try split) <;> omega
        rw [hx] at C2
        clear hx hge hlt hB HB22
        go_wp2_with fail
        refine (C1.out _ N_1.out).mono ?_
        rintro e w2 ⟨rfl, g⟩
        have N_2 := hold (N_1.out.below g)
        have P_2 := hold (P_1.out.below g)
        have G_2 := hold (G_1.out.trans (g.mono G_1.out.size))
        clear N_1 P_1 G_1 g
        go_wp2_with fail
        refine (C2.out _ N_2.out P_2.out).mono ?_
        rintro e w3 ⟨rfl, g⟩
        have N_3 := hold (N_2.out.below g)
        have P_3 := hold (P_2.out.below g)
        have G_3 := hold (G_2.out.trans (g.mono G_2.out.size))
        clear N_2 P_2 G_2 g
        go_wp2_with fail
        refine (C3.out _ N_3.out P_3.out).mono ?_
        rintro e w4 ⟨v, rfl, hn, g⟩
        obtain ⟨Ca, Cc, Cd, rfl⟩ := hn.shape
        have C_4 : Hid (Num w4 (.slice Ca Cc Cd) (B - P25)) := hn
        have N_4 := hold (N_3.out.below g)
        have P_4 := hold (P_3.out.below g)
        have G_4 := hold (G_3.out.trans (g.mono G_3.out.size))
        clear N_3 P_3 G_3 hn g
        go_wp2_with fail
        go_ret
        exact ⟨_, rfl, HE.out _ _ C_4.out, G_4.out⟩
      · have HE : Hid (∀ w v, Num w v B → Num w v (A % P25)) := by intro w v h; rwa [← hB.out.1, Nat.mod_eq_of_lt (by omega)]
        obtain ⟨x, hx⟩ : ∃ x : Int, ord (B : Int) (P25 : Int) = x := ⟨_, rfl⟩
        have hx0 : x < 0 := by rw [← hx]; unfold ord; split <;> (try split) <;> omega
        rw [hx] at C2
        clear hx hge hlt hB HB22
        go_wp2_with fail
        refine (C1.out _ N_1.out).mono ?_
        rintro e w2 ⟨rfl, g⟩
        have N_2 := hold (N_1.out.below g)
        have P_2 := hold (P_1.out.below g)
        have G_2 := hold (G_1.out.trans (g.mono G_1.out.size))
        clear N_1 P_1 G_1 g
        go_wp2_with fail
        refine (C2.out _ N_2.out P_2.out).mono ?_
        rintro e w3 ⟨rfl, g⟩
        have N_3 := hold (N_2.out.below g)
        have P_3 := hold (P_2.out.below g)
        have G_3 := hold (G_2.out.trans (g.mono G_2.out.size))
        clear N_2 P_2 G_2 g
        go_wp2_with fail
        go_ret
        exact ⟨_, rfl, HE.out _ _ N_3.out, G_3.out⟩

theorem prod22 {A B : Nat} (h1 : A < 16777216 ^ 11) (h2 : B < 16777216 ^ 11) : A * B < 16777216 ^ 22 := by
  rw [show (22 : Nat) = 11 + 11 from rfl, Nat.pow_add]; exact Nat.mul_lt_mul'' h1 h2
theorem sum22 {A B : Nat} (h1 : A < 16777216 ^ 11) (h2 : B < 16777216 ^ 11) : A + B < 16777216 ^ 22 := by
  have h3 : 16777216 ^ 11 + 16777216 ^ 11 ≤ 16777216 ^ 22 := by decide +kernel
  omega
set_option maxRecDepth 100000 in
set_option maxHeartbeats 2000000 in
theorem mulD_num (A B : Nat) (va vb : Value) (w : World) (hA : Num w va A) (hB : Num w vb B) (hA2 : A < 16777216 ^ 11) (hB2 : B < 16777216 ^ 11) :
    Calls Tryd.prog 47 #[va, vb] w fun e w' => ∃ v, e = .returned v ∧ Num w' v (A * B % P25) ∧ Below w.heap.size w w' := by
  obtain ⟨Aa, Ac, Ad, rfl⟩ := hA.shape
  have A_0 : Hid (Num w (.slice Aa Ac Ad) (A)) := hA
  clear hA
  obtain ⟨Ba, Bc, Bd, rfl⟩ := hB.shape
  have B_0 : Hid (Num w (.slice Ba Bc Bd) (B)) := hB
  clear hB
  have b1 : Hid (A * B < 16777216 ^ 22) := prod22 hA2 hB2
  have b2 : Hid (A < 16777216 ^ 11) := hA2
  have b3 : Hid (B < 16777216 ^ 11) := hB2
  clear hA2 hB2
  go_enter Tryd.func47, Tryd.ntmps47
  go_wp2_with fail
  refine (ref_mul_num A B _ _ _ A_0.out B_0.out 11 b2.out b3.out (by omega)).mono ?_
  rintro e w1 ⟨v, rfl, hn, g⟩
  obtain ⟨Ca, Cc, Cd, rfl⟩ := hn.shape
  have C_1 : Hid (Num w1 (.slice Ca Cc Cd) (A * B)) := hn
  have A_1 := hold (A_0.out.below g)
  have B_1 := hold (B_0.out.below g)
  have G_1 : Hid (Below w.heap.size w w1) := g
  clear A_0 B_0 hn g
  go_wp2_with fail
  refine (reduceD_num _ _ _ C_1.out b1.out).mono ?_
  rintro e w2 ⟨v, rfl, hn, g⟩
  obtain ⟨Ea, Ec, Ed, rfl⟩ := hn.shape
  have E_2 : Hid (Num w2 (.slice Ea Ec Ed) (A * B % P25)) := hn
  have A_2 := hold (A_1.out.below g)
  have B_2 := hold (B_1.out.below g)
  have C_2 := hold (C_1.out.below g)
  have G_2 := hold (G_1.out.trans (g.mono G_1.out.size))
  clear A_1 B_1 C_1 G_1 hn g
  go_wp2_with fail
  go_ret
  exact ⟨_, rfl, E_2.out, G_2.out⟩

set_option maxRecDepth 100000 in
set_option maxHeartbeats 2000000 in
theorem addD_num (A B : Nat) (va vb : Value) (w : World) (hA : Num w va A) (hB : Num w vb B) (hA2 : A < 16777216 ^ 11) (hB2 : B < 16777216 ^ 11) :
    Calls Tryd.prog 50 #[va, vb] w fun e w' => ∃ v, e = .returned v ∧ Num w' v ((A + B) % P25) ∧ Below w.heap.size w w' := by
  obtain ⟨Aa, Ac, Ad, rfl⟩ := hA.shape
  have A_0 : Hid (Num w (.slice Aa Ac Ad) (A)) := hA
  clear hA
  obtain ⟨Ba, Bc, Bd, rfl⟩ := hB.shape
  have B_0 : Hid (Num w (.slice Ba Bc Bd) (B)) := hB
  clear hB
  have b1 : Hid (A + B < 16777216 ^ 22) := sum22 hA2 hB2
  have b2 : Hid (A < 16777216 ^ 11) := hA2
  have b3 : Hid (B < 16777216 ^ 11) := hB2
  clear hA2 hB2
  go_enter Tryd.func50, Tryd.ntmps50
  go_wp2_with fail
  refine (add_num A B _ _ _ A_0.out B_0.out 11 b2.out b3.out (by omega)).mono ?_
  rintro e w1 ⟨v, rfl, hn, g⟩
  obtain ⟨Ca, Cc, Cd, rfl⟩ := hn.shape
  have C_1 : Hid (Num w1 (.slice Ca Cc Cd) (A + B)) := hn
  have A_1 := hold (A_0.out.below g)
  have B_1 := hold (B_0.out.below g)
  have G_1 : Hid (Below w.heap.size w w1) := g
  clear A_0 B_0 hn g
  go_wp2_with fail
  refine (reduceD_num _ _ _ C_1.out b1.out).mono ?_
  rintro e w2 ⟨v, rfl, hn, g⟩
  obtain ⟨Ea, Ec, Ed, rfl⟩ := hn.shape
  have E_2 : Hid (Num w2 (.slice Ea Ec Ed) ((A + B) % P25)) := hn
  have A_2 := hold (A_1.out.below g)
  have B_2 := hold (B_1.out.below g)
  have C_2 := hold (C_1.out.below g)
  have G_2 := hold (G_1.out.trans (g.mono G_1.out.size))
  clear A_1 B_1 C_1 G_1 hn g
  go_wp2_with fail
  go_ret
  exact ⟨_, rfl, E_2.out, G_2.out⟩

set_option maxRecDepth 100000 in
set_option maxHeartbeats 2000000 in
theorem subD_num (A B : Nat) (va vb : Value) (w : World) (hA : Num w va A) (hB : Num w vb B) (hA2 : A < 16777216 ^ 11) (hB2 : B ≤ A + P25) :
    Calls Tryd.prog 49 #[va, vb] w fun e w' => ∃ v, e = .returned v ∧ Num w' v ((A + P25 - B) % P25) ∧ Below w.heap.size w w' := by
  obtain ⟨Aa, Ac, Ad, rfl⟩ := hA.shape
  have A_0 : Hid (Num w (.slice Aa Ac Ad) (A)) := hA
  clear hA
  obtain ⟨Ba, Bc, Bd, rfl⟩ := hB.shape
  have B_0 : Hid (Num w (.slice Ba Bc Bd) (B)) := hB
  clear hB
  have b1 : Hid (A + P25 - B < 16777216 ^ 22) := Nat.lt_of_le_of_lt (Nat.sub_le _ _) (sum22 hA2 P25_lt11)
  have b2 : Hid (A < 16777216 ^ 11) := hA2
  have b3 : Hid (B ≤ A + P25) := hB2
  have b4 : Hid (A + P25 < 16777216 ^ 22) := sum22 hA2 P25_lt11
  clear hA2 hB2
  go_enter Tryd.func49, Tryd.ntmps49
  go_wp2_with fail
  refine (pD_num _).mono ?_
  rintro e w1 ⟨v, rfl, hn, g⟩
  obtain ⟨Pa, Pc, Pd, rfl⟩ := hn.shape
  have P_1 : Hid (Num w1 (.slice Pa Pc Pd) (P25)) := hn
  have A_1 := hold (A_0.out.below g)
  have B_1 := hold (B_0.out.below g)
  have G_1 : Hid (Below w.heap.size w w1) := g
  clear A_0 B_0 hn g
  go_wp2_with fail
  refine (add_num A P25 _ _ _ A_1.out P_1.out 11 b2.out P25_lt11 (by omega)).mono ?_
  rintro e w2 ⟨v, rfl, hn, g⟩
  obtain ⟨Ca, Cc, Cd, rfl⟩ := hn.shape
  have C_2 : Hid (Num w2 (.slice Ca Cc Cd) (A + P25)) := hn
  have A_2 := hold (A_1.out.below g)
  have B_2 := hold (B_1.out.below g)
  have P_2 := hold (P_1.out.below g)
  have G_2 := hold (G_1.out.trans (g.mono G_1.out.size))
  clear A_1 B_1 P_1 G_1 hn g
  go_wp2_with fail
  refine (sub_num (A + P25) B _ _ _ C_2.out B_2.out 22 b4.out (by omega) b3.out).mono ?_
  rintro e w3 ⟨v, rfl, hn, g⟩
  obtain ⟨Sa, Sc, Sd, rfl⟩ := hn.shape
  have S_3 : Hid (Num w3 (.slice Sa Sc Sd) (A + P25 - B)) := hn
  have A_3 := hold (A_2.out.below g)
  have B_3 := hold (B_2.out.below g)
  have P_3 := hold (P_2.out.below g)
  have C_3 := hold (C_2.out.below g)
  have G_3 := hold (G_2.out.trans (g.mono G_2.out.size))
  clear A_2 B_2 P_2 C_2 G_2 hn g
  go_wp2_with fail
  refine (reduceD_num _ _ _ S_3.out b1.out).mono ?_
  rintro e w4 ⟨v, rfl, hn, g⟩
  obtain ⟨Ea, Ec, Ed, rfl⟩ := hn.shape
  have E_4 : Hid (Num w4 (.slice Ea Ec Ed) ((A + P25 - B) % P25)) := hn
  have A_4 := hold (A_3.out.below g)
  have B_4 := hold (B_3.out.below g)
  have P_4 := hold (P_3.out.below g)
  have C_4 := hold (C_3.out.below g)
  have S_4 := hold (S_3.out.below g)
  have G_4 := hold (G_3.out.trans (g.mono G_3.out.size))
  clear A_3 B_3 P_3 C_3 S_3 G_3 hn g
  go_wp2_with fail
  go_ret
  exact ⟨_, rfl, E_4.out, G_4.out⟩


end Go.Proofs.YtedhfimjcpbcpaaDoor

/-
  The contracts of the document's own powers, roots and ratios of layer 4. Conditions: as each theorem says.
-/
namespace Go.Proofs.YtedhfimjcpbcpaaDoor
open Go.RowKit
set_option linter.unusedVariables false

theorem half_up4 (E i : Nat) : E / 2 ^ i = 2 * (E / 2 ^ (i + 1)) + E / 2 ^ i % 2 := by
  rw [Nat.pow_succ, ← Nat.div_div_eq_div_mul]; omega
theorem nbits_lt4 (x : Nat) : x < 2 ^ nbits x := by
  unfold nbits
  by_cases h : x = 0
  · rw [if_pos h, h]; decide
  · rw [if_neg h]; exact Nat.lt_log2_self
theorem nbits_le4 (E : Nat) (h : E < 2 ^ 256) : nbits E ≤ 256 := nbits_le E 256 h
theorem pow_sq4 (A t M : Nat) : (A ^ t % M) * (A ^ t % M) % M = A ^ (2 * t) % M := by
  rw [← Nat.mul_mod, ← Nat.pow_add, show t + t = 2 * t by omega]
theorem pow_more4 (A t M : Nat) : (A ^ t % M) * A % M = A ^ (t + 1) % M := by
  rw [Nat.pow_succ, Nat.mul_mod, Nat.mod_mod, ← Nat.mul_mod]
theorem lt11_of_mod (x : Nat) : x % P25 < 16777216 ^ 11 := Nat.lt_trans (Nat.mod_lt _ (by decide +kernel)) P25_lt11

set_option maxRecDepth 100000 in
set_option maxHeartbeats 2000000 in
theorem expD_num4 (A E : Nat) (va ve : Value) (w : World) (hA : Num w va A) (hE : Num w ve E) (hA1 : A < 16777216 ^ 11) (hE1 : E < 2 ^ 256) :
    Calls Tryd.prog 98 #[va, ve] w fun e w' => ∃ v, e = .returned v ∧ Num w' v (A ^ E % P25) ∧ Below w.heap.size w w' := by
  obtain ⟨xa, xc, xd, rfl⟩ := hA.shape
  obtain ⟨ya, yc, yd, rfl⟩ := hE.shape
  have hE11 : E < 16777216 ^ 11 := Nat.lt_trans hE1 (by decide +kernel)
  have CB : Hid (∀ w, Num w (.slice ya yc yd) E → Calls Tryd.prog 60 #[.slice ya yc yd] w fun e w' => e = .returned (.int .i64 (nbits E : Int)) ∧ Below w.heap.size w w') := fun w h => bits_num E _ w h 11 hE11 (by omega)
  have CS : Hid (∀ v (x : Value) w, Num w x (A ^ v % P25) → Calls Tryd.prog 47 #[x, x] w fun e w' => ∃ r, e = .returned r ∧ Num w' r (A ^ (2 * v) % P25) ∧ Below w.heap.size w w') := by
    intro v x w h
    have := mulD_num _ _ x x w h h (lt11_of_mod _) (lt11_of_mod _)
    rwa [pow_sq4] at this
  have CT : Hid (∀ v (x : Value) w, Num w x (A ^ v % P25) → Num w (.slice xa xc xd) A → Calls Tryd.prog 47 #[x, .slice xa xc xd] w fun e w' => ∃ r, e = .returned r ∧ Num w' r (A ^ (v + 1) % P25) ∧ Below w.heap.size w w') := by
    intro v x w h h'
    have := mulD_num _ A x _ w h h' (lt11_of_mod _) hA1
    rwa [pow_more4] at this
  have CI : Hid (∀ (i : Nat) w, i ≤ 264 → Num w (.slice ya yc yd) E → Calls Tryd.prog 42 #[.slice ya yc yd, .int .i64 (i : Int)] w fun e w' => e = .returned (.int .i64 ((E / 2 ^ i % 2 : Nat) : Int)) ∧ Below w.heap.size w w') := fun i w hi h => bit_num E _ i w h 11 hE11 (by omega) (by omega)
  have hnb := nbits_le4 E hE1
  have HN := nbits_lt4 E
  obtain ⟨nb, hNB⟩ : ∃ nb, nbits E = nb := ⟨_, rfl⟩
  rw [hNB] at hnb CB HN
  have HNB : Hid (E < 2 ^ nb) := HN
  have hnb' : (nb : Int) ≤ 256 := by omega
  have O0 : Hid (Num (w.alloc (.cells #[.int .i64 1] 3)) (.slice (some ⟨w.heap.size, 0, none⟩) 1 1) (A ^ 0 % P25)) := by
    have h := num_lit w 1 (by omega) (by omega)
    unfold Hid
    rw [Nat.pow_zero, Nat.mod_eq_of_lt (by decide +kernel)]
    exact h
  have A0 : Hid (Num (w.alloc (.cells #[.int .i64 1] 3)) (.slice xa xc xd) A) := hA.below ((Below.refl _ _).alloc (Nat.le_refl _) _)
  have Y0 : Hid (Num (w.alloc (.cells #[.int .i64 1] 3)) (.slice ya yc yd) E) := hE.below ((Below.refl _ _).alloc (Nat.le_refl _) _)
  have G0 : Hid (Below w.heap.size w (w.alloc (.cells #[.int .i64 1] 3))) := (Below.refl _ _).alloc (Nat.le_refl _) _
  clear hA hE hA1 hE1 hE11 HN hNB
  go_enter Tryd.func98, Tryd.ntmps98
  go_wp2_with fail
  refine (CB.out _ Y0.out).mono ?_
  rintro e w2 ⟨rfl, g2⟩
  have R2 := hold (O0.out.below g2)
  have A2 := hold (A0.out.below g2)
  have Y2 := hold (Y0.out.below g2)
  have G2 := hold (G0.out.trans (g2.mono G0.out.size))
  clear g2 O0 A0 Y0 G0
  go_wp2_with fail
  go_loopw [5, 6] (fun v y wr => ∃ k : Nat, k ≤ nb ∧ y = .int .i64 ((nb : Int) - 1 - (k : Int)) ∧ Hid (Num wr v (A ^ (E / 2 ^ (nb - k)) % P25)) ∧ Hid (Num wr (.slice xa xc xd) A) ∧ Hid (Num wr (.slice ya yc yd) E) ∧ Hid (Below w.heap.size w wr)) (fun _ y _ => (intOf y + 1).toNat)
  case atStart => exact ⟨0, by omega, by go_num, by rw [Nat.sub_zero, Nat.div_eq_of_lt HNB.out]; exact R2, A2, Y2, G2⟩
  case round =>
    obtain ⟨k, hk, rfl, hR, hA, hY, hG⟩ := hrel
    clear R2 A2 Y2 G2
    obtain ⟨w3, hw3⟩ : ∃ w3, wr = w3 := ⟨_, rfl⟩
    subst hw3
    obtain ⟨za, zc, zd, rfl⟩ := hR.out.shape
    by_cases hlt : k < nb
    · obtain ⟨i, hi⟩ : ∃ i : Nat, (nb : Int) - 1 - (k : Int) = (i : Int) := ⟨nb - 1 - k, by omega⟩
      have Hi : Hid ((nb : Int) - 1 - (k : Int) = (i : Int)) := hi
      have hi3 : i ≤ 264 := by omega
      have e1 : nb - k = i + 1 := by omega
      have e2 : nb - (k + 1) = i := by omega
      rw [e1] at hR
      have HE : Hid (E / 2 ^ i = 2 * (E / 2 ^ (i + 1)) + E / 2 ^ i % 2) := half_up4 E i
      obtain ⟨t, ht⟩ : ∃ t, E / 2 ^ (i + 1) = t := ⟨_, rfl⟩
      obtain ⟨z, hz⟩ : ∃ z, E / 2 ^ i % 2 = z := ⟨_, rfl⟩
      have hz1 : z = 0 ∨ z = 1 := by omega
      rw [ht, hz] at HE
      rw [ht] at hR
      have CI' : Hid (∀ w, Num w (.slice ya yc yd) E → Calls Tryd.prog 42 #[.slice ya yc yd, .int .i64 (i : Int)] w fun e w' => e = .returned (.int .i64 (z : Int)) ∧ Below w.heap.size w w') := by
        intro w h; have := CI.out i w hi3 h; rwa [hz] at this
      have HE2 : Hid (E / 2 ^ (nb - (k + 1)) = 2 * t + z) := by unfold Hid; rw [e2]; exact HE.out
      have hi0 : (0 : Int) ≤ (i : Int) := by omega
      rw [hi]
      clear hi e1 e2 ht hz HE
      go_wp2_with fail
      refine (CS.out t _ _ hR.out).mono ?_
      rintro e w4 ⟨v4, rfl, h4, g4⟩
      obtain ⟨qa, qc, qd, rfl⟩ := h4.shape
      have R4 : Hid (Num w4 (.slice qa qc qd) (A ^ (2 * t) % P25)) := h4
      have A4 := hold (hA.out.below g4)
      have Y4 := hold (hY.out.below g4)
      have G4 := hold (hG.out.trans (g4.mono hG.out.size))
      clear h4 g4 hR hA hY hG
      go_wp2_with fail
      refine (CI'.out _ Y4.out).mono ?_
      rintro e w5 ⟨rfl, g5⟩
      have R5 := hold (R4.out.below g5)
      have A5 := hold (A4.out.below g5)
      have Y5 := hold (Y4.out.below g5)
      have G5 := hold (G4.out.trans (g5.mono G4.out.size))
      clear g5 R4 A4 Y4 G4
      rcases hz1 with rfl | rfl
      · have F : Hid (Num w5 (.slice qa qc qd) (A ^ (E / 2 ^ (nb - (k + 1))) % P25)) := by unfold Hid; rw [HE2.out, Nat.add_zero]; exact R5.out
        clear HE2 R5
        go_wp2_with fail
        go_roundw
        case rel => exact ⟨k + 1, by omega, by have := Hi.out; go_num, F, A5, Y5, G5⟩
        case measure => simp [intOf]
      · go_wp2_with fail
        refine (CT.out (2 * t) _ _ R5.out A5.out).mono ?_
        rintro e w6 ⟨v6, rfl, h6, g6⟩
        have F : Hid (Num w6 v6 (A ^ (E / 2 ^ (nb - (k + 1))) % P25)) := by unfold Hid; rw [HE2.out]; exact h6
        have A6 := hold (A5.out.below g6)
        have Y6 := hold (Y5.out.below g6)
        have G6 := hold (G5.out.trans (g6.mono G5.out.size))
        clear h6 g6 HE2 R5 A5 Y5 G5
        go_wp2_with fail
        go_roundw
        case rel => exact ⟨k + 1, by omega, by have := Hi.out; go_num, F, A6, Y6, G6⟩
        case measure => simp [intOf]
    · obtain rfl : k = nb := by omega
      have hm1 : (k : Int) - 1 - (k : Int) = -1 := by omega
      rw [hm1]
      rw [Nat.sub_self, Nat.pow_zero, Nat.div_one] at hR
      go_wp2_with fail
      go_ret
      exact ⟨_, rfl, hR.out, hG.out⟩

set_option maxRecDepth 100000 in
set_option maxHeartbeats 2000000 in
theorem invD_num4 (A : Nat) (va : Value) (w : World) (hA : Num w va A) (hb : A < 16777216 ^ 11) :
    Calls Tryd.prog 67 #[va] w fun e w' => ∃ v, e = .returned v ∧ Num w' v (A ^ (P25 - 2) % P25) ∧ Below w.heap.size w w' := by
  obtain ⟨Aa, Ac, Ad, rfl⟩ := hA.shape
  have A_0 : Hid (Num w (.slice Aa Ac Ad) (A)) := hA
  clear hA
  have b1 : Hid (A < 16777216 ^ 11) := hb
  clear hb
  go_enter Tryd.func67, Tryd.ntmps67
  go_wp2_with fail
  refine (pD_num _).mono ?_
  rintro e w1 ⟨v, rfl, hn, g⟩
  obtain ⟨Pa, Pc, Pd, rfl⟩ := hn.shape
  have P_1 : Hid (Num w1 (.slice Pa Pc Pd) (P25)) := hn
  have A_1 := hold (A_0.out.below g)
  have G_1 : Hid (Below w.heap.size w w1) := g
  clear A_0 hn g
  go_wp2_with fail
  refine calls_at (fun V => Num V (.slice Aa Ac Ad) (A) ∧ Num V (.slice Pa Pc Pd) (P25) ∧ Num V (.slice (some ⟨w1.heap.size, 0, none⟩) 1 1) 2 ∧ Below w.heap.size w V) ⟨A_1.out.below ((Below.refl _ _).alloc (Nat.le_refl _) _), P_1.out.below ((Below.refl _ _).alloc (Nat.le_refl _) _), num_lit w1 2 (by omega) (by omega), G_1.out.alloc G_1.out.size _⟩ ?_
  rintro w2 ⟨k0, k1, k2, hG⟩
  have A_2 : Hid (Num w2 (.slice Aa Ac Ad) (A)) := k0
  have P_2 : Hid (Num w2 (.slice Pa Pc Pd) (P25)) := k1
  have B_2 : Hid (Num w2 (.slice (some ⟨w1.heap.size, 0, none⟩) 1 1) 2) := k2
  have G_2 : Hid (Below w.heap.size w w2) := hG
  clear A_1 P_1 G_1 hG k0 k1 k2
  refine (sub_num P25 2 _ _ _ P_2.out B_2.out 22 P25_lt22 (by omega) (by decide +kernel)).mono ?_
  rintro e w3 ⟨v, rfl, hn, g⟩
  obtain ⟨Ca, Cc, Cd, rfl⟩ := hn.shape
  have C_3 : Hid (Num w3 (.slice Ca Cc Cd) (P25 - 2)) := hn
  have A_3 := hold (A_2.out.below g)
  have G_3 := hold (G_2.out.trans (g.mono G_2.out.size))
  clear A_2 P_2 B_2 G_2 hn g
  go_wp2_with fail
  refine (expD_num4 A (P25 - 2) _ _ _ A_3.out C_3.out b1.out (by decide +kernel)).mono ?_
  rintro e w4 ⟨v, rfl, hn, g⟩
  obtain ⟨Ea, Ec, Ed, rfl⟩ := hn.shape
  have E_4 : Hid (Num w4 (.slice Ea Ec Ed) (A ^ (P25 - 2) % P25)) := hn
  have A_4 := hold (A_3.out.below g)
  have C_4 := hold (C_3.out.below g)
  have G_4 := hold (G_3.out.trans (g.mono G_3.out.size))
  clear A_3 C_3 G_3 hn g
  go_wp2_with fail
  go_ret
  exact ⟨_, rfl, E_4.out, G_4.out⟩

set_option maxRecDepth 100000 in
set_option maxHeartbeats 2000000 in
theorem oddD_num (A : Nat) (va : Value) (w : World) (hA : Num w va A) (hb : A < 16777216 ^ 22) :
    Calls Tryd.prog 57 #[va] w fun e w' => e = .returned (.bool (decide (A % 2 = 1))) ∧ Below w.heap.size w w' := by
  obtain ⟨Aa, Ac, Ad, rfl⟩ := hA.shape
  have A_0 : Hid (Num w (.slice Aa Ac Ad) (A)) := hA
  clear hA
  have C : Hid (∀ w, Num w (.slice Aa Ac Ad) A → Calls Tryd.prog 42 #[.slice Aa Ac Ad, .int .i64 0] w fun e w' => e = .returned (.int .i64 ((A % 2 : Nat) : Int)) ∧ Below w.heap.size w w') := by
    intro w h; have := bit_num A _ 0 w h 22 hb (by omega) (by omega); rwa [Nat.pow_zero, Nat.div_one] at this
  obtain ⟨z, hz⟩ : ∃ z, A % 2 = z := ⟨_, rfl⟩
  have hz1 : z = 0 ∨ z = 1 := by omega
  rw [hz] at C ⊢
  clear hz hb
  rcases hz1 with rfl | rfl
  all_goals
    go_enter Tryd.func57, Tryd.ntmps57
    go_wp2_with fail
    refine (C.out _ A_0.out).mono ?_
    rintro e w1 ⟨rfl, g⟩
    have A_1 := hold (A_0.out.below g)
    have G_1 : Hid (Below w.heap.size w w1) := g
    clear A_0 g
    go_wp2_with fail
    go_ret
    exact ⟨rfl, G_1.out⟩

/-- A number, or its other sign, that is even. -/
def evn (A : Nat) : Nat := if A % 2 = 1 then (P25 - A) % P25 else A
set_option maxRecDepth 100000 in
set_option maxHeartbeats 2000000 in
theorem evenD_num (A : Nat) (va : Value) (w : World) (hA : Num w va A) (hb : A < P25) :
    Calls Tryd.prog 110 #[va] w fun e w' => ∃ v, e = .returned v ∧ Num w' v (evn A) ∧ Below w.heap.size w w' := by
  obtain ⟨Aa, Ac, Ad, rfl⟩ := hA.shape
  have A_0 : Hid (Num w (.slice Aa Ac Ad) (A)) := hA
  clear hA
  have hb2 : A < 16777216 ^ 22 := Nat.lt_trans hb P25_lt22
  have C : Hid (∀ w, Num w (.slice Aa Ac Ad) A → Calls Tryd.prog 57 #[.slice Aa Ac Ad] w fun e w' => e = .returned (.bool (decide (A % 2 = 1))) ∧ Below w.heap.size w w') := fun w h => oddD_num A _ w h hb2
  have S : Hid (∀ w, Num w (.slice Aa Ac Ad) A → Calls Tryd.prog 49 #[.slice none 0 0, .slice Aa Ac Ad] w fun e w' => ∃ v, e = .returned v ∧ Num w' v ((P25 - A) % P25) ∧ Below w.heap.size w w') := by
    intro w h; have := subD_num 0 A _ _ w (num_none w) h (by decide +kernel) (by omega); rwa [Nat.zero_add] at this
  unfold evn
  by_cases h : A % 2 = 1
  · rw [if_pos h]
    rw [decide_eq_true h] at C
    clear hb hb2 h
    go_enter Tryd.func110, Tryd.ntmps110
    go_wp2_with fail
    refine (C.out _ A_0.out).mono ?_
    rintro e w1 ⟨rfl, g⟩
    have A_1 := hold (A_0.out.below g)
    have G_1 : Hid (Below w.heap.size w w1) := g
    clear A_0 g
    go_wp2_with fail
    refine (S.out _ A_1.out).mono ?_
    rintro e w2 ⟨v, rfl, hn, g⟩
    obtain ⟨Ea, Ec, Ed, rfl⟩ := hn.shape
    have E_2 : Hid (Num w2 (.slice Ea Ec Ed) ((P25 - A) % P25)) := hn
    have A_2 := hold (A_1.out.below g)
    have G_2 := hold (G_1.out.trans (g.mono G_1.out.size))
    clear A_1 G_1 hn g
    go_wp2_with fail
    go_ret
    exact ⟨_, rfl, E_2.out, G_2.out⟩
  · rw [if_neg h]
    rw [decide_eq_false h] at C
    clear hb hb2 h
    go_enter Tryd.func110, Tryd.ntmps110
    go_wp2_with fail
    refine (C.out _ A_0.out).mono ?_
    rintro e w1 ⟨rfl, g⟩
    have A_1 := hold (A_0.out.below g)
    have G_1 : Hid (Below w.heap.size w w1) := g
    clear A_0 g
    go_wp2_with fail
    go_ret
    exact ⟨_, rfl, A_1.out, G_1.out⟩

end Go.Proofs.YtedhfimjcpbcpaaDoor

/-
  The contracts of the document's own roots, ratios and rests of layer 4. Conditions: as each theorem says.
-/
namespace Go.Proofs.YtedhfimjcpbcpaaDoor
open Go.RowKit
set_option linter.unusedVariables false

/-- The document's first try at a root, and its second. -/
def rt1 (a : Nat) : Nat := a ^ ((P25 + 3) / 8) % P25
def rt2 (a : Nat) : Nat := rt1 a * I25 % P25
def rootOk (a : Nat) : Bool := if rt1 a * rt1 a % P25 = a then true else if rt2 a * rt2 a % P25 = a then true else false
def rootN (a : Nat) : Nat := if rt1 a * rt1 a % P25 = a then evn (rt1 a) else if rt2 a * rt2 a % P25 = a then evn (rt2 a) else 0
def ratOk (u v : Nat) : Bool := if v = 0 ∧ 0 < u then false else rootOk (u * (v ^ (P25 - 2) % P25) % P25)
def ratN (u v : Nat) : Nat := if v = 0 ∧ 0 < u then 0 else rootN (u * (v ^ (P25 - 2) % P25) % P25)
theorem rt1_lt (a : Nat) : rt1 a < P25 := Nat.mod_lt _ (by decide +kernel)
theorem rt2_lt (a : Nat) : rt2 a < P25 := Nat.mod_lt _ (by decide +kernel)
theorem num_len0 {w : World} {v : Value} {N : Nat} (h : Num w v N) : ∀ a n c, v = .slice a n c → (N = 0 ↔ n = 0) := by
  intro a n c e
  subst e
  obtain ⟨l, ⟨a', cap, e, -, -, -⟩, h2, h3, h4⟩ := h
  simp only [Value.slice.injEq] at e
  obtain ⟨-, rfl, -⟩ := e
  rcases h3 with rfl | h3
  · simp [valD] at h4; simp [← h4]
  · constructor
    · intro h0
      subst h0
      rcases Nat.eq_zero_or_pos l.length with hl | hl
      · exact hl
      · exfalso
        have e1 := valD_take l (l.length - 1)
        rw [show l.length - 1 + 1 = l.length by omega, List.take_length, h4] at e1
        have : 0 < 16777216 ^ (l.length - 1) * l.getD (l.length - 1) 0 := Nat.mul_pos (Nat.pow_pos (by omega)) (by omega)
        omega
    · intro hl
      have : l = [] := List.length_eq_zero_iff.1 hl
      subst this
      simpa [valD] using h4.symm
theorem ord_zero (a b : Nat) : ord (a : Int) (b : Int) = 0 ↔ a = b := by unfold ord; split <;> (try split) <;> omega
theorem I25_pow' : 2 ^ ((P25 - 1) / 2 ^ 2) % P25 = I25 := by rw [show (2 : Nat) ^ 2 = 4 from rfl]; exact I25_pow
theorem down3 : (P25 + 3) / 2 ^ 3 = (P25 + 3) / 8 := rfl

set_option maxRecDepth 100000 in
set_option maxHeartbeats 2000000 in
theorem rootD_num (A : Nat) (va : Value) (w : World) (hA : Num w va A) (hb : A < P25) :
    Calls Tryd.prog 91 #[va] w fun e w' => ∃ v, e = .returned (.tuple #[v, .bool (rootOk A)]) ∧ Num w' v (rootN A) ∧ Below w.heap.size w w' := by
  obtain ⟨Aa, Ac, Ad, rfl⟩ := hA.shape
  have A_0 : Hid (Num w (.slice Aa Ac Ad) (A)) := hA
  clear hA
  have b1 : Hid (A < P25) := hb
  have b2 : Hid (A < 16777216 ^ 11) := Nat.lt_trans hb P25_lt11
  have C1 : Hid (∀ v w, Num w v (P25 + 3) → Calls Tryd.prog 109 #[v, .int .i64 3] w fun e w' => ∃ v, e = .returned v ∧ Num w' v ((P25 + 3) / 8) ∧ Below w.heap.size w w') := by
    intro v w h; have := down_num (P25 + 3) v 3 w h 22 (by decide +kernel) (by omega) (by omega); rwa [down3] at this
  have C2 : Hid (∀ v w, Num w (.slice Aa Ac Ad) A → Num w v ((P25 + 3) / 8) → Calls Tryd.prog 98 #[.slice Aa Ac Ad, v] w fun e w' => ∃ v, e = .returned v ∧ Num w' v (rt1 A) ∧ Below w.heap.size w w') := fun v w h h' => expD_num4 A _ _ v w h h' b2.out (by decide +kernel)
  have C3 : Hid (∀ v w, Num w v (rt1 A) → Calls Tryd.prog 47 #[v, v] w fun e w' => ∃ v, e = .returned v ∧ Num w' v (rt1 A * rt1 A % P25) ∧ Below w.heap.size w w') := fun v w h => mulD_num _ _ v v w h h (Nat.lt_trans (rt1_lt A) P25_lt11) (Nat.lt_trans (rt1_lt A) P25_lt11)
  have C4 : Hid (∀ N v w, N < P25 → Num w v N → Num w (.slice Aa Ac Ad) A → Calls Tryd.prog 45 #[v, .slice Aa Ac Ad] w fun e w' => e = .returned (.int .i64 (ord (N : Int) (A : Int))) ∧ Below w.heap.size w w') := fun N v w hN h h' => cmp_num N A v _ w h h' 22 (Nat.lt_trans hN P25_lt22) (Nat.lt_trans b1.out P25_lt22) (by omega)
  have C5 : Hid (∀ N v w, N < P25 → Num w v N → Calls Tryd.prog 110 #[v] w fun e w' => ∃ v, e = .returned v ∧ Num w' v (evn N) ∧ Below w.heap.size w w') := fun N v w hN h => evenD_num N v w h hN
  have C6 : Hid (∀ v w, Num w v (P25 - 1) → Calls Tryd.prog 109 #[v, .int .i64 2] w fun e w' => ∃ v, e = .returned v ∧ Num w' v ((P25 - 1) / 2 ^ 2) ∧ Below w.heap.size w w') := fun v w h => down_num (P25 - 1) v 2 w h 22 (by decide +kernel) (by omega) (by omega)
  have C7 : Hid (∀ u v w, Num w u 2 → Num w v ((P25 - 1) / 2 ^ 2) → Calls Tryd.prog 98 #[u, v] w fun e w' => ∃ v, e = .returned v ∧ Num w' v I25 ∧ Below w.heap.size w w') := by
    intro u v w h h'; have := expD_num4 2 _ u v w h h' (by decide +kernel) (by decide +kernel); rwa [I25_pow'] at this
  have C8 : Hid (∀ u v w, Num w u (rt1 A) → Num w v I25 → Calls Tryd.prog 47 #[u, v] w fun e w' => ∃ v, e = .returned v ∧ Num w' v (rt2 A) ∧ Below w.heap.size w w') := fun u v w h h' => mulD_num _ _ u v w h h' (Nat.lt_trans (rt1_lt A) P25_lt11) (by decide +kernel)
  have C9 : Hid (∀ v w, Num w v (rt2 A) → Calls Tryd.prog 47 #[v, v] w fun e w' => ∃ v, e = .returned v ∧ Num w' v (rt2 A * rt2 A % P25) ∧ Below w.heap.size w w') := fun v w h => mulD_num _ _ v v w h h (Nat.lt_trans (rt2_lt A) P25_lt11) (Nat.lt_trans (rt2_lt A) P25_lt11)
  have m1 : Hid (rt1 A * rt1 A % P25 < P25) := Nat.mod_lt _ (by decide +kernel)
  have m2 : Hid (rt2 A * rt2 A % P25 < P25) := Nat.mod_lt _ (by decide +kernel)
  have m3 : Hid (rt1 A < P25) := rt1_lt A
  have m4 : Hid (rt2 A < P25) := rt2_lt A
  have z1 := ord_zero (rt1 A * rt1 A % P25) A
  have z2 := ord_zero (rt2 A * rt2 A % P25) A
  unfold rootOk rootN
  generalize rt1 A * rt1 A % P25 = X1 at *
  generalize rt2 A * rt2 A % P25 = X2 at *
  generalize rt1 A = r1 at *
  generalize rt2 A = r2 at *
  have C41 := C4.out X1
  have C42 := C4.out X2
  obtain ⟨o1, ho1⟩ : ∃ o : Int, ord (X1 : Int) (A : Int) = o := ⟨_, rfl⟩
  obtain ⟨o2, ho2⟩ : ∃ o : Int, ord (X2 : Int) (A : Int) = o := ⟨_, rfl⟩
  rw [ho1] at C41 z1
  rw [ho2] at C42 z2
  have D1 : Hid (∀ v w, X1 < P25 → Num w v X1 → Num w (.slice Aa Ac Ad) A → Calls Tryd.prog 45 #[v, .slice Aa Ac Ad] w fun e w' => e = .returned (.int .i64 o1) ∧ Below w.heap.size w w') := C41
  have D2 : Hid (∀ v w, X2 < P25 → Num w v X2 → Num w (.slice Aa Ac Ad) A → Calls Tryd.prog 45 #[v, .slice Aa Ac Ad] w fun e w' => e = .returned (.int .i64 o2) ∧ Below w.heap.size w w') := C42
  clear C41 C42 C4 ho1 ho2 hb
  by_cases h1 : X1 = A
  · rw [if_pos h1, if_pos h1]
    have o0 : o1 = 0 := z1.2 h1
    rw [o0] at D1
    clear z1 z2 h1 o0 C6 C7 C8 C9 D2 m2 m4
    go_enter Tryd.func91, Tryd.ntmps91
    go_wp2_with fail
    refine (pD_num _).mono ?_
    rintro e w1 ⟨v, rfl, hn, g⟩
    obtain ⟨Pa, Pc, Pd, rfl⟩ := hn.shape
    have P_1 : Hid (Num w1 (.slice Pa Pc Pd) (P25)) := hn
    have A_1 := hold (A_0.out.below g)
    have G_1 : Hid (Below w.heap.size w w1) := g
    clear A_0 hn g
    go_wp2_with fail
    refine calls_at (fun V => Num V (.slice Aa Ac Ad) (A) ∧ Num V (.slice Pa Pc Pd) (P25) ∧ Num V (.slice (some ⟨w1.heap.size, 0, none⟩) 1 1) 3 ∧ Below w.heap.size w V) ⟨A_1.out.below ((Below.refl _ _).alloc (Nat.le_refl _) _), P_1.out.below ((Below.refl _ _).alloc (Nat.le_refl _) _), num_lit w1 3 (by omega) (by omega), G_1.out.alloc G_1.out.size _⟩ ?_
    rintro w2 ⟨k0, k1, k2, hG⟩
    have A_2 : Hid (Num w2 (.slice Aa Ac Ad) (A)) := k0
    have P_2 : Hid (Num w2 (.slice Pa Pc Pd) (P25)) := k1
    have L_2 : Hid (Num w2 (.slice (some ⟨w1.heap.size, 0, none⟩) 1 1) 3) := k2
    have G_2 : Hid (Below w.heap.size w w2) := hG
    clear A_1 P_1 G_1 hG k0 k1 k2
    refine (add_num P25 3 _ _ _ P_2.out L_2.out 11 P25_lt11 (by decide +kernel) (by omega)).mono ?_
    rintro e w3 ⟨v, rfl, hn, g⟩
    obtain ⟨Sa, Sc, Sd, rfl⟩ := hn.shape
    have S_3 : Hid (Num w3 (.slice Sa Sc Sd) (P25 + 3)) := hn
    have A_3 := hold (A_2.out.below g)
    have P_3 := hold (P_2.out.below g)
    have G_3 := hold (G_2.out.trans (g.mono G_2.out.size))
    clear A_2 P_2 L_2 G_2 hn g
    go_wp2_with fail
    refine (C1.out _ _ S_3.out).mono ?_
    rintro e w4 ⟨v, rfl, hn, g⟩
    obtain ⟨Qa, Qc, Qd, rfl⟩ := hn.shape
    have Q_4 : Hid (Num w4 (.slice Qa Qc Qd) ((P25 + 3) / 8)) := hn
    have A_4 := hold (A_3.out.below g)
    have P_4 := hold (P_3.out.below g)
    have G_4 := hold (G_3.out.trans (g.mono G_3.out.size))
    clear A_3 P_3 S_3 G_3 hn g
    go_wp2_with fail
    refine (C2.out _ _ A_4.out Q_4.out).mono ?_
    rintro e w5 ⟨v, rfl, hn, g⟩
    obtain ⟨Xa, Xc, Xd, rfl⟩ := hn.shape
    have X_5 : Hid (Num w5 (.slice Xa Xc Xd) (r1)) := hn
    have A_5 := hold (A_4.out.below g)
    have P_5 := hold (P_4.out.below g)
    have G_5 := hold (G_4.out.trans (g.mono G_4.out.size))
    clear A_4 P_4 Q_4 G_4 hn g
    go_wp2_with fail
    refine (C3.out _ _ X_5.out).mono ?_
    rintro e w6 ⟨v, rfl, hn, g⟩
    obtain ⟨Ya, Yc, Yd, rfl⟩ := hn.shape
    have Y_6 : Hid (Num w6 (.slice Ya Yc Yd) (X1)) := hn
    have A_6 := hold (A_5.out.below g)
    have P_6 := hold (P_5.out.below g)
    have X_6 := hold (X_5.out.below g)
    have G_6 := hold (G_5.out.trans (g.mono G_5.out.size))
    clear A_5 P_5 X_5 G_5 hn g
    go_wp2_with fail
    refine (D1.out _ _ m1.out Y_6.out A_6.out).mono ?_
    rintro e w7 ⟨rfl, g⟩
    have A_7 := hold (A_6.out.below g)
    have P_7 := hold (P_6.out.below g)
    have X_7 := hold (X_6.out.below g)
    have G_7 := hold (G_6.out.trans (g.mono G_6.out.size))
    clear A_6 P_6 X_6 Y_6 G_6 g
    go_wp2_with fail
    refine (C5.out _ _ _ m3.out X_7.out).mono ?_
    rintro e w8 ⟨v, rfl, hn, g⟩
    obtain ⟨Ea, Ec, Ed, rfl⟩ := hn.shape
    have E_8 : Hid (Num w8 (.slice Ea Ec Ed) (evn r1)) := hn
    have A_8 := hold (A_7.out.below g)
    have P_8 := hold (P_7.out.below g)
    have X_8 := hold (X_7.out.below g)
    have G_8 := hold (G_7.out.trans (g.mono G_7.out.size))
    clear A_7 P_7 X_7 G_7 hn g
    go_wp2_with fail
    refine bodyPost_ret (results_tmp2 rfl _ _ _) rfl ?_
    exact ⟨_, rfl, E_8.out, G_8.out⟩
  · rw [if_neg h1, if_neg h1]
    have o0 : o1 ≠ 0 := fun h => h1 (z1.1 h)
    have o9 : o1 = 0 ↔ False := ⟨o0, False.elim⟩
    by_cases h2 : X2 = A
    · rw [if_pos h2, if_pos h2]
      have o5 : o2 = 0 := z2.2 h2
      rw [o5] at D2
      clear z1 z2 h1 h2 o5 o9
      go_enter Tryd.func91, Tryd.ntmps91
      go_wp2_with fail
      refine (pD_num _).mono ?_
      rintro e w1 ⟨v, rfl, hn, g⟩
      obtain ⟨Pa, Pc, Pd, rfl⟩ := hn.shape
      have P_1 : Hid (Num w1 (.slice Pa Pc Pd) (P25)) := hn
      have A_1 := hold (A_0.out.below g)
      have G_1 : Hid (Below w.heap.size w w1) := g
      clear A_0 hn g
      go_wp2_with fail
      refine calls_at (fun V => Num V (.slice Aa Ac Ad) (A) ∧ Num V (.slice Pa Pc Pd) (P25) ∧ Num V (.slice (some ⟨w1.heap.size, 0, none⟩) 1 1) 3 ∧ Below w.heap.size w V) ⟨A_1.out.below ((Below.refl _ _).alloc (Nat.le_refl _) _), P_1.out.below ((Below.refl _ _).alloc (Nat.le_refl _) _), num_lit w1 3 (by omega) (by omega), G_1.out.alloc G_1.out.size _⟩ ?_
      rintro w2 ⟨k0, k1, k2, hG⟩
      have A_2 : Hid (Num w2 (.slice Aa Ac Ad) (A)) := k0
      have P_2 : Hid (Num w2 (.slice Pa Pc Pd) (P25)) := k1
      have L_2 : Hid (Num w2 (.slice (some ⟨w1.heap.size, 0, none⟩) 1 1) 3) := k2
      have G_2 : Hid (Below w.heap.size w w2) := hG
      clear A_1 P_1 G_1 hG k0 k1 k2
      refine (add_num P25 3 _ _ _ P_2.out L_2.out 11 P25_lt11 (by decide +kernel) (by omega)).mono ?_
      rintro e w3 ⟨v, rfl, hn, g⟩
      obtain ⟨Sa, Sc, Sd, rfl⟩ := hn.shape
      have S_3 : Hid (Num w3 (.slice Sa Sc Sd) (P25 + 3)) := hn
      have A_3 := hold (A_2.out.below g)
      have P_3 := hold (P_2.out.below g)
      have G_3 := hold (G_2.out.trans (g.mono G_2.out.size))
      clear A_2 P_2 L_2 G_2 hn g
      go_wp2_with fail
      refine (C1.out _ _ S_3.out).mono ?_
      rintro e w4 ⟨v, rfl, hn, g⟩
      obtain ⟨Qa, Qc, Qd, rfl⟩ := hn.shape
      have Q_4 : Hid (Num w4 (.slice Qa Qc Qd) ((P25 + 3) / 8)) := hn
      have A_4 := hold (A_3.out.below g)
      have P_4 := hold (P_3.out.below g)
      have G_4 := hold (G_3.out.trans (g.mono G_3.out.size))
      clear A_3 P_3 S_3 G_3 hn g
      go_wp2_with fail
      refine (C2.out _ _ A_4.out Q_4.out).mono ?_
      rintro e w5 ⟨v, rfl, hn, g⟩
      obtain ⟨Xa, Xc, Xd, rfl⟩ := hn.shape
      have X_5 : Hid (Num w5 (.slice Xa Xc Xd) (r1)) := hn
      have A_5 := hold (A_4.out.below g)
      have P_5 := hold (P_4.out.below g)
      have G_5 := hold (G_4.out.trans (g.mono G_4.out.size))
      clear A_4 P_4 Q_4 G_4 hn g
      go_wp2_with fail
      refine (C3.out _ _ X_5.out).mono ?_
      rintro e w6 ⟨v, rfl, hn, g⟩
      obtain ⟨Ya, Yc, Yd, rfl⟩ := hn.shape
      have Y_6 : Hid (Num w6 (.slice Ya Yc Yd) (X1)) := hn
      have A_6 := hold (A_5.out.below g)
      have P_6 := hold (P_5.out.below g)
      have X_6 := hold (X_5.out.below g)
      have G_6 := hold (G_5.out.trans (g.mono G_5.out.size))
      clear A_5 P_5 X_5 G_5 hn g
      go_wp2_with fail
      refine (D1.out _ _ m1.out Y_6.out A_6.out).mono ?_
      rintro e w7 ⟨rfl, g⟩
      have A_7 := hold (A_6.out.below g)
      have P_7 := hold (P_6.out.below g)
      have X_7 := hold (X_6.out.below g)
      have G_7 := hold (G_6.out.trans (g.mono G_6.out.size))
      clear A_6 P_6 X_6 Y_6 G_6 g
      go_wp2_with fail
      have lit2 : Num ((w7.alloc (.cells #[.int .i64 2] 3)).alloc (.cells #[.int .i64 1] 3)) (.slice (some ⟨w7.heap.size + 1, 0, none⟩) 1 1) 1 := by have := num_lit (w7.alloc (.cells #[.int .i64 2] 3)) 1 (by omega) (by omega); simpa using this
      refine calls_at (fun V => Num V (.slice Aa Ac Ad) (A) ∧ Num V (.slice Pa Pc Pd) (P25) ∧ Num V (.slice Xa Xc Xd) (r1) ∧ Num V (.slice (some ⟨w7.heap.size, 0, none⟩) 1 1) 2 ∧ Num V (.slice (some ⟨w7.heap.size + 1, 0, none⟩) 1 1) 1 ∧ Below w.heap.size w V) ⟨A_7.out.below (((Below.refl _ _).alloc (Nat.le_refl _) _).alloc (by simp) _), P_7.out.below (((Below.refl _ _).alloc (Nat.le_refl _) _).alloc (by simp) _), X_7.out.below (((Below.refl _ _).alloc (Nat.le_refl _) _).alloc (by simp) _), (num_lit w7 2 (by omega) (by omega)).below ((Below.refl _ _).alloc (Nat.le_refl _) _), lit2, (G_7.out.alloc G_7.out.size _).alloc (by simp; have := G_7.out.size; omega) _⟩ ?_
      rintro w8 ⟨k0, k1, k2, k3, k4, hG⟩
      have A_8 : Hid (Num w8 (.slice Aa Ac Ad) (A)) := k0
      have P_8 : Hid (Num w8 (.slice Pa Pc Pd) (P25)) := k1
      have X_8 : Hid (Num w8 (.slice Xa Xc Xd) (r1)) := k2
      have L_8 : Hid (Num w8 (.slice (some ⟨w7.heap.size, 0, none⟩) 1 1) 2) := k3
      have M_8 : Hid (Num w8 (.slice (some ⟨w7.heap.size + 1, 0, none⟩) 1 1) 1) := k4
      have G_8 : Hid (Below w.heap.size w w8) := hG
      clear A_7 P_7 X_7 G_7 lit2 hG k0 k1 k2 k3 k4
      refine (sub_num P25 1 _ _ _ P_8.out M_8.out 22 P25_lt22 (by omega) (by decide +kernel)).mono ?_
      rintro e w9 ⟨v, rfl, hn, g⟩
      obtain ⟨Sa, Sc, Sd, rfl⟩ := hn.shape
      have S_9 : Hid (Num w9 (.slice Sa Sc Sd) (P25 - 1)) := hn
      have A_9 := hold (A_8.out.below g)
      have X_9 := hold (X_8.out.below g)
      have L_9 := hold (L_8.out.below g)
      have G_9 := hold (G_8.out.trans (g.mono G_8.out.size))
      clear A_8 P_8 X_8 L_8 M_8 G_8 hn g
      go_wp2_with fail
      refine (C6.out _ _ S_9.out).mono ?_
      rintro e w10 ⟨v, rfl, hn, g⟩
      obtain ⟨Qa, Qc, Qd, rfl⟩ := hn.shape
      have Q_10 : Hid (Num w10 (.slice Qa Qc Qd) ((P25 - 1) / 2 ^ 2)) := hn
      have A_10 := hold (A_9.out.below g)
      have X_10 := hold (X_9.out.below g)
      have L_10 := hold (L_9.out.below g)
      have G_10 := hold (G_9.out.trans (g.mono G_9.out.size))
      clear A_9 X_9 L_9 S_9 G_9 hn g
      go_wp2_with fail
      refine (C7.out _ _ _ L_10.out Q_10.out).mono ?_
      rintro e w11 ⟨v, rfl, hn, g⟩
      obtain ⟨Ia, Ic, Id, rfl⟩ := hn.shape
      have I_11 : Hid (Num w11 (.slice Ia Ic Id) (I25)) := hn
      have A_11 := hold (A_10.out.below g)
      have X_11 := hold (X_10.out.below g)
      have G_11 := hold (G_10.out.trans (g.mono G_10.out.size))
      clear A_10 X_10 L_10 Q_10 G_10 hn g
      go_wp2_with fail
      refine (C8.out _ _ _ X_11.out I_11.out).mono ?_
      rintro e w12 ⟨v, rfl, hn, g⟩
      obtain ⟨Za, Zc, Zd, rfl⟩ := hn.shape
      have Z_12 : Hid (Num w12 (.slice Za Zc Zd) (r2)) := hn
      have A_12 := hold (A_11.out.below g)
      have G_12 := hold (G_11.out.trans (g.mono G_11.out.size))
      clear A_11 X_11 I_11 G_11 hn g
      go_wp2_with fail
      refine (C9.out _ _ Z_12.out).mono ?_
      rintro e w13 ⟨v, rfl, hn, g⟩
      obtain ⟨Ya, Yc, Yd, rfl⟩ := hn.shape
      have Y_13 : Hid (Num w13 (.slice Ya Yc Yd) (X2)) := hn
      have A_13 := hold (A_12.out.below g)
      have Z_13 := hold (Z_12.out.below g)
      have G_13 := hold (G_12.out.trans (g.mono G_12.out.size))
      clear A_12 Z_12 G_12 hn g
      go_wp2_with fail
      refine (D2.out _ _ m2.out Y_13.out A_13.out).mono ?_
      rintro e w14 ⟨rfl, g⟩
      have A_14 := hold (A_13.out.below g)
      have Z_14 := hold (Z_13.out.below g)
      have G_14 := hold (G_13.out.trans (g.mono G_13.out.size))
      clear A_13 Z_13 Y_13 G_13 g
      go_wp2_with fail
      refine (C5.out _ _ _ m4.out Z_14.out).mono ?_
      rintro e w15 ⟨v, rfl, hn, g⟩
      obtain ⟨Ea, Ec, Ed, rfl⟩ := hn.shape
      have E_15 : Hid (Num w15 (.slice Ea Ec Ed) (evn r2)) := hn
      have A_15 := hold (A_14.out.below g)
      have Z_15 := hold (Z_14.out.below g)
      have G_15 := hold (G_14.out.trans (g.mono G_14.out.size))
      clear A_14 Z_14 G_14 hn g
      go_wp2_with fail
      refine bodyPost_ret (results_tmp2 rfl _ _ _) rfl ?_
      exact ⟨_, rfl, E_15.out, G_15.out⟩
    · rw [if_neg h2, if_neg h2]
      have o5 : o2 ≠ 0 := fun h => h2 (z2.1 h)
      clear z1 z2 h1 h2 o9
      go_enter Tryd.func91, Tryd.ntmps91
      go_wp2_with fail
      refine (pD_num _).mono ?_
      rintro e w1 ⟨v, rfl, hn, g⟩
      obtain ⟨Pa, Pc, Pd, rfl⟩ := hn.shape
      have P_1 : Hid (Num w1 (.slice Pa Pc Pd) (P25)) := hn
      have A_1 := hold (A_0.out.below g)
      have G_1 : Hid (Below w.heap.size w w1) := g
      clear A_0 hn g
      go_wp2_with fail
      refine calls_at (fun V => Num V (.slice Aa Ac Ad) (A) ∧ Num V (.slice Pa Pc Pd) (P25) ∧ Num V (.slice (some ⟨w1.heap.size, 0, none⟩) 1 1) 3 ∧ Below w.heap.size w V) ⟨A_1.out.below ((Below.refl _ _).alloc (Nat.le_refl _) _), P_1.out.below ((Below.refl _ _).alloc (Nat.le_refl _) _), num_lit w1 3 (by omega) (by omega), G_1.out.alloc G_1.out.size _⟩ ?_
      rintro w2 ⟨k0, k1, k2, hG⟩
      have A_2 : Hid (Num w2 (.slice Aa Ac Ad) (A)) := k0
      have P_2 : Hid (Num w2 (.slice Pa Pc Pd) (P25)) := k1
      have L_2 : Hid (Num w2 (.slice (some ⟨w1.heap.size, 0, none⟩) 1 1) 3) := k2
      have G_2 : Hid (Below w.heap.size w w2) := hG
      clear A_1 P_1 G_1 hG k0 k1 k2
      refine (add_num P25 3 _ _ _ P_2.out L_2.out 11 P25_lt11 (by decide +kernel) (by omega)).mono ?_
      rintro e w3 ⟨v, rfl, hn, g⟩
      obtain ⟨Sa, Sc, Sd, rfl⟩ := hn.shape
      have S_3 : Hid (Num w3 (.slice Sa Sc Sd) (P25 + 3)) := hn
      have A_3 := hold (A_2.out.below g)
      have P_3 := hold (P_2.out.below g)
      have G_3 := hold (G_2.out.trans (g.mono G_2.out.size))
      clear A_2 P_2 L_2 G_2 hn g
      go_wp2_with fail
      refine (C1.out _ _ S_3.out).mono ?_
      rintro e w4 ⟨v, rfl, hn, g⟩
      obtain ⟨Qa, Qc, Qd, rfl⟩ := hn.shape
      have Q_4 : Hid (Num w4 (.slice Qa Qc Qd) ((P25 + 3) / 8)) := hn
      have A_4 := hold (A_3.out.below g)
      have P_4 := hold (P_3.out.below g)
      have G_4 := hold (G_3.out.trans (g.mono G_3.out.size))
      clear A_3 P_3 S_3 G_3 hn g
      go_wp2_with fail
      refine (C2.out _ _ A_4.out Q_4.out).mono ?_
      rintro e w5 ⟨v, rfl, hn, g⟩
      obtain ⟨Xa, Xc, Xd, rfl⟩ := hn.shape
      have X_5 : Hid (Num w5 (.slice Xa Xc Xd) (r1)) := hn
      have A_5 := hold (A_4.out.below g)
      have P_5 := hold (P_4.out.below g)
      have G_5 := hold (G_4.out.trans (g.mono G_4.out.size))
      clear A_4 P_4 Q_4 G_4 hn g
      go_wp2_with fail
      refine (C3.out _ _ X_5.out).mono ?_
      rintro e w6 ⟨v, rfl, hn, g⟩
      obtain ⟨Ya, Yc, Yd, rfl⟩ := hn.shape
      have Y_6 : Hid (Num w6 (.slice Ya Yc Yd) (X1)) := hn
      have A_6 := hold (A_5.out.below g)
      have P_6 := hold (P_5.out.below g)
      have X_6 := hold (X_5.out.below g)
      have G_6 := hold (G_5.out.trans (g.mono G_5.out.size))
      clear A_5 P_5 X_5 G_5 hn g
      go_wp2_with fail
      refine (D1.out _ _ m1.out Y_6.out A_6.out).mono ?_
      rintro e w7 ⟨rfl, g⟩
      have A_7 := hold (A_6.out.below g)
      have P_7 := hold (P_6.out.below g)
      have X_7 := hold (X_6.out.below g)
      have G_7 := hold (G_6.out.trans (g.mono G_6.out.size))
      clear A_6 P_6 X_6 Y_6 G_6 g
      go_wp2_with fail
      have lit2 : Num ((w7.alloc (.cells #[.int .i64 2] 3)).alloc (.cells #[.int .i64 1] 3)) (.slice (some ⟨w7.heap.size + 1, 0, none⟩) 1 1) 1 := by have := num_lit (w7.alloc (.cells #[.int .i64 2] 3)) 1 (by omega) (by omega); simpa using this
      refine calls_at (fun V => Num V (.slice Aa Ac Ad) (A) ∧ Num V (.slice Pa Pc Pd) (P25) ∧ Num V (.slice Xa Xc Xd) (r1) ∧ Num V (.slice (some ⟨w7.heap.size, 0, none⟩) 1 1) 2 ∧ Num V (.slice (some ⟨w7.heap.size + 1, 0, none⟩) 1 1) 1 ∧ Below w.heap.size w V) ⟨A_7.out.below (((Below.refl _ _).alloc (Nat.le_refl _) _).alloc (by simp) _), P_7.out.below (((Below.refl _ _).alloc (Nat.le_refl _) _).alloc (by simp) _), X_7.out.below (((Below.refl _ _).alloc (Nat.le_refl _) _).alloc (by simp) _), (num_lit w7 2 (by omega) (by omega)).below ((Below.refl _ _).alloc (Nat.le_refl _) _), lit2, (G_7.out.alloc G_7.out.size _).alloc (by simp; have := G_7.out.size; omega) _⟩ ?_
      rintro w8 ⟨k0, k1, k2, k3, k4, hG⟩
      have A_8 : Hid (Num w8 (.slice Aa Ac Ad) (A)) := k0
      have P_8 : Hid (Num w8 (.slice Pa Pc Pd) (P25)) := k1
      have X_8 : Hid (Num w8 (.slice Xa Xc Xd) (r1)) := k2
      have L_8 : Hid (Num w8 (.slice (some ⟨w7.heap.size, 0, none⟩) 1 1) 2) := k3
      have M_8 : Hid (Num w8 (.slice (some ⟨w7.heap.size + 1, 0, none⟩) 1 1) 1) := k4
      have G_8 : Hid (Below w.heap.size w w8) := hG
      clear A_7 P_7 X_7 G_7 lit2 hG k0 k1 k2 k3 k4
      refine (sub_num P25 1 _ _ _ P_8.out M_8.out 22 P25_lt22 (by omega) (by decide +kernel)).mono ?_
      rintro e w9 ⟨v, rfl, hn, g⟩
      obtain ⟨Sa, Sc, Sd, rfl⟩ := hn.shape
      have S_9 : Hid (Num w9 (.slice Sa Sc Sd) (P25 - 1)) := hn
      have A_9 := hold (A_8.out.below g)
      have X_9 := hold (X_8.out.below g)
      have L_9 := hold (L_8.out.below g)
      have G_9 := hold (G_8.out.trans (g.mono G_8.out.size))
      clear A_8 P_8 X_8 L_8 M_8 G_8 hn g
      go_wp2_with fail
      refine (C6.out _ _ S_9.out).mono ?_
      rintro e w10 ⟨v, rfl, hn, g⟩
      obtain ⟨Qa, Qc, Qd, rfl⟩ := hn.shape
      have Q_10 : Hid (Num w10 (.slice Qa Qc Qd) ((P25 - 1) / 2 ^ 2)) := hn
      have A_10 := hold (A_9.out.below g)
      have X_10 := hold (X_9.out.below g)
      have L_10 := hold (L_9.out.below g)
      have G_10 := hold (G_9.out.trans (g.mono G_9.out.size))
      clear A_9 X_9 L_9 S_9 G_9 hn g
      go_wp2_with fail
      refine (C7.out _ _ _ L_10.out Q_10.out).mono ?_
      rintro e w11 ⟨v, rfl, hn, g⟩
      obtain ⟨Ia, Ic, Id, rfl⟩ := hn.shape
      have I_11 : Hid (Num w11 (.slice Ia Ic Id) (I25)) := hn
      have A_11 := hold (A_10.out.below g)
      have X_11 := hold (X_10.out.below g)
      have G_11 := hold (G_10.out.trans (g.mono G_10.out.size))
      clear A_10 X_10 L_10 Q_10 G_10 hn g
      go_wp2_with fail
      refine (C8.out _ _ _ X_11.out I_11.out).mono ?_
      rintro e w12 ⟨v, rfl, hn, g⟩
      obtain ⟨Za, Zc, Zd, rfl⟩ := hn.shape
      have Z_12 : Hid (Num w12 (.slice Za Zc Zd) (r2)) := hn
      have A_12 := hold (A_11.out.below g)
      have G_12 := hold (G_11.out.trans (g.mono G_11.out.size))
      clear A_11 X_11 I_11 G_11 hn g
      go_wp2_with fail
      refine (C9.out _ _ Z_12.out).mono ?_
      rintro e w13 ⟨v, rfl, hn, g⟩
      obtain ⟨Ya, Yc, Yd, rfl⟩ := hn.shape
      have Y_13 : Hid (Num w13 (.slice Ya Yc Yd) (X2)) := hn
      have A_13 := hold (A_12.out.below g)
      have Z_13 := hold (Z_12.out.below g)
      have G_13 := hold (G_12.out.trans (g.mono G_12.out.size))
      clear A_12 Z_12 G_12 hn g
      go_wp2_with fail
      refine (D2.out _ _ m2.out Y_13.out A_13.out).mono ?_
      rintro e w14 ⟨rfl, g⟩
      have A_14 := hold (A_13.out.below g)
      have Z_14 := hold (Z_13.out.below g)
      have G_14 := hold (G_13.out.trans (g.mono G_13.out.size))
      clear A_13 Z_13 Y_13 G_13 g
      go_wp2_with fail
      refine bodyPost_ret (results_tmp2 rfl _ _ _) rfl ?_
      exact ⟨_, rfl, num_none _, G_14.out⟩

set_option maxRecDepth 100000 in
set_option maxHeartbeats 2000000 in
theorem ratioD_num (U V : Nat) (vu vv : Value) (w : World) (hU : Num w vu U) (hV : Num w vv V) (hu : U < P25) (hv : V < P25) :
    Calls Tryd.prog 48 #[vu, vv] w fun e w' => ∃ v, e = .returned (.tuple #[v, .bool (ratOk U V)]) ∧ Num w' v (ratN U V) ∧ Below w.heap.size w w' := by
  have lu := num_len0 hU
  have lv := num_len0 hV
  obtain ⟨Ua, Uc, Ud, rfl⟩ := hU.shape
  have U_0 : Hid (Num w (.slice Ua Uc Ud) (U)) := hU
  clear hU
  obtain ⟨Va, Vc, Vd, rfl⟩ := hV.shape
  have V_0 : Hid (Num w (.slice Va Vc Vd) (V)) := hV
  clear hV
  have lu := lu _ _ _ rfl
  have lv := lv _ _ _ rfl
  have C1 : Hid (∀ w, Num w (.slice Va Vc Vd) V → Calls Tryd.prog 67 #[.slice Va Vc Vd] w fun e w' => ∃ v, e = .returned v ∧ Num w' v (V ^ (P25 - 2) % P25) ∧ Below w.heap.size w w') := fun w h => invD_num4 V _ w h (Nat.lt_trans hv P25_lt11)
  have C2 : Hid (∀ v w, Num w (.slice Ua Uc Ud) U → Num w v (V ^ (P25 - 2) % P25) → Calls Tryd.prog 47 #[.slice Ua Uc Ud, v] w fun e w' => ∃ v, e = .returned v ∧ Num w' v (U * (V ^ (P25 - 2) % P25) % P25) ∧ Below w.heap.size w w') := fun v w h h' => mulD_num _ _ _ v w h h' (Nat.lt_trans hu P25_lt11) (lt11_of_mod _)
  unfold ratOk ratN
  have m1 : Hid (U * (V ^ (P25 - 2) % P25) % P25 < P25) := Nat.mod_lt _ (by decide +kernel)
  generalize U * (V ^ (P25 - 2) % P25) % P25 = Q at *
  generalize V ^ (P25 - 2) % P25 = I at *
  clear hu hv
  by_cases h : V = 0 ∧ 0 < U
  · rw [if_pos h, if_pos h]
    have c1 : Vc = 0 := lv.1 h.1
    have c2 : (0 : Int) < (Uc : Int) := by have := lu.2; omega
    subst c1
    clear h lu lv C1 C2 m1
    go_enter Tryd.func48, Tryd.ntmps48
    go_wp2_with fail
    refine bodyPost_ret (results_tmp2 rfl _ _ _) rfl ?_
    exact ⟨_, rfl, num_none _, Below.refl _ _⟩
  · rw [if_neg h, if_neg h]
    have c : (Vc : Int) = 0 → ¬ (0 : Int) < (Uc : Int) := by
      intro h1 h2
      exact h ⟨lv.2 (by omega), by have := lu.1; omega⟩
    clear h lu lv
    by_cases c1 : Vc = 0
    · have c2 : ¬ (0 : Int) < (Uc : Int) := c (by omega)
      have c3 : (Vc : Int) = 0 := by omega
      clear c c1
      go_enter Tryd.func48, Tryd.ntmps48
      go_wp2_with fail
      refine (C1.out _ V_0.out).mono ?_
      rintro e w1 ⟨v, rfl, hn, g⟩
      obtain ⟨Ia, Ic, Id, rfl⟩ := hn.shape
      have I_1 : Hid (Num w1 (.slice Ia Ic Id) (I)) := hn
      have U_1 := hold (U_0.out.below g)
      have V_1 := hold (V_0.out.below g)
      have G_1 : Hid (Below w.heap.size w w1) := g
      clear U_0 V_0 hn g
      go_wp2_with fail
      refine (C2.out _ _ U_1.out I_1.out).mono ?_
      rintro e w2 ⟨v, rfl, hn, g⟩
      obtain ⟨Qa, Qc, Qd, rfl⟩ := hn.shape
      have Q_2 : Hid (Num w2 (.slice Qa Qc Qd) (Q)) := hn
      have U_2 := hold (U_1.out.below g)
      have V_2 := hold (V_1.out.below g)
      have G_2 := hold (G_1.out.trans (g.mono G_1.out.size))
      clear U_1 V_1 I_1 G_1 hn g
      go_wp2_with fail
      refine (rootD_num _ _ _ Q_2.out m1.out).mono ?_
      rintro e w3 ⟨v, rfl, hn, g⟩
      obtain ⟨Ea, Ec, Ed, rfl⟩ := hn.shape
      have E_3 : Hid (Num w3 (.slice Ea Ec Ed) (rootN Q)) := hn
      have G_3 := hold (G_2.out.trans (g.mono G_2.out.size))
      clear hn g
      go_wp2_with fail
      refine bodyPost_ret (results_tmp2 rfl _ _ _) rfl ?_
      exact ⟨_, rfl, E_3.out, G_3.out⟩
    · have c2 : ¬ (Vc : Int) = 0 := by omega
      clear c c1
      go_enter Tryd.func48, Tryd.ntmps48
      go_wp2_with fail
      refine (C1.out _ V_0.out).mono ?_
      rintro e w1 ⟨v, rfl, hn, g⟩
      obtain ⟨Ia, Ic, Id, rfl⟩ := hn.shape
      have I_1 : Hid (Num w1 (.slice Ia Ic Id) (I)) := hn
      have U_1 := hold (U_0.out.below g)
      have V_1 := hold (V_0.out.below g)
      have G_1 : Hid (Below w.heap.size w w1) := g
      clear U_0 V_0 hn g
      go_wp2_with fail
      refine (C2.out _ _ U_1.out I_1.out).mono ?_
      rintro e w2 ⟨v, rfl, hn, g⟩
      obtain ⟨Qa, Qc, Qd, rfl⟩ := hn.shape
      have Q_2 : Hid (Num w2 (.slice Qa Qc Qd) (Q)) := hn
      have U_2 := hold (U_1.out.below g)
      have V_2 := hold (V_1.out.below g)
      have G_2 := hold (G_1.out.trans (g.mono G_1.out.size))
      clear U_1 V_1 I_1 G_1 hn g
      go_wp2_with fail
      refine (rootD_num _ _ _ Q_2.out m1.out).mono ?_
      rintro e w3 ⟨v, rfl, hn, g⟩
      obtain ⟨Ea, Ec, Ed, rfl⟩ := hn.shape
      have E_3 : Hid (Num w3 (.slice Ea Ec Ed) (rootN Q)) := hn
      have G_3 := hold (G_2.out.trans (g.mono G_2.out.size))
      clear hn g
      go_wp2_with fail
      refine bodyPost_ret (results_tmp2 rfl _ _ _) rfl ?_
      exact ⟨_, rfl, E_3.out, G_3.out⟩


end Go.Proofs.YtedhfimjcpbcpaaDoor

/-
  Roots modulo 2^255 - 19: the root by a fraction's numerator and denominator is the document's. No program is spoken of here. Conditions: as each theorem says.
-/
namespace Go.Proofs.YtedhfimjcpbcpaaDoor
set_option linter.unusedVariables false

theorem P25_pos : 0 < P25 := by decide +kernel
theorem mod_mul_mod (a b p : Nat) : (a % p) * b % p = a * b % p := by rw [Nat.mul_mod, Nat.mod_mod, ← Nat.mul_mod]
theorem mul_mod_mod' (a b p : Nat) : a * (b % p) % p = a * b % p := by rw [Nat.mul_mod, Nat.mod_mod, ← Nat.mul_mod]
theorem mul_cong {a b c d p : Nat} (h1 : a % p = b % p) (h2 : c % p = d % p) : a * c % p = b * d % p := by rw [Nat.mul_mod, h1, h2, ← Nat.mul_mod]
theorem pow_cong {a b p : Nat} (h : a % p = b % p) (n : Nat) : a ^ n % p = b ^ n % p := by rw [Nat.pow_mod, h, ← Nat.pow_mod]
theorem neg_iff {p x y : Nat} (hx : x < p) (hy : y < p) : x = (p - y) % p ↔ (x + y) % p = 0 := by
  rcases Nat.eq_zero_or_pos y with rfl | h0
  · rw [Nat.sub_zero, Nat.mod_self, Nat.add_zero, Nat.mod_eq_of_lt hx]
  · rw [Nat.mod_eq_of_lt (show p - y < p by omega)]
    constructor
    · intro h
      rw [h, Nat.sub_add_cancel (by omega), Nat.mod_self]
    · intro h
      rcases Nat.lt_or_ge (x + y) p with h1 | h1
      · rw [Nat.mod_eq_of_lt h1] at h; omega
      · rw [Nat.mod_eq_sub_mod h1, Nat.mod_eq_of_lt (by omega)] at h; omega
theorem mul_minus_one {p s : Nat} (hp : 0 < p) (hs : s < p) : s * (p - 1) % p = (p - s) % p := by
  rcases Nat.eq_zero_or_pos s with rfl | h0
  · rw [Nat.zero_mul, Nat.sub_zero, Nat.mod_self, Nat.zero_mod]
  · have e : s * (p - 1) = (p - s) + p * (s - 1) := by
      obtain ⟨q, rfl⟩ : ∃ q, p = q + 1 := ⟨p - 1, by omega⟩
      obtain ⟨t, rfl⟩ : ∃ t, s = t + 1 := ⟨s - 1, by omega⟩
      rw [Nat.add_sub_cancel, Nat.add_sub_cancel, Nat.add_mul, Nat.add_mul, Nat.one_mul, Nat.one_mul, Nat.mul_comm]
      omega
    rw [e, Nat.add_mul_mod_self_left]

def nearK : Nat := 2 ^ 252 - 3
/-- What the program takes for a root, at first. -/
def nearN (U V : Nat) : Nat := U * V ^ 3 * (U * V ^ 7) ^ nearK % P25
theorem near_exp1 : nearK + 1 = (P25 + 3) / 8 := by decide +kernel
theorem near_exp2 : 8 * nearK + 4 = P25 - 1 := by decide +kernel
theorem near_poly (a V k : Nat) : (a * V) * V ^ 3 * ((a * V) * V ^ 7) ^ k = a ^ (k + 1) * V ^ (8 * k + 4) := by
  rw [Nat.mul_pow, Nat.mul_pow, ← Nat.pow_mul, Nat.pow_add V (8 * k) 4, Nat.pow_succ a k, show 8 * k = k + 7 * k by omega, Nat.pow_add V k (7 * k)]
  generalize a ^ k = x
  generalize V ^ k = y
  generalize V ^ (7 * k) = z
  grind
theorem frac_back {U V : Nat} (hU : U < P25) (hV : V % P25 ≠ 0) : (U * (V ^ (P25 - 2) % P25) % P25) * V % P25 = U := by
  have hf := fermat P25_prime hV
  rw [mod_mul_mod, Nat.mul_right_comm, mul_mod_mod', Nat.mul_assoc, ← Nat.pow_succ', show (P25 - 2).succ = P25 - 1 by decide +kernel, ← mul_mod_mod', hf, Nat.mul_one, Nat.mod_eq_of_lt hU]
theorem near_eq {U V : Nat} (hU : U < P25) (hV : V % P25 ≠ 0) : nearN U V = rt1 (U * (V ^ (P25 - 2) % P25) % P25) := by
  have hb := frac_back hU hV
  generalize U * (V ^ (P25 - 2) % P25) % P25 = a at hb
  have hU' : U % P25 = a * V % P25 := by rw [hb, Nat.mod_eq_of_lt hU]
  have key : ∀ k : Nat, U * V ^ 3 * (U * V ^ 7) ^ k % P25 = a ^ (k + 1) * V ^ (8 * k + 4) % P25 := by
    intro k
    rw [← near_poly]
    exact mul_cong (mul_cong hU' rfl) (pow_cong (mul_cong hU' rfl) k)
  unfold nearN rt1
  rw [key, near_exp1, near_exp2, ← mul_mod_mod', fermat P25_prime hV, Nat.mul_one]

/-- The program's root. -/
def codeOk (U V : Nat) : Bool := if nearN U V * nearN U V % P25 * V % P25 = U then true else if nearN U V * nearN U V % P25 * V % P25 = (P25 - U) % P25 then true else false
def codeN (U V : Nat) : Nat := if nearN U V * nearN U V % P25 * V % P25 = U then evn (nearN U V) else if nearN U V * nearN U V % P25 * V % P25 = (P25 - U) % P25 then evn (nearN U V * I25 % P25) else 0

theorem code_first {U V X a : Nat} (hU : U < P25) (hV : V % P25 ≠ 0) (ha : a < P25) (hb : a * V % P25 = U) : X * X % P25 * V % P25 = U ↔ X * X % P25 = a := by
  constructor
  · intro h
    have h1 : V * (X * X % P25) % P25 = V * a % P25 := by rw [Nat.mul_comm V, Nat.mul_comm V, h, hb]
    have h2 := P25_prime.cancel hV h1
    rwa [Nat.mod_mod, Nat.mod_eq_of_lt ha] at h2
  · intro h
    rw [h, hb]
theorem code_second {U V X a : Nat} (hU : U < P25) (hV : V % P25 ≠ 0) (ha : a < P25) (hb : a * V % P25 = U) : X * X % P25 * V % P25 = (P25 - U) % P25 ↔ (X * I25 % P25) * (X * I25 % P25) % P25 = a := by
  have hs : X * X % P25 < P25 := Nat.mod_lt _ P25_pos
  have e1 : (X * I25 % P25) * (X * I25 % P25) % P25 = (P25 - X * X % P25) % P25 := by
    rw [← Nat.mul_mod, show X * I25 * (X * I25) = (X * X) * (I25 * I25) by grind, Nat.mul_mod, I25_sq, mul_minus_one P25_pos hs]
  have e2 : (P25 - X * X % P25) % P25 = a ↔ (a + X * X % P25) % P25 = 0 := by
    rw [← neg_iff ha hs]
    exact eq_comm
  rw [e1, e2, neg_iff (Nat.mod_lt _ P25_pos) hU, ← hb, ← Nat.add_mod, ← Nat.add_mul]
  generalize X * X % P25 = s at *
  rw [Nat.add_comm s a]
  constructor
  · intro h
    apply Classical.byContradiction
    intro hn
    exact P25_prime.mul_ne hn hV h
  · intro h
    rw [Nat.mul_mod, h, Nat.zero_mul, Nat.zero_mod]

theorem near_zero (U : Nat) : nearN U 0 = 0 := by
  unfold nearN
  generalize nearK = k
  rw [show (0 : Nat) ^ 3 = 0 from rfl, Nat.mul_zero, Nat.zero_mul, Nat.zero_mod]
theorem rat_of {U V : Nat} (h : ¬ (V = 0 ∧ 0 < U)) : ratOk U V = rootOk (U * (V ^ (P25 - 2) % P25) % P25) ∧ ratN U V = rootN (U * (V ^ (P25 - 2) % P25) % P25) := by
  unfold ratOk ratN
  exact ⟨if_neg h, if_neg h⟩
theorem rat_no {U V : Nat} (h : V = 0 ∧ 0 < U) : ratOk U V = false ∧ ratN U V = 0 := by
  unfold ratOk ratN
  exact ⟨if_pos h, if_pos h⟩
theorem rt1_zero (a : Nat) (h : a = 0) : rt1 a = 0 := by
  have he : 0 < (P25 + 3) / 8 := by decide +kernel
  unfold rt1
  generalize (P25 + 3) / 8 = e at he
  rw [h, Nat.zero_pow he, Nat.zero_mod]
theorem root_zero (a : Nat) (h : a = 0) : rootOk a = true ∧ rootN a = 0 := by
  have h0 : rt1 a * rt1 a % P25 = a := by rw [rt1_zero a h, Nat.zero_mul, Nat.zero_mod, h]
  unfold rootOk rootN
  rw [if_pos h0, if_pos h0, rt1_zero a h]
  exact ⟨rfl, by unfold evn; rw [if_neg (by decide)]⟩
theorem code_zero : codeOk 0 0 = true ∧ codeN 0 0 = 0 := by
  have h0 : nearN 0 0 * nearN 0 0 % P25 * 0 % P25 = 0 := by rw [Nat.mul_zero, Nat.zero_mod]
  unfold codeOk codeN
  rw [if_pos h0, if_pos h0, near_zero]
  exact ⟨rfl, by unfold evn; rw [if_neg (by decide)]⟩
theorem code_none {U : Nat} (hU : U < P25) (h : 0 < U) : codeOk U 0 = false ∧ codeN U 0 = 0 := by
  have h1 : ¬ nearN U 0 * nearN U 0 % P25 * 0 % P25 = U := by rw [Nat.mul_zero, Nat.zero_mod]; omega
  have h2 : ¬ nearN U 0 * nearN U 0 % P25 * 0 % P25 = (P25 - U) % P25 := by rw [Nat.mul_zero, Nat.zero_mod, Nat.mod_eq_of_lt (show P25 - U < P25 by omega)]; omega
  unfold codeOk codeN
  rw [if_neg h1, if_neg h1, if_neg h2, if_neg h2]
  exact ⟨rfl, rfl⟩
theorem code_some {U V a : Nat} (hU : U < P25) (hV : V % P25 ≠ 0) (ha : a < P25) (hb : a * V % P25 = U) (hn : nearN U V = rt1 a) : codeOk U V = rootOk a ∧ codeN U V = rootN a := by
  have k1 := code_first (X := rt1 a) hU hV ha hb
  have k2 := code_second (X := rt1 a) hU hV ha hb
  unfold codeOk codeN rootOk rootN rt2
  rw [hn]
  by_cases h1 : rt1 a * rt1 a % P25 * V % P25 = U
  · rw [if_pos h1, if_pos h1, if_pos (k1.1 h1), if_pos (k1.1 h1)]
    exact ⟨rfl, rfl⟩
  · have h1' := fun h => h1 (k1.2 h)
    rw [if_neg h1, if_neg h1, if_neg h1', if_neg h1']
    by_cases h2 : rt1 a * rt1 a % P25 * V % P25 = (P25 - U) % P25
    · rw [if_pos h2, if_pos h2, if_pos (k2.1 h2), if_pos (k2.1 h2)]
      exact ⟨rfl, rfl⟩
    · have h2' := fun h => h2 (k2.2 h)
      rw [if_neg h2, if_neg h2, if_neg h2', if_neg h2']
      exact ⟨rfl, rfl⟩
theorem code_rat {U V : Nat} (hU : U < P25) (hV : V < P25) : codeOk U V = ratOk U V ∧ codeN U V = ratN U V := by
  rcases Nat.eq_zero_or_pos V with h0 | h0
  · subst h0
    rcases Nat.eq_zero_or_pos U with hu | hu
    · subst hu
      have h1 := rat_of (U := 0) (V := 0) (by omega)
      have h2 : ∀ y, 0 * y % P25 = 0 := fun y => by rw [Nat.zero_mul, Nat.zero_mod]
      have h3 := root_zero _ (h2 (0 ^ (P25 - 2) % P25))
      exact ⟨code_zero.1.trans (h1.1.trans h3.1).symm, code_zero.2.trans (h1.2.trans h3.2).symm⟩
    · have h1 := rat_no (U := U) (V := 0) ⟨rfl, hu⟩
      have h2 := code_none hU hu
      rw [h1.1, h1.2, h2.1, h2.2]
      exact ⟨rfl, rfl⟩
  · have hV' : V % P25 ≠ 0 := by rw [Nat.mod_eq_of_lt hV]; omega
    have h1 := rat_of (U := U) (V := V) (by omega)
    have h2 := code_some hU hV' (Nat.mod_lt _ P25_pos) (frac_back hU hV') (near_eq hU hV')
    rw [h1.1, h1.2, h2.1, h2.2]
    exact ⟨rfl, rfl⟩

end Go.Proofs.YtedhfimjcpbcpaaDoor

/-
  The contracts of the field's reduced, Same and Negative: for tame elements they return the limbs of the number, whether two are one, and whether it is odd, and change no memory that was there. Conditions: as each theorem says.
-/
namespace Go.Proofs.YtedhfimjcpbcpaaDoor
open Go.RowKit
set_option linter.unusedVariables false
set_option linter.unusedSimpArgs false

/-- Limbs of 51 bits. -/
def L5.Low (z : L5) : Prop := (0 ≤ z.l0 ∧ z.l0 < 2251799813685248) ∧ (0 ≤ z.l1 ∧ z.l1 < 2251799813685248) ∧ (0 ≤ z.l2 ∧ z.l2 < 2251799813685248) ∧ (0 ≤ z.l3 ∧ z.l3 < 2251799813685248) ∧ (0 ≤ z.l4 ∧ z.l4 < 2251799813685248)
theorem L5.Low.tm {z : L5} (h : z.Low) : z.Tm := by unfold L5.Low at h; unfold L5.Tm Tame; omega
theorem L5.Low.eq {y z : L5} (hy : y.Low) (hz : z.Low) (h : y.num = z.num) : y = z := by
  obtain ⟨y0, y1, y2, y3, y4⟩ := y
  obtain ⟨z0, z1, z2, z3, z4⟩ := z
  unfold L5.Low at hy hz
  unfold L5.num val5 at h
  dsimp only at hy hz h
  have e0 : y0 = z0 := by omega
  have e1 : y1 = z1 := by omega
  have e2 : y2 = z2 := by omega
  have e3 : y3 = z3 := by omega
  have e4 : y4 = z4 := by omega
  rw [e0, e1, e2, e3, e4]
theorem red_pos (t0 t1 t2 t3 t4 : Int) (h0 : 0 ≤ t0 ∧ t0 < 2251799813685268) (h1 : 0 ≤ t1 ∧ t1 ≤ 2251799813685248) (h2 : 0 ≤ t2 ∧ t2 ≤ 2251799813685248) (h3 : 0 ≤ t3 ∧ t3 ≤ 2251799813685248) (h4 : 0 ≤ t4 ∧ t4 ≤ 2251799813685248) : 0 ≤ val5 t0 t1 t2 t3 t4 ∧ val5 t0 t1 t2 t3 t4 < 57896044618658097711785492504343953926634992332820282019728792003956564819949 + 57896044618658097711785492504343953926634992332820282019728792003956564819949 := by
  unfold val5; omega
theorem red_end (V M r o : Int) (h0 : 0 ≤ V) (h1 : V < 57896044618658097711785492504343953926634992332820282019728792003956564819949 + 57896044618658097711785492504343953926634992332820282019728792003956564819949) (m0 : 0 ≤ M) (m1 : M < 57896044618658097711785492504343953926634992332820282019728792003956564819968)
    (R : Int) (r0 : 0 ≤ R) (r1 : R < 57896044618658097711785492504343953926634992332820282019728792003956564819968) (e1 : V + 19 = R + 57896044618658097711785492504343953926634992332820282019728792003956564819968 * r) (e2 : V + 19 * r = M + 57896044618658097711785492504343953926634992332820282019728792003956564819968 * o) : M = V % (P25 : Int) := by
  unfold P25
  have hr : r = 0 ∨ r = 1 := by omega
  rcases hr with rfl | rfl
  · have : o = 0 := by omega
    subst this
    omega
  · have : o = 1 := by omega
    subst this
    omega
set_option maxHeartbeats 4000000 in
theorem reduced_fe (x : L5) (hx : x.Tm) : ∃ z : L5, z.Low ∧ Hid (z.num = x.num % (P25 : Int)) ∧ ∀ w : World, Calls Tryd.prog 82 #[.agg #[.int .u64 x.l0, .int .u64 x.l1, .int .u64 x.l2, .int .u64 x.l3, .int .u64 x.l4]] w fun e w' => e = .returned (.agg #[.int .u64 z.l0, .int .u64 z.l1, .int .u64 z.l2, .int .u64 z.l3, .int .u64 z.l4]) ∧ Below w.heap.size w w' := by
  obtain ⟨x0, x1, x2, x3, x4⟩ := x
  unfold L5.Tm Tame at hx
  dsimp only at hx ⊢
  obtain ⟨t0, t1, t2, t3, t4, E, Q⟩ := settled_step x0 x1 x2 x3 x4 (by unfold Wd; omega) (by unfold Wd; omega) (by unfold Wd; omega) (by unfold Wd; omega) (by unfold Wd; omega)
  have T : Hid ((0 ≤ t0 ∧ t0 < 2251799813685268) ∧ (0 ≤ t1 ∧ t1 ≤ 2251799813685248) ∧ (0 ≤ t2 ∧ t2 ≤ 2251799813685248) ∧ (0 ≤ t3 ∧ t3 ≤ 2251799813685248) ∧ (0 ≤ t4 ∧ t4 ≤ 2251799813685248)) := by
    have := E.out.2
    unfold Hid
    clear E Q
    omega
  have TT := T.out
  have wu0 : Wd (t0 + 19) := by unfold Wd; omega
  obtain ⟨p0, r1, -, f0, F0⟩ := cut51 (t0 + 19) wu0
  have wu1 : Wd (t1 + r1) := by unfold Wd; have := F0.out; clear F0; omega
  obtain ⟨p1, r2, -, f1, F1⟩ := cut51 (t1 + r1) wu1
  have wu2 : Wd (t2 + r2) := by unfold Wd; have := F1.out; clear F1; omega
  obtain ⟨p2, r3, -, f2, F2⟩ := cut51 (t2 + r2) wu2
  have wu3 : Wd (t3 + r3) := by unfold Wd; have := F2.out; clear F2; omega
  obtain ⟨p3, r4, -, f3, F3⟩ := cut51 (t3 + r3) wu3
  have wu4 : Wd (t4 + r4) := by unfold Wd; have := F3.out; clear F3; omega
  obtain ⟨p4, r5, -, f4, F4⟩ := cut51 (t4 + r4) wu4
  have hr5 : Hid (0 ≤ r5 ∧ r5 < 8192) := by have := F4.out; unfold Hid; omega
  have wv0 : Wd (t0 + 19 * r5) := by unfold Wd; have := hr5.out; omega
  obtain ⟨m0, o1, a0, b0, G0⟩ := cut51 (t0 + 19 * r5) wv0
  have wv1 : Wd (t1 + o1) := by unfold Wd; have := G0.out; clear G0; omega
  obtain ⟨m1, o2, a1, b1, G1⟩ := cut51 (t1 + o1) wv1
  have wv2 : Wd (t2 + o2) := by unfold Wd; have := G1.out; clear G1; omega
  obtain ⟨m2, o3, a2, b2, G2⟩ := cut51 (t2 + o2) wv2
  have wv3 : Wd (t3 + o3) := by unfold Wd; have := G2.out; clear G2; omega
  obtain ⟨m3, o4, a3, b3, G3⟩ := cut51 (t3 + o3) wv3
  have wv4 : Wd (t4 + o4) := by unfold Wd; have := G3.out; clear G3; omega
  obtain ⟨m4, o5, a4, b4, G4⟩ := cut51 (t4 + o4) wv4
  refine ⟨⟨m0, m1, m2, m3, m4⟩, ?_, ?_, fun w => ?_⟩
  · unfold L5.Low
    dsimp only
    have g0 := G0.out; have g1 := G1.out; have g2 := G2.out; have g3 := G3.out; have g4 := G4.out
    clear F0 F1 F2 F3 F4 G0 G1 G2 G3 G4 a0 a1 a2 a3 a4 wu0 wu1 wu2 wu3 wu4 wv0 wv1 wv2 wv3 wv4 Q E
    exact ⟨g0.2.imp id And.left |> fun h => ⟨h.1, h.2⟩, ⟨g1.2.1, g1.2.2.1⟩, ⟨g2.2.1, g2.2.2.1⟩, ⟨g3.2.1, g3.2.2.1⟩, ⟨g4.2.1, g4.2.2.1⟩⟩
  · unfold Hid L5.num
    dsimp only
    rw [← settle_val _ _ _ _ _ _ _ _ _ _ E.out.2]
    obtain ⟨c0, c1, c2, c3, c4⟩ := TT
    have hV := red_pos t0 t1 t2 t3 t4 c0 c1 c2 c3 c4
    obtain ⟨e0, u0, v0, -, -⟩ := F0.out
    obtain ⟨e1, u1, v1, -, -⟩ := F1.out
    obtain ⟨e2, u2, v2, -, -⟩ := F2.out
    obtain ⟨e3, u3, v3, -, -⟩ := F3.out
    obtain ⟨e4, u4, v4, -, -⟩ := F4.out
    obtain ⟨d0, i0, j0, -, -⟩ := G0.out
    obtain ⟨d1, i1, j1, -, -⟩ := G1.out
    obtain ⟨d2, i2, j2, -, -⟩ := G2.out
    obtain ⟨d3, i3, j3, -, -⟩ := G3.out
    obtain ⟨d4, i4, j4, -, -⟩ := G4.out
    clear F0 F1 F2 F3 F4 G0 G1 G2 G3 G4 a0 a1 a2 a3 a4 b0 b1 b2 b3 b4 f0 f1 f2 f3 f4 wu0 wu1 wu2 wu3 wu4 wv0 wv1 wv2 wv3 wv4 Q E T hx c0 c1 c2 c3 c4
    refine red_end (val5 t0 t1 t2 t3 t4) (val5 m0 m1 m2 m3 m4) r5 o5 hV.1 hV.2 ?_ ?_ (val5 p0 p1 p2 p3 p4) ?_ ?_ ?_ ?_
    · clear hV e0 e1 e2 e3 e4 d0 d1 d2 d3 d4; unfold val5; omega
    · clear hV e0 e1 e2 e3 e4 d0 d1 d2 d3 d4; unfold val5; omega
    · clear hV e0 e1 e2 e3 e4 d0 d1 d2 d3 d4; unfold val5; omega
    · clear hV e0 e1 e2 e3 e4 d0 d1 d2 d3 d4; unfold val5; omega
    · clear hV d0 d1 d2 d3 d4 u0 u1 u2 u3 u4 v0 v1 v2 v3 v4 i0 i1 i2 i3 i4 j0 j1 j2 j3 j4; unfold val5; omega
    · clear hV e0 e1 e2 e3 e4 u0 u1 u2 u3 u4 v0 v1 v2 v3 v4 i0 i1 i2 i3 i4 j0 j1 j2 j3 j4; unfold val5; omega
  · have k0 : IntKind.u64.wrap (t0 + 19) = t0 + 19 := wrapW _ wu0.1 wu0.2
    have h0 : IntKind.u64.wrap (t0 + 19 * r5) = t0 + 19 * r5 := wrapW _ wv0.1 wv0.2
    have k1 : IntKind.u64.wrap (t1 + r1) = t1 + r1 := wrapW _ wu1.1 wu1.2
    have h1 : IntKind.u64.wrap (t1 + o1) = t1 + o1 := wrapW _ wv1.1 wv1.2
    have k2 : IntKind.u64.wrap (t2 + r2) = t2 + r2 := wrapW _ wu2.1 wu2.2
    have h2 : IntKind.u64.wrap (t2 + o2) = t2 + o2 := wrapW _ wv2.1 wv2.2
    have k3 : IntKind.u64.wrap (t3 + r3) = t3 + r3 := wrapW _ wu3.1 wu3.2
    have h3 : IntKind.u64.wrap (t3 + o3) = t3 + o3 := wrapW _ wv3.1 wv3.2
    have k4 : IntKind.u64.wrap (t4 + r4) = t4 + r4 := wrapW _ wu4.1 wu4.2
    have h4 : IntKind.u64.wrap (t4 + o4) = t4 + o4 := wrapW _ wv4.1 wv4.2
    have kr : IntKind.u64.wrap (19 * r5) = 19 * r5 := wrapW _ (by have := hr5.out; omega) (by have := hr5.out; omega)
    have q : Hid (∀ w : World, Calls Tryd.prog 99 #[.agg #[.int .u64 x0, .int .u64 x1, .int .u64 x2, .int .u64 x3, .int .u64 x4]] w fun e w' => e = .returned (.agg #[.int .u64 t0, .int .u64 t1, .int .u64 t2, .int .u64 t3, .int .u64 t4]) ∧ Below w.heap.size w w') := Q
    clear F0 F1 F2 F3 F4 G0 G1 G2 G3 G4 wu0 wu1 wu2 wu3 wu4 wv0 wv1 wv2 wv3 wv4 Q E T TT hx hr5
    go_enter Tryd.func82, Tryd.ntmps82
    go_wp2_with fail
    refine calls_at (fun W => Bl5 W w.heap.size x0 x1 x2 x3 x4 ∧ Bl5 W (w.heap.size + 1) 0 0 0 0 0 ∧ Below w.heap.size w W) ⟨?_, ?_, ?_⟩ ?_
    · (repeat (first | refine Bl5.drew ?_ | refine Bl5.drewN ?_ _ | (refine Bl5.new _ _ _ _ _ _ _ _ ?_; simp; done) | refine Bl5.alloc ?_ _))
    · (repeat (first | refine Bl5.drew ?_ | refine Bl5.drewN ?_ _ | (refine Bl5.new _ _ _ _ _ _ _ _ ?_; simp; done) | refine Bl5.alloc ?_ _))
    · (repeat (first | exact Below.refl _ _ | refine Below.drew ?_ | refine below_drewN ?_ _ | refine Below.alloc ?_ (by simp <;> omega) _ | refine Below.setCell ?_ (by simp <;> omega) _))
    rintro W ⟨hA, hR, hB⟩
    refine (q.out _).mono ?_
    rintro e w1 ⟨rfl, g⟩
    have A1 : Hid (Bl5 w1 w.heap.size x0 x1 x2 x3 x4) := hA.below g
    have R1 : Hid (Bl5 w1 (w.heap.size + 1) 0 0 0 0 0) := hR.below g
    have B1 : Hid (Below w.heap.size w w1) := hB.trans (g.mono hB.size)
    clear hA hR hB g q W
    obtain ⟨al, c0, c1, c2, c3, c4, cf⟩ := A1.out
    go_wp2_with fail
    refine wp_cut (fun W => Bl5 W w.heap.size t0 t1 t2 t3 t4 ∧ Bl5 W (w.heap.size + 1) 0 0 0 0 0 ∧ Below w.heap.size w W) ⟨A1.out.set t0 t1 t2 t3 t4, (((((R1.out.other w.heap.size 0 (.int .u64 t0) (by omega)).other w.heap.size 1 (.int .u64 t1) (by omega)).other w.heap.size 2 (.int .u64 t2) (by omega)).other w.heap.size 3 (.int .u64 t3) (by omega)).other w.heap.size 4 (.int .u64 t4) (by omega)), ?_⟩ ?_
    · iterate 5 (refine Below.setCell ?_ (by simp <;> omega) _)
      exact B1.out
    clear al c0 c1 c2 c3 c4 cf A1 R1 B1 w1
    rintro W ⟨hA, hR, hB⟩
    have A1 : Hid (Bl5 W w.heap.size t0 t1 t2 t3 t4) := hA
    have R1 : Hid (Bl5 W (w.heap.size + 1) 0 0 0 0 0) := hR
    have B1 : Hid (Below w.heap.size w W) := hB
    obtain ⟨al, c0, c1, c2, c3, c4, cf⟩ := hA
    clear hR hB
    refine wp_unr 6 ?_
    refine unr_succ ?_
    go_wp2_with fail
    refine unr_succ ?_
    go_wp2_with fail
    refine unr_succ ?_
    go_wp2_with fail
    refine unr_succ ?_
    go_wp2_with fail
    refine unr_succ ?_
    go_wp2_with fail
    refine unr_succ ?_
    go_wp2_with fail
    refine wp_unr 6 ?_
    refine unr_succ ?_
    go_wp2_with fail
    refine unr_succ ?_
    go_wp2_with fail
    refine unr_succ ?_
    go_wp2_with fail
    refine unr_succ ?_
    go_wp2_with fail
    refine unr_succ ?_
    go_wp2_with fail
    obtain ⟨rl, y0, y1, y2, y3, y4, yf⟩ := R1.out
    refine unr_succ ?_
    go_wp2_with fail
    refine body_cut (fun V => Bl5 V (w.heap.size + 1) m0 m1 m2 m3 m4 ∧ Below w.heap.size w V) ⟨(((((R1.out.other w.heap.size 0 (.int .u64 m0) (by omega)).other w.heap.size 1 (.int .u64 m1) (by omega)).other w.heap.size 2 (.int .u64 m2) (by omega)).other w.heap.size 3 (.int .u64 m3) (by omega)).other w.heap.size 4 (.int .u64 m4) (by omega)).set m0 m1 m2 m3 m4, ?_⟩ ?_
    · iterate 10 (refine Below.setCell ?_ (by simp <;> omega) _)
      exact B1.out
    · clear rl y0 y1 y2 y3 y4 yf R1 B1
      rintro W ⟨⟨rl, r0, r1, r2, r3, r4, rf⟩, hb⟩
      exact bodyPost_ret (v := .agg #[.int .u64 m0, .int .u64 m1, .int .u64 m2, .int .u64 m3, .int .u64 m4]) (by simp [results, Tryd.results82, go_sem, r0, r1, r2, r3, r4]) rfl ⟨rfl, hb⟩

theorem eqlIn_same5 (a0 a1 a2 a3 a4 : Int) (w : World) :
    (Op.equalIn 10000 28 (.agg #[.int .u64 a0, .int .u64 a1, .int .u64 a2, .int .u64 a3, .int .u64 a4]) (.agg #[.int .u64 a0, .int .u64 a1, .int .u64 a2, .int .u64 a3, .int .u64 a4])).run Tryd.prog w = .ok true w := by
  rw [show (10000 : Nat) = 9998 + 1 + 1 from rfl]
  unfold Op.equalIn
  have r : List.range' 0 5 = [0, 1, 2, 3, 4] := rfl
  simp only [Sem.run_bind, run_underlying Tryd.underlying28, Result.andThen_ok]
  simp [go_sem, r]
set_option maxHeartbeats 8000000 in
theorem eqlIn_other5 (a0 a1 a2 a3 a4 b0 b1 b2 b3 b4 : Int) (h : ¬ (a0 = b0 ∧ a1 = b1 ∧ a2 = b2 ∧ a3 = b3 ∧ a4 = b4)) (w : World) :
    (Op.equalIn 10000 28 (.agg #[.int .u64 a0, .int .u64 a1, .int .u64 a2, .int .u64 a3, .int .u64 a4]) (.agg #[.int .u64 b0, .int .u64 b1, .int .u64 b2, .int .u64 b3, .int .u64 b4])).run Tryd.prog w = .ok false w := by
  rw [show (10000 : Nat) = 9998 + 1 + 1 from rfl]
  unfold Op.equalIn
  have r : List.range' 0 5 = [0, 1, 2, 3, 4] := rfl
  simp only [Sem.run_bind, run_underlying Tryd.underlying28, Result.andThen_ok]
  by_cases h0 : a0 = b0 <;> by_cases h1 : a1 = b1 <;> by_cases h2 : a2 = b2 <;> by_cases h3 : a3 = b3 <;> by_cases h4 : a4 = b4 <;> first | (exfalso; omega) | simp [go_sem, r, h0, h1, h2, h3, h4]
theorem eql5 (a0 a1 a2 a3 a4 : Int) (w : World) : (binOp .eql 28 (.agg #[.int .u64 a0, .int .u64 a1, .int .u64 a2, .int .u64 a3, .int .u64 a4]) (.agg #[.int .u64 a0, .int .u64 a1, .int .u64 a2, .int .u64 a3, .int .u64 a4])).run Tryd.prog w = .ok (.bool true) w := by
  simp [go_sem, eqlIn_same5]
theorem eql5_no (a0 a1 a2 a3 a4 b0 b1 b2 b3 b4 : Int) (h : ¬ (a0 = b0 ∧ a1 = b1 ∧ a2 = b2 ∧ a3 = b3 ∧ a4 = b4)) (w : World) : (binOp .eql 28 (.agg #[.int .u64 a0, .int .u64 a1, .int .u64 a2, .int .u64 a3, .int .u64 a4]) (.agg #[.int .u64 b0, .int .u64 b1, .int .u64 b2, .int .u64 b3, .int .u64 b4])).run Tryd.prog w = .ok (.bool false) w := by
  simp [go_sem, eqlIn_other5 _ _ _ _ _ _ _ _ _ _ h]
theorem neq5 (a0 a1 a2 a3 a4 : Int) (w : World) : (binOp .neq 28 (.agg #[.int .u64 a0, .int .u64 a1, .int .u64 a2, .int .u64 a3, .int .u64 a4]) (.agg #[.int .u64 a0, .int .u64 a1, .int .u64 a2, .int .u64 a3, .int .u64 a4])).run Tryd.prog w = .ok (.bool false) w := by
  simp [go_sem, eqlIn_same5]
theorem neq5_no (a0 a1 a2 a3 a4 b0 b1 b2 b3 b4 : Int) (h : ¬ (a0 = b0 ∧ a1 = b1 ∧ a2 = b2 ∧ a3 = b3 ∧ a4 = b4)) (w : World) : (binOp .neq 28 (.agg #[.int .u64 a0, .int .u64 a1, .int .u64 a2, .int .u64 a3, .int .u64 a4]) (.agg #[.int .u64 b0, .int .u64 b1, .int .u64 b2, .int .u64 b3, .int .u64 b4])).run Tryd.prog w = .ok (.bool true) w := by
  simp [go_sem, eqlIn_other5 _ _ _ _ _ _ _ _ _ _ h]
theorem idx5_0 (k : IntKind) (v0 v1 v2 v3 v4 : Int) (w : World) : (Instr.index 28 (.agg #[.int k v0, .int k v1, .int k v2, .int k v3, .int k v4]) (.int .i64 0)).run Tryd.prog w = .ok (.int k v0) w := by
  simp [Instr.index, run_underlying Tryd.underlying28, asIntOf, go_sem]

attribute [local go_sem] ext_cell ext_frozen
set_option maxHeartbeats 1000000 in
theorem same_fe (x y : L5) (hx : x.Tm) (hy : y.Tm) (b : Bool) (hb : b = decide (x.num % (P25 : Int) = y.num % (P25 : Int))) (w : World) : Calls Tryd.prog 65 #[.agg #[.int .u64 x.l0, .int .u64 x.l1, .int .u64 x.l2, .int .u64 x.l3, .int .u64 x.l4], .agg #[.int .u64 y.l0, .int .u64 y.l1, .int .u64 y.l2, .int .u64 y.l3, .int .u64 y.l4]] w fun e w' => e = .returned (.bool b) ∧ Below w.heap.size w w' := by
  obtain ⟨u, hu, eu, Qu⟩ := reduced_fe x hx
  obtain ⟨v, hv, ev, Qv⟩ := reduced_fe y hy
  have HE : ∀ w : World, (binOp .eql 28 (.agg #[.int .u64 u.l0, .int .u64 u.l1, .int .u64 u.l2, .int .u64 u.l3, .int .u64 u.l4]) (.agg #[.int .u64 v.l0, .int .u64 v.l1, .int .u64 v.l2, .int .u64 v.l3, .int .u64 v.l4])).run Tryd.prog w = .ok (.bool b) w := by
    intro w
    by_cases h : x.num % (P25 : Int) = y.num % (P25 : Int)
    · have := hu.eq hv (by rw [eu.out, ev.out]; exact h)
      subst this
      rw [hb, decide_eq_true h]
      exact eql5 _ _ _ _ _ w
    · rw [hb, decide_eq_false h]
      refine eql5_no _ _ _ _ _ _ _ _ _ _ ?_ w
      rintro ⟨h0, h1, h2, h3, h4⟩
      refine h ?_
      rw [← eu.out, ← ev.out]
      unfold L5.num
      rw [h0, h1, h2, h3, h4]
  obtain ⟨x0, x1, x2, x3, x4⟩ := x
  obtain ⟨y0, y1, y2, y3, y4⟩ := y
  obtain ⟨u0, u1, u2, u3, u4⟩ := u
  obtain ⟨v0, v1, v2, v3, v4⟩ := v
  dsimp only at Qu Qv HE ⊢
  have qu : Hid (∀ w : World, Calls Tryd.prog 82 #[.agg #[.int .u64 x0, .int .u64 x1, .int .u64 x2, .int .u64 x3, .int .u64 x4]] w fun e w' => e = .returned (.agg #[.int .u64 u0, .int .u64 u1, .int .u64 u2, .int .u64 u3, .int .u64 u4]) ∧ Below w.heap.size w w') := Qu
  have qv : Hid (∀ w : World, Calls Tryd.prog 82 #[.agg #[.int .u64 y0, .int .u64 y1, .int .u64 y2, .int .u64 y3, .int .u64 y4]] w fun e w' => e = .returned (.agg #[.int .u64 v0, .int .u64 v1, .int .u64 v2, .int .u64 v3, .int .u64 v4]) ∧ Below w.heap.size w w') := Qv
  clear Qu Qv eu ev hu hv hx hy hb
  go_enter Tryd.func65, Tryd.ntmps65
  go_wp2_with fail
  refine wp_region_ext (by kernel_rfl) (by kernel_rfl) ?_
  repeat (go_big_quiet_step ((first
    | with_reducible exact calls_ext (qu.out _)
    | with_reducible exact calls_ext (qv.out _))))
  refine wpQuiet_nil ?_
  intro W1 hw
  obtain ⟨n, rfl⟩ := hw
  have Hb := ext_below ((w.alloc (.cells #[.int .u64 x0, .int .u64 x1, .int .u64 x2, .int .u64 x3, .int .u64 x4] 28)).alloc (.cells #[.int .u64 y0, .int .u64 y1, .int .u64 y2, .int .u64 y3, .int .u64 y4] 28)) n
  go_wp2_with fail
  go_ret
  refine ⟨rfl, Below.trans ?_ (Hb.mono (by simp <;> omega))⟩
  repeat (first | exact Below.refl _ _ | refine Below.alloc ?_ (by simp <;> omega) _)

theorem and1_nat (a : Nat) (ha : a < 18446744073709551616) : bits .and .u64 (a : Int) 1 = ((a % 2 : Nat) : Int) := by
  have := bits_and_u64_nat a 1 ha (by omega)
  rw [Nat.and_one_is_mod] at this
  exact this
theorem and1_int (a : Int) (h : Wd a) : bits .and .u64 a 1 = a % 2 := by
  unfold Wd at h
  obtain ⟨n, rfl⟩ := Int.eq_ofNat_of_zero_le h.1
  rw [and1_nat n (by omega)]
  omega
theorem low_parity (z : L5) : z.l0 % 2 = z.num % 2 := by unfold L5.num val5; omega
attribute [local go_sem] idx5_0
set_option maxHeartbeats 1000000 in
theorem negative_fe (x : L5) (hx : x.Tm) (b : Bool) (hb : b = decide (x.num % (P25 : Int) % 2 = 1)) (w : World) : Calls Tryd.prog 39 #[.agg #[.int .u64 x.l0, .int .u64 x.l1, .int .u64 x.l2, .int .u64 x.l3, .int .u64 x.l4]] w fun e w' => e = .returned (.bool b) ∧ Below w.heap.size w w' := by
  obtain ⟨u, hu, eu, Qu⟩ := reduced_fe x hx
  have e1 : bits .and .u64 u.l0 1 = x.num % (P25 : Int) % 2 := by
    rw [and1_int _ (by unfold L5.Low at hu; unfold Wd; omega), low_parity, eu.out]
  obtain ⟨r, hr⟩ : ∃ r : Int, x.num % (P25 : Int) % 2 = r := ⟨_, rfl⟩
  rw [hr] at e1 hb
  have hr2 : r = 0 ∨ r = 1 := by omega
  obtain ⟨x0, x1, x2, x3, x4⟩ := x
  obtain ⟨u0, u1, u2, u3, u4⟩ := u
  dsimp only at Qu e1 ⊢
  have qu : Hid (∀ w : World, Calls Tryd.prog 82 #[.agg #[.int .u64 x0, .int .u64 x1, .int .u64 x2, .int .u64 x3, .int .u64 x4]] w fun e w' => e = .returned (.agg #[.int .u64 u0, .int .u64 u1, .int .u64 u2, .int .u64 u3, .int .u64 u4]) ∧ Below w.heap.size w w') := Qu
  clear Qu eu hu hx hr
  go_enter Tryd.func39, Tryd.ntmps39
  go_wp2_with fail
  refine calls_at (fun W => Below w.heap.size w W) ?_ ?_
  · (repeat (first | exact Below.refl _ _ | refine Below.drew ?_ | refine below_drewN ?_ _ | refine Below.alloc ?_ (by simp <;> omega) _ | refine Below.setCell ?_ (by simp <;> omega) _))
  rintro W hB
  refine (qu.out _).mono ?_
  rintro e w1 ⟨rfl, g⟩
  have B1 : Hid (Below w.heap.size w w1) := hB.trans (g.mono hB.size)
  clear hB g qu
  rcases hr2 with rfl | rfl
  all_goals
    subst hb
    go_wp2_with fail
    go_ret
    exact ⟨rfl, B1.out⟩

end Go.Proofs.YtedhfimjcpbcpaaDoor
