/-
  A region that draws its order, made of operations that yield one value whatever memory has grown behind what was there, of new variables, and of stores into these: one walk in the order of the text serves every order. Conditions: as the theorems say.
-/
import Derived.Test.YtkbiiolkekpkiaaDoorExt
namespace Go.Proofs.YtkbiiolkekpkiaaDoor
open Go.RowKit
set_option linter.unusedVariables false

/-- Memory has grown behind what was there; the new variables lie in it, each in a block of its own. -/
structure Hold (base : World) (γ : Nat → Option (Nat × Obj)) (w : World) : Prop where
  bel : Below base.heap.size base w
  own : ∀ i g, γ i = some g → base.heap.size ≤ g.1 ∧ g.1 < w.heap.size ∧ w.heap[g.1]? = some g.2
  ne : ∀ i j g h, i ≠ j → γ i = some g → γ j = some h → g.1 ≠ h.1
theorem Hold.below {base : World} {γ : Nat → Option (Nat × Obj)} {w w' : World} (h : Hold base γ w) (hb : Below w.heap.size w w') : Hold base γ w' :=
  ⟨h.bel.trans (hb.mono h.bel.size), fun i g hg => ⟨(h.own i g hg).1, Nat.lt_of_lt_of_le (h.own i g hg).2.1 hb.size, (hb.block g.1 (h.own i g hg).2.1).trans (h.own i g hg).2.2⟩, h.ne⟩
def upd (γ : Nat → Option (Nat × Obj)) (i : Nat) (g : Nat × Obj) : Nat → Option (Nat × Obj) := fun k => if k = i then some g else γ k
theorem upd_comm (γ : Nat → Option (Nat × Obj)) (i j : Nat) (g h : Nat × Obj) (hij : i ≠ j) : upd (upd γ i g) j h = upd (upd γ j h) i g := by
  funext k
  unfold upd
  by_cases h1 : k = i
  · subst h1; simp [hij]
  · by_cases h2 : k = j
    · subst h2; simp [h1]
    · simp [h1, h2]
theorem Hold.alloc {base : World} {γ : Nat → Option (Nat × Obj)} {w : World} (h : Hold base γ w) (i : Nat) (obj : Obj) : Hold base (upd γ i (w.heap.size, obj)) (w.alloc obj) := by
  have hb : Below w.heap.size w (w.alloc obj) := (Below.refl _ _).alloc (Nat.le_refl _) _
  have h' := h.below hb
  refine ⟨h'.bel, fun k g hg => ?_, fun k j g g' hkj hk hj => ?_⟩
  · unfold upd at hg
    split at hg
    · simp only [Option.some.injEq] at hg
      subst hg
      refine ⟨h.bel.size, by simp, ?_⟩
      show (w.heap.push _)[w.heap.size]? = _
      simp
    · exact h'.own k g hg
  · unfold upd at hk hj
    split at hk <;> split at hj
    · omega
    · simp only [Option.some.injEq] at hk
      subst hk
      have := (h.own j g' hj).2.1
      dsimp only
      omega
    · simp only [Option.some.injEq] at hj
      subst hj
      have := (h.own k g hk).2.1
      dsimp only
      omega
    · exact h.ne k j g g' hkj hk hj
/-- A block of its own has turned, nothing else. -/
structure Turned (w w' : World) (g : Nat) (obj : Obj) : Prop where
  os : w'.os = w.os
  tape : w'.tape = w.tape
  output : w'.output = w.output
  size : w'.heap.size = w.heap.size
  other : ∀ k, k ≠ g → w'.heap[k]? = w.heap[k]?
  here : w'.heap[g]? = some obj
theorem Hold.store {base : World} {γ : Nat → Option (Nat × Obj)} {w w' : World} (h : Hold base γ w) (i : Nat) (g : Nat) (o obj : Obj) (hg : γ i = some (g, o)) (ht : Turned w w' g obj) : Hold base (upd γ i (g, obj)) w' := by
  obtain ⟨h1, h2, h3⟩ := h.own i _ hg
  refine ⟨⟨ht.os.trans h.bel.os, ht.tape.trans h.bel.tape, ht.output.trans h.bel.output, by rw [ht.size]; exact h.bel.size, fun k hk => (ht.other k (by dsimp only at h1; omega)).trans (h.bel.block k hk)⟩, fun k q hq => ?_, fun k j q q' hkj hk hj => ?_⟩
  · unfold upd at hq
    split at hq
    · simp only [Option.some.injEq] at hq
      subst hq
      exact ⟨h1, by rw [ht.size]; exact h2, ht.here⟩
    · rename_i hki
      obtain ⟨k1, k2, k3⟩ := h.own k q hq
      exact ⟨k1, by rw [ht.size]; exact k2, (ht.other _ (h.ne k i q _ hki hq hg)).trans k3⟩
  · unfold upd at hk hj
    split at hk <;> split at hj
    · omega
    · rename_i e1 e2
      simp only [Option.some.injEq] at hk
      subst hk
      exact h.ne i j (g, o) q' (fun e => e2 e.symm) hg hj
    · rename_i e1 e2
      simp only [Option.some.injEq] at hj
      subst hj
      exact h.ne k i q (g, o) e1 hk hg
    · exact h.ne k j q q' hkj hk hj

section
variable {P : Program} {ops : Array Oper} {md : Region.Mode} {base : World} {ob : Nat → Option Obj} {st : Nat → Option (Nat × Obj)} {Q : Exit → Act → World → Prop} {full : Array Bool}

/-- The operation makes a new variable. -/
def Makes (P : Program) (o : Oper) (obj : Obj) : Prop := ∀ (a : Act) (w : World), (execOp a.eval o).run P w = .ok (.value (.pointer (some ⟨w.heap.size, 0, none⟩))) (w.alloc obj)
/-- The operation stores into the variable in block g. -/
def Stores (P : Program) (o : Oper) (a : Act) (g : Nat) (old obj : Obj) : Prop := ∀ w : World, w.heap[g]? = some old → ∃ w', (execOp a.eval o).run P w = .ok .skip w' ∧ Turned w w' g obj
/-- The operation yields v wherever memory has grown. -/
def Yb (P : Program) (ops : Array Oper) (base : World) (o : Oper) (v : Value) (a : Act) : Prop :=
  (Region.wanted o (yielded ops a.tmps) = true ∧ ∀ w, Below base.heap.size base w → o.quietAt P a (fun w'' => Below w.heap.size w w'') w v) ∨ (Region.wanted o (yielded ops a.tmps) = false ∧ v = undef)
def gOp (P : Program) (ops : Array Oper) (base : World) (ob : Nat → Option Obj) (st : Nat → Option (Nat × Obj)) (i : Nat) (K : (Nat → Option (Nat × Obj)) → Act → Prop) (γ : Nat → Option (Nat × Obj)) (a : Act) : Prop :=
  ∃ o, ops[i]? = some o ∧ ((∃ obj, ob i = some obj ∧ st i = none ∧ o.guard = none ∧ Makes P o obj ∧ ∀ g, K (upd γ i (g, obj)) (a.put o.dst (.pointer (some ⟨g, 0, none⟩)))) ∨
    (∃ k obj g old, ob i = none ∧ st i = some (k, obj) ∧ o.guard = none ∧ γ k = some (g, old) ∧ Stores P o a g old obj ∧ K (upd γ k (g, obj)) (a.put o.dst undef)) ∨
    (ob i = none ∧ st i = none ∧ ∃ v, Yb P ops base o v a ∧ K γ (a.put o.dst v)))

theorem gOp_at {i : Nat} {o : Oper} {K : (Nat → Option (Nat × Obj)) → Act → Prop} {γ : Nat → Option (Nat × Obj)} {a : Act} (ho : ops[i]? = some o) (h : gOp P ops base ob st i K γ a) :
    (∃ obj, ob i = some obj ∧ st i = none ∧ o.guard = none ∧ Makes P o obj ∧ ∀ g, K (upd γ i (g, obj)) (a.put o.dst (.pointer (some ⟨g, 0, none⟩)))) ∨
    (∃ k obj g old, ob i = none ∧ st i = some (k, obj) ∧ o.guard = none ∧ γ k = some (g, old) ∧ Stores P o a g old obj ∧ K (upd γ k (g, obj)) (a.put o.dst undef)) ∨
    (ob i = none ∧ st i = none ∧ ∃ v, Yb P ops base o v a ∧ K γ (a.put o.dst v)) := by
  obtain ⟨o', ho', hh⟩ := h
  rw [ho] at ho'
  simp only [Option.some.injEq] at ho'
  subst ho'
  exact hh

/-- Whatever order is picked. -/
def gAny (P : Program) (md : Region.Mode) (ops : Array Oper) (base : World) (ob : Nat → Option Obj) (st : Nat → Option (Nat × Obj)) (Q : Exit → Act → World → Prop) : Nat → Array Bool → (Nat → Option (Nat × Obj)) → Act → Prop
  | 0, listed, γ, a => Region.ready md ops listed = [] ∧ ∀ w, Hold base γ w → Q .normal a w
  | n + 1, listed, γ, a => Region.ready md ops listed ≠ [] ∧ ∀ i ∈ Region.ready md ops listed, gOp P ops base ob st i (gAny P md ops base ob st Q n (listed.setIfInBounds i true)) γ a

theorem wpOp_of_gOp {i : Nat} {K : (Nat → Option (Nat × Obj)) → Act → Prop} {K' : Act → World → Prop} {γ : Nat → Option (Nat × Obj)} {a : Act} {w : World} (hw : Hold base γ w) (h : ∀ γ a w, Hold base γ w → K γ a → K' a w) (hh : gOp P ops base ob st i K γ a) : wpOp P ops Q i K' a w := by
  obtain ⟨o, ho, hh⟩ := hh
  unfold wpOp
  simp only [ho]
  rcases hh with ⟨obj, h1, h0, h2, h3, h4⟩ | ⟨k, obj, g, old, h1, h2, h3, h4, h5, h6⟩ | ⟨h1, h0, v, hy, h3⟩
  · rw [if_pos (by unfold Region.wanted; rw [h2])]
    left
    unfold Oper.wp
    rw [h3 a w]
    exact h _ _ _ (hw.alloc i obj) (h4 w.heap.size)
  · rw [if_pos (by unfold Region.wanted; rw [h3])]
    left
    obtain ⟨w', hr, ht⟩ := h5 w (hw.own k _ h4).2.2
    unfold Oper.wp
    rw [hr]
    exact h _ _ _ (hw.store k g old obj h4 ht) h6
  · rcases hy with ⟨hwn, hq⟩ | ⟨hwn, rfl⟩
    · rw [if_pos hwn]
      left
      have h5 := hq w hw.bel
      unfold Oper.quietAt at h5
      unfold Oper.wp
      generalize (execOp a.eval o).run P w = r at *
      cases r with
      | ok n w' =>
        cases n <;> simp only [Oper.quietUpon] at h5 <;> simp only [Oper.upon]
        case value u =>
          obtain ⟨e1, e2⟩ := h5
          rw [e1, e2]
          exact h _ _ _ hw h3
        case skip =>
          obtain ⟨e1, e2⟩ := h5
          rw [e1, ← e2]
          exact h _ _ _ hw h3
        case enter f args =>
          obtain ⟨e1, hc⟩ := h5
          rw [e1]
          exact hc.mono fun e w'' ⟨he, hw''⟩ => by subst he; exact h _ _ _ (hw.below hw'') h3
      | halt x w' => simp only [Oper.quietUpon] at h5
    · rw [if_neg (by rw [hwn]; simp)]
      exact h _ _ _ hw h3

theorem wpAny_of_gAny : ∀ (n : Nat) (listed : Array Bool) (γ : Nat → Option (Nat × Obj)) (a : Act) (w : World), Hold base γ w → gAny P md ops base ob st Q n listed γ a → wpAny P md ops Q n listed a w
  | 0, _, _, _, _, hw, h => ⟨h.1, h.2 _ hw⟩
  | n + 1, _, _, _, _, hw, h => ⟨fun h0 => absurd h0 h.1, fun i hi => wpOp_of_gOp hw (fun γ a w hw' hk => wpAny_of_gAny n _ γ a w hw' hk) (h.2 i hi)⟩

theorem Yb.keep {o : Oper} {v : Value} {a : Act} {d : Option Tmp} {u : Value} (hs : ∀ cs b, o.op ≠ .select cs b) (h3 : ∀ t, d = some t → t ∉ o.looksAt ops) (hy : Yb P ops base o v a) : Yb P ops base o v (a.put d u) := by
  unfold Yb Oper.quietAt at *
  rw [execOp_put o hs a d u h3, wanted_put o a d u h3]
  exact hy
theorem Yb.back {o : Oper} {v : Value} {a : Act} {d : Option Tmp} {u : Value} (hs : ∀ cs b, o.op ≠ .select cs b) (h3 : ∀ t, d = some t → t ∉ o.looksAt ops) (hy : Yb P ops base o v (a.put d u)) : Yb P ops base o v a := by
  unfold Yb Oper.quietAt at *
  rw [execOp_put o hs a d u h3, wanted_put o a d u h3] at hy
  exact hy
theorem Stores.keep {o : Oper} {a : Act} {d : Option Tmp} {u : Value} {g : Nat} {old obj : Obj} (hs : ∀ cs b, o.op ≠ .select cs b) (h3 : ∀ t, d = some t → t ∉ o.looksAt ops) (hy : Stores P o a g old obj) : Stores P o (a.put d u) g old obj := by
  unfold Stores at *
  rw [execOp_put o hs a d u h3]
  exact hy
theorem Stores.back {o : Oper} {a : Act} {d : Option Tmp} {u : Value} {g : Nat} {old obj : Obj} (hs : ∀ cs b, o.op ≠ .select cs b) (h3 : ∀ t, d = some t → t ∉ o.looksAt ops) (hy : Stores P o (a.put d u) g old obj) : Stores P o a g old obj := by
  unfold Stores at *
  rw [execOp_put o hs a d u h3] at hy
  exact hy

theorem waits {i j : Nat} {listed : Array Bool} {oj : Oper} (hj : j ∈ Region.ready md ops listed) (hoj : ops[j]? = some oj) (hi : listed.getD i true = false) : ∀ e ∈ oj.after, Region.binds md e = true → e.on ≠ i := fun e he hb heq => by
  obtain ⟨-, o, ho, hall⟩ := mem_ready.1 hj
  rw [hoj] at ho
  simp only [Option.some.injEq] at ho
  subst ho
  have h1 := hall e he hb
  rw [heq] at h1
  rcases Nat.lt_or_ge i listed.size with h' | h'
  · simp [h'] at hi h1; rw [hi] at h1; cases h1
  · simp [Array.getElem?_eq_none h'] at h1

/-- An operation of one value that may come up now may be taken first. -/
theorem gAny_first {i : Nat} {oi : Oper} {v : Value} (hi : ops[i]? = some oi) (hob : ob i = none) (hst : st i = none) (hsel : ∀ (j : Nat) (o : Oper) cs b, ops[j]? = some o → o.op ≠ .select cs b) :
    ∀ (n : Nat) (listed : Array Bool) (γ : Nat → Option (Nat × Obj)) (a : Act),
      (∀ j oj, ops[j]? = some oj → j ≠ i → listed.getD j true = false → (∀ e ∈ oj.after, Region.binds md e = true → e.on ≠ i) → oi.apart ops oj = true) →
      i ∈ Region.ready md ops listed → Yb P ops base oi v a →
      gAny P md ops base ob st Q n (listed.setIfInBounds i true) γ (a.put oi.dst v) → gAny P md ops base ob st Q (n + 1) listed γ a := by
  intro n
  induction n with
  | zero =>
    intro listed γ a _ hr hy H
    refine ⟨fun h => (by rw [h] at hr; cases hr), fun j hj => ?_⟩
    by_cases hji : j = i
    · subst hji; exact ⟨oi, hi, .inr (.inr ⟨hob, hst, v, hy, H⟩)⟩
    · have := ready_mono hj hji
      rw [H.1] at this
      cases this
  | succ n ih =>
    intro listed γ a hfree hr hy H
    refine ⟨fun h => (by rw [h] at hr; cases hr), fun j hj => ?_⟩
    by_cases hji : j = i
    · subst hji; exact ⟨oi, hi, .inr (.inr ⟨hob, hst, v, hy, H⟩)⟩
    · have h1 := H.2 j (ready_mono hj hji)
      obtain ⟨hjun, oj, hoj, -⟩ := mem_ready.1 hj
      have hap := hfree j oj hoj hji hjun (waits hj hoj (mem_ready.1 hr).1)
      obtain ⟨k1, k2, k3⟩ := Oper.apart_spec hap
      have hfree' : ∀ k ok, ops[k]? = some ok → k ≠ i → (listed.setIfInBounds j true).getD k true = false → (∀ e ∈ ok.after, Region.binds md e = true → e.on ≠ i) → oi.apart ops ok = true := fun k ok hk hki hun hno => by
        refine hfree k ok hk hki ?_ hno
        by_cases hjk : j = k
        · subst hjk; exact hjun
        · rw [getD_set_ne true hjk] at hun; exact hun
      have hr' := ready_mono hr (Ne.symm hji)
      have hsi := fun cs b => hsel i oi cs b hi
      have hsj := fun cs b => hsel j oj cs b hoj
      have hc := Array.setIfInBounds_comm (xs := listed) true true (Ne.symm hji)
      obtain ⟨o', ho', hh⟩ := h1
      rw [hoj] at ho'
      simp only [Option.some.injEq] at ho'
      subst ho'
      refine ⟨oj, hoj, ?_⟩
      rcases hh with ⟨obj, e1, e0, e2, e3, e4⟩ | ⟨k, obj, g, old, e1, e2, e3, e4, e5, e6⟩ | ⟨e1, e0, u, e2, e3⟩
      · refine .inl ⟨obj, e1, e0, e2, e3, fun g => ih _ _ _ hfree' hr' (Yb.keep hsi k3 hy) ?_⟩
        have := e4 g
        rw [hc, Act.put_comm a v _ k2] at this
        exact this
      · refine .inr (.inl ⟨k, obj, g, old, e1, e2, e3, e4, Stores.back hsj k1 e5, ih _ _ _ hfree' hr' (Yb.keep hsi k3 hy) ?_⟩)
        rw [hc, Act.put_comm a v _ k2] at e6
        exact e6
      · refine .inr (.inr ⟨e1, e0, u, Yb.back hsj k1 e2, ih _ _ _ hfree' hr' (Yb.keep hsi k3 hy) ?_⟩)
        rw [hc, Act.put_comm a v _ k2] at e3
        exact e3

/-- A new variable may be made first, if nothing but new variables and stores is left. -/
theorem gAny_make {i : Nat} {oi : Oper} {obj : Obj} (hi : ops[i]? = some oi) (hob : ob i = some obj) (hst : st i = none) (hg : oi.guard = none) (hmk : Makes P oi obj) (hsel : ∀ (j : Nat) (o : Oper) cs b, ops[j]? = some o → o.op ≠ .select cs b) :
    ∀ (n : Nat) (listed : Array Bool) (γ : Nat → Option (Nat × Obj)) (a : Act),
      (∀ j oj, ops[j]? = some oj → j ≠ i → listed.getD j true = false → (∀ e ∈ oj.after, Region.binds md e = true → e.on ≠ i) → oi.apart ops oj = true ∧ (ob j ≠ none ∨ ∃ k o, st j = some (k, o) ∧ k ≠ i)) →
      i ∈ Region.ready md ops listed →
      (∀ g, gAny P md ops base ob st Q n (listed.setIfInBounds i true) (upd γ i (g, obj)) (a.put oi.dst (.pointer (some ⟨g, 0, none⟩)))) → gAny P md ops base ob st Q (n + 1) listed γ a := by
  intro n
  induction n with
  | zero =>
    intro listed γ a _ hr H
    refine ⟨fun h => (by rw [h] at hr; cases hr), fun j hj => ?_⟩
    by_cases hji : j = i
    · subst hji; exact ⟨oi, hi, .inl ⟨obj, hob, hst, hg, hmk, H⟩⟩
    · have := ready_mono hj hji
      rw [(H 0).1] at this
      cases this
  | succ n ih =>
    intro listed γ a hfree hr H
    refine ⟨fun h => (by rw [h] at hr; cases hr), fun j hj => ?_⟩
    by_cases hji : j = i
    · subst hji; exact ⟨oi, hi, .inl ⟨obj, hob, hst, hg, hmk, H⟩⟩
    · obtain ⟨hjun, oj, hoj, -⟩ := mem_ready.1 hj
      obtain ⟨hap, hjo⟩ := hfree j oj hoj hji hjun (waits hj hoj (mem_ready.1 hr).1)
      obtain ⟨k1, k2, k3⟩ := Oper.apart_spec hap
      have hfree' : ∀ k ok, ops[k]? = some ok → k ≠ i → (listed.setIfInBounds j true).getD k true = false → (∀ e ∈ ok.after, Region.binds md e = true → e.on ≠ i) → oi.apart ops ok = true ∧ (ob k ≠ none ∨ ∃ q o, st k = some (q, o) ∧ q ≠ i) := fun k ok hk hki hun hno => by
        refine hfree k ok hk hki ?_ hno
        by_cases hjk : j = k
        · subst hjk; exact hjun
        · rw [getD_set_ne true hjk] at hun; exact hun
      have hr' := ready_mono hr (Ne.symm hji)
      have hsj := fun cs b => hsel j oj cs b hoj
      have hc := Array.setIfInBounds_comm (xs := listed) true true (Ne.symm hji)
      have hall' := fun g => gOp_at hoj ((H g).2 j (ready_mono hj hji))
      refine ⟨oj, hoj, ?_⟩
      rcases hall' 0 with ⟨objj, e1, e0, e2, e3, -⟩ | ⟨k, objj, gg, old, e1, e2, e3, e4, e5, -⟩ | ⟨e1, e0, -⟩
      · refine .inl ⟨objj, e1, e0, e2, e3, fun g' => ih _ _ _ hfree' hr' fun g => ?_⟩
        rcases hall' g with ⟨ob2, f1, f0, f2, f3, f4⟩ | ⟨k, ob2, gg, old, f1, f2, -⟩ | ⟨f1, -⟩
        · have := f4 g'
          rw [e1] at f1
          simp only [Option.some.injEq] at f1
          subst f1
          rw [hc, upd_comm γ i j _ _ (Ne.symm hji), Act.put_comm a _ _ k2] at this
          exact this
        · rw [e0] at f2; cases f2
        · rw [e1] at f1; cases f1
      · have hk : k ≠ i := by
          rcases hjo with h | ⟨q, o, h, hq⟩
          · exact absurd e1 h
          · rw [e2] at h
            simp only [Option.some.injEq, Prod.mk.injEq] at h
            rw [h.1]; exact hq
        have e4' : γ k = some (gg, old) := by unfold upd at e4; rw [if_neg hk] at e4; exact e4
        refine .inr (.inl ⟨k, objj, gg, old, e1, e2, e3, e4', Stores.back hsj k1 e5, ih _ _ _ hfree' hr' fun g => ?_⟩)
        rcases hall' g with ⟨ob2, f1, -⟩ | ⟨k', ob2, gg', old', f1, f2, f3, f4, f5, f6⟩ | ⟨f1, f0, -⟩
        · rw [e1] at f1; cases f1
        · rw [e2] at f2
          simp only [Option.some.injEq, Prod.mk.injEq] at f2
          obtain ⟨rfl, rfl⟩ := f2
          unfold upd at f4
          rw [if_neg hk, e4'] at f4
          simp only [Option.some.injEq, Prod.mk.injEq] at f4
          obtain ⟨rfl, rfl⟩ := f4
          rw [hc, upd_comm γ i k _ _ (Ne.symm hk), Act.put_comm a _ _ k2] at f6
          exact f6
        · rw [e2] at f0; cases f0
      · rcases hjo with h | ⟨q, o, h, -⟩
        · exact absurd e1 h
        · rw [e0] at h; cases h

/-- A store may be done first, if nothing but stores into other variables is left. -/
theorem gAny_store {i k : Nat} {oi : Oper} {obj : Obj} (hi : ops[i]? = some oi) (hob : ob i = none) (hst : st i = some (k, obj)) (hg : oi.guard = none) (hsel : ∀ (j : Nat) (o : Oper) cs b, ops[j]? = some o → o.op ≠ .select cs b) :
    ∀ (n : Nat) (listed : Array Bool) (γ : Nat → Option (Nat × Obj)) (a : Act) (g : Nat) (old : Obj),
      (∀ j oj, ops[j]? = some oj → j ≠ i → listed.getD j true = false → (∀ e ∈ oj.after, Region.binds md e = true → e.on ≠ i) → oi.apart ops oj = true ∧ ∃ q o, st j = some (q, o) ∧ q ≠ k) →
      i ∈ Region.ready md ops listed → γ k = some (g, old) → Stores P oi a g old obj →
      gAny P md ops base ob st Q n (listed.setIfInBounds i true) (upd γ k (g, obj)) (a.put oi.dst undef) → gAny P md ops base ob st Q (n + 1) listed γ a := by
  intro n
  induction n with
  | zero =>
    intro listed γ a g old _ hr hk hs H
    refine ⟨fun h => (by rw [h] at hr; cases hr), fun j hj => ?_⟩
    by_cases hji : j = i
    · subst hji; exact ⟨oi, hi, .inr (.inl ⟨k, obj, g, old, hob, hst, hg, hk, hs, H⟩)⟩
    · have := ready_mono hj hji
      rw [H.1] at this
      cases this
  | succ n ih =>
    intro listed γ a g old hfree hr hk hs H
    refine ⟨fun h => (by rw [h] at hr; cases hr), fun j hj => ?_⟩
    by_cases hji : j = i
    · subst hji; exact ⟨oi, hi, .inr (.inl ⟨k, obj, g, old, hob, hst, hg, hk, hs, H⟩)⟩
    · obtain ⟨hjun, oj, hoj, -⟩ := mem_ready.1 hj
      obtain ⟨hap, q, o, hq, hqk⟩ := hfree j oj hoj hji hjun (waits hj hoj (mem_ready.1 hr).1)
      obtain ⟨k1, k2, k3⟩ := Oper.apart_spec hap
      have hfree' : ∀ l ol, ops[l]? = some ol → l ≠ i → (listed.setIfInBounds j true).getD l true = false → (∀ e ∈ ol.after, Region.binds md e = true → e.on ≠ i) → oi.apart ops ol = true ∧ ∃ q o, st l = some (q, o) ∧ q ≠ k := fun l ol hl hli hun hno => by
        refine hfree l ol hl hli ?_ hno
        by_cases hjl : j = l
        · subst hjl; exact hjun
        · rw [getD_set_ne true hjl] at hun; exact hun
      have hr' := ready_mono hr (Ne.symm hji)
      have hsi := fun cs b => hsel i oi cs b hi
      have hsj := fun cs b => hsel j oj cs b hoj
      have hc := Array.setIfInBounds_comm (xs := listed) true true (Ne.symm hji)
      refine ⟨oj, hoj, ?_⟩
      rcases gOp_at hoj (H.2 j (ready_mono hj hji)) with ⟨ob2, f1, f0, -⟩ | ⟨k', ob2, g', old', f1, f2, f3, f4, f5, f6⟩ | ⟨f1, f0, -⟩
      · rw [hq] at f0; cases f0
      · have e := f2
        rw [hq] at e
        simp only [Option.some.injEq, Prod.mk.injEq] at e
        have hk' : k' ≠ k := by rw [← e.1]; exact hqk
        unfold upd at f4
        rw [if_neg hk'] at f4
        refine .inr (.inl ⟨k', ob2, g', old', f1, f2, f3, f4, Stores.back hsj k1 f5, ih _ _ _ g old hfree' hr' (by unfold upd; rw [if_neg (Ne.symm hk')]; exact hk) (Stores.keep hsi k3 hs) ?_⟩)
        rw [hc, upd_comm γ k k' _ _ (Ne.symm hk'), Act.put_comm a _ _ k2] at f6
        exact f6
      · rw [hq] at f0; cases f0

def restB (md : Region.Mode) (ops : Array Oper) (good : Nat → Bool) (listed : Array Bool) (i : Nat) : Bool := (List.range ops.size).all fun j => j == i || listed.getD j true || good j || match ops[j]? with
  | some oj => oj.after.any (fun e => Region.binds md e && e.on == i)
  | none => true
theorem rest_of {good : Nat → Bool} {listed : Array Bool} {i j : Nat} {oj : Oper} (h : restB md ops good listed i = true) (hoj : ops[j]? = some oj) (hji : j ≠ i) (hun : listed.getD j true = false) (hno : ∀ e ∈ oj.after, Region.binds md e = true → e.on ≠ i) : good j = true := by
  have hlt : j < ops.size := (Array.getElem?_eq_some_iff.1 hoj).1
  have := List.all_eq_true.1 h j (List.mem_range.2 hlt)
  rw [hun, hoj] at this
  simp only [Bool.or_false, Bool.or_eq_true, beq_iff_eq] at this
  rcases this with (h | h) | h
  · exact absurd h hji
  · exact h
  · obtain ⟨e, he, hb⟩ := Array.any_eq_true'.1 h
    simp only [Bool.and_eq_true, beq_iff_eq] at hb
    exact absurd hb.2 (hno e he hb.1)

theorem g_first (i : Nat) (oi : Oper) (v : Value) {n : Nat} {listed : Array Bool} {γ : Nat → Option (Nat × Obj)} {a : Act} (hi : ops[i]? = some oi) (hob : ob i = none) (hst : st i = none) (hs : Region.noSelect ops = true) (hf : Region.free md ops listed i = true) (hr : (Region.ready md ops listed).contains i = true)
    (hy : Yb P ops base oi v a) (H : gAny P md ops base ob st Q n (listed.setIfInBounds i true) γ (a.put oi.dst v)) : gAny P md ops base ob st Q (n + 1) listed γ a :=
  gAny_first hi hob hst (Region.noSelect_spec hs) n listed γ a (Region.free_spec hi hf) (by simpa using hr) hy H
theorem g_make (i : Nat) (oi : Oper) (obj : Obj) (good : Nat → Bool) {n : Nat} {listed : Array Bool} {γ : Nat → Option (Nat × Obj)} {a : Act} (hi : ops[i]? = some oi) (hob : ob i = some obj) (hst : st i = none) (hg : oi.guard = none) (hmk : Makes P oi obj) (hgood : ∀ j, good j = true → ob j ≠ none ∨ ∃ k o, st j = some (k, o) ∧ k ≠ i) (hs : Region.noSelect ops = true)
    (hf : Region.free md ops listed i = true) (hre : restB md ops good listed i = true) (hr : (Region.ready md ops listed).contains i = true)
    (H : ∀ g, gAny P md ops base ob st Q n (listed.setIfInBounds i true) (upd γ i (g, obj)) (a.put oi.dst (.pointer (some ⟨g, 0, none⟩)))) : gAny P md ops base ob st Q (n + 1) listed γ a :=
  gAny_make hi hob hst hg hmk (Region.noSelect_spec hs) n listed γ a (fun j oj hoj hji hun hno => ⟨Region.free_spec hi hf j oj hoj hji hun hno, hgood j (rest_of hre hoj hji hun hno)⟩) (by simpa using hr) H
theorem g_store (i k : Nat) (oi : Oper) (obj : Obj) (g : Nat) (old : Obj) (good : Nat → Bool) {n : Nat} {listed : Array Bool} {γ : Nat → Option (Nat × Obj)} {a : Act} (hi : ops[i]? = some oi) (hob : ob i = none) (hst : st i = some (k, obj)) (hg : oi.guard = none) (hgood : ∀ j, good j = true → ∃ q o, st j = some (q, o) ∧ q ≠ k) (hs : Region.noSelect ops = true)
    (hf : Region.free md ops listed i = true) (hre : restB md ops good listed i = true) (hr : (Region.ready md ops listed).contains i = true) (hk : γ k = some (g, old)) (hS : Stores P oi a g old obj)
    (H : gAny P md ops base ob st Q n (listed.setIfInBounds i true) (upd γ k (g, obj)) (a.put oi.dst undef)) : gAny P md ops base ob st Q (n + 1) listed γ a :=
  gAny_store hi hob hst hg (Region.noSelect_spec hs) n listed γ a g old (fun j oj hoj hji hun hno => ⟨Region.free_spec hi hf j oj hoj hji hun hno, hgood j (rest_of hre hoj hji hun hno)⟩) (by simpa using hr) hk hS H

theorem wp_region_grow {id : Nat} {a : Act} {w : World} (hm : P.follows .mixedOrders = true) (h : gAny P .any ops w ob st Q ops.size (Array.replicate ops.size false) (fun _ => none) a) : (Code.region id ops true).wp P Q a w :=
  wp_region_any hm (wpAny_of_gAny _ _ _ a w.drew ⟨(Below.refl _ w).drew, fun i g hg => by simp at hg, fun i j g h _ hg => by simp at hg⟩ h)

end

theorem quiet_call {P : Program} {o : Oper} {a : Act} {C : World → Prop} {w : World} {v : Value} {f : FuncId} {args : Array Value} (h : (execOp a.eval o).run P w = .ok (.enter f args) w) (hc : Calls P f args w (fun e w'' => e = .returned v ∧ C w'')) : o.quietAt P a C w v := by
  unfold Oper.quietAt; rw [h]; exact ⟨rfl, hc⟩

end Go.Proofs.YtkbiiolkekpkiaaDoor
