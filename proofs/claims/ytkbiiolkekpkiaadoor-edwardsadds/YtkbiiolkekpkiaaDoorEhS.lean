/-
  A region that draws its order, in which calls make memory whose place nobody knows: what is known of their answers is a fact that later worlds keep; new variables may be made at any time between them; stores into these come last. One walk in the order of the text serves every order. Conditions: as the theorems say.
-/
import Derived.Test.YtkbiiolkekpkiaaDoorGrow
import Derived.Test.YtkbiiolkekpkiaaDoorEgX
namespace Go.Proofs.YtkbiiolkekpkiaaDoor
open Go.RowKit
set_option linter.unusedVariables false

/-- A row of cells without numbers of the kind i64. -/
def Bare (o : Obj) : Prop := ∃ (t : TypeId) (L : List Value), o = .cells L.toArray t ∧ ∀ v ∈ L, ∀ z, v ≠ .int .i64 z
/-- So of every later world, too, though such rows turn. -/
structure Steady (Φ : World → Prop) : Prop where
  below : ∀ w w', Φ w → Below w.heap.size w w' → Φ w'
  turned : ∀ w w' g old obj, Φ w → w.heap[g]? = some old → Bare old → Turned w w' g obj → Φ w'
theorem Steady.and {Φ Ψ : World → Prop} (h : Steady Φ) (k : Steady Ψ) : Steady (fun w => Φ w ∧ Ψ w) :=
  ⟨fun w w' hw hb => ⟨h.below w w' hw.1 hb, k.below w w' hw.2 hb⟩, fun w w' g old obj hw h1 h2 h3 => ⟨h.turned w w' g old obj hw.1 h1 h2 h3, k.turned w w' g old obj hw.2 h1 h2 h3⟩⟩

section
variable {P : Program} {ops : Array Oper} {md : Region.Mode} {base : World} {ob : Nat → Option Obj} {st : Nat → Option (Nat × Obj)} {Q : Exit → Act → World → Prop}

/-- The operation is a call whose answer is told by Ψ. -/
def MemCall (P : Program) (o : Oper) (a : Act) (w : World) (Ψ : Value → World → Prop) (χ : Value → Prop) : Prop :=
  ∃ f args, (execOp a.eval o).run P w = .ok (.enter f args) w ∧ Calls P f args w fun e w'' => ∃ v, e = .returned v ∧ χ v ∧ Ψ v w'' ∧ Below w.heap.size w w''
def mOp (P : Program) (ops : Array Oper) (base : World) (ob : Nat → Option Obj) (i : Nat) (K : (Nat → Option (Nat × Obj)) → (World → Prop) → Act → Prop) (γ : Nat → Option (Nat × Obj)) (Φ : World → Prop) (a : Act) : Prop :=
  ∃ o, ops[i]? = some o ∧ ((∃ obj, ob i = some obj ∧ o.guard = none ∧ Makes P o obj ∧ ∀ g, K (upd γ i (g, obj)) Φ (a.put o.dst (.pointer (some ⟨g, 0, none⟩)))) ∨
    (ob i = none ∧ ∃ k obj g old, o.guard = none ∧ γ k = some (g, old) ∧ Bare old ∧ Stores P o a g old obj ∧ K (upd γ k (g, obj)) Φ (a.put o.dst undef)) ∨
    (ob i = none ∧ ∃ v, Yb P ops base o v a ∧ K γ Φ (a.put o.dst v)) ∨
    (ob i = none ∧ Region.wanted o (yielded ops a.tmps) = true ∧ ∃ (Ψ : Value → World → Prop) (χ : Value → Prop), (∀ v, Steady (Ψ v)) ∧ (∀ w, Below base.heap.size base w → Φ w → MemCall P o a w Ψ χ) ∧ ∀ v, χ v → K γ (fun w => Φ w ∧ Ψ v w) (a.put o.dst v)))
/-- Whatever order is picked. -/
def mAny (P : Program) (md : Region.Mode) (ops : Array Oper) (base : World) (ob : Nat → Option Obj) (Q : Exit → Act → World → Prop) : Nat → Array Bool → (Nat → Option (Nat × Obj)) → (World → Prop) → Act → Prop
  | 0, listed, γ, Φ, a => Region.ready md ops listed = [] ∧ ∀ w, Hold base γ w → Φ w → Q .normal a w
  | n + 1, listed, γ, Φ, a => Region.ready md ops listed ≠ [] ∧ ∀ i ∈ Region.ready md ops listed, mOp P ops base ob i (mAny P md ops base ob Q n (listed.setIfInBounds i true)) γ Φ a
theorem wpOp_of_mOp {i : Nat} {K : (Nat → Option (Nat × Obj)) → (World → Prop) → Act → Prop} {K' : Act → World → Prop} {γ : Nat → Option (Nat × Obj)} {Φ : World → Prop} {a : Act} {w : World} (hs : Steady Φ) (hw : Hold base γ w) (hf : Φ w)
    (h : ∀ γ Φ a w, Steady Φ → Hold base γ w → Φ w → K γ Φ a → K' a w) (hh : mOp P ops base ob i K γ Φ a) : wpOp P ops Q i K' a w := by
  obtain ⟨o, ho, hh⟩ := hh
  unfold wpOp
  simp only [ho]
  rcases hh with ⟨obj, h1, h2, h3, h4⟩ | ⟨h1, k, obj, g, old, h3, h4, hb, h5, h6⟩ | ⟨h1, v, hy, h3⟩ | ⟨h1, hwn, Ψ, χ, hΨ, hm, h3⟩
  · rw [if_pos (by unfold Region.wanted; rw [h2])]
    left
    unfold Oper.wp
    rw [h3 a w]
    exact h _ _ _ _ hs (hw.alloc i obj) (hs.below _ _ hf ((Below.refl _ _).alloc (Nat.le_refl _) _)) (h4 w.heap.size)
  · rw [if_pos (by unfold Region.wanted; rw [h3])]
    left
    have hg := (hw.own k _ h4).2.2
    obtain ⟨w', hr, ht⟩ := h5 w hg
    unfold Oper.wp
    rw [hr]
    exact h _ _ _ _ hs (hw.store k g old obj h4 ht) (hs.turned w w' g old obj hf hg hb ht) h6
  · rcases hy with ⟨hwn, hq⟩ | ⟨hwn, rfl⟩
    · rw [if_pos hwn]
      left
      have h5 := hq w hw.bel
      unfold Oper.quietAt at h5
      unfold Oper.wp
      generalize (execOp a.eval o).run P w = r at *
      cases r with
      | ok n w' =>
        cases n <;> simp only [Oper.quietUpon] at h5 <;> simp only [Oper.upon]
        case value u =>
          obtain ⟨e1, e2⟩ := h5
          rw [e1, e2]
          exact h _ _ _ _ hs hw hf h3
        case skip =>
          obtain ⟨e1, e2⟩ := h5
          rw [e1, ← e2]
          exact h _ _ _ _ hs hw hf h3
        case enter f args =>
          obtain ⟨e1, hc⟩ := h5
          rw [e1]
          exact hc.mono fun e w'' ⟨he, hw''⟩ => by subst he; exact h _ _ _ _ hs (hw.below hw'') (hs.below _ _ hf hw'') h3
      | halt x w' => simp only [Oper.quietUpon] at h5
    · rw [if_neg (by rw [hwn]; simp)]
      exact h _ _ _ _ hs hw hf h3
  · rw [if_pos hwn]
    left
    obtain ⟨f, args, hr, hc⟩ := hm w hw.bel hf
    unfold Oper.wp
    rw [hr]
    exact hc.mono fun e w'' ⟨v, he, hx, hv, hb⟩ => by subst he; exact h _ _ _ _ (hs.and (hΨ v)) (hw.below hb) ⟨hs.below _ _ hf hb, hv⟩ (h3 v hx)
theorem wpAny_of_mAny : ∀ (n : Nat) (listed : Array Bool) (γ : Nat → Option (Nat × Obj)) (Φ : World → Prop) (a : Act) (w : World), Steady Φ → Hold base γ w → Φ w → mAny P md ops base ob Q n listed γ Φ a → wpAny P md ops Q n listed a w
  | 0, _, _, _, _, _, hs, hw, hf, h => ⟨h.1, h.2 _ hw hf⟩
  | n + 1, _, _, _, _, _, hs, hw, hf, h => ⟨fun h0 => absurd h0 h.1, fun i hi => wpOp_of_mOp hs hw hf (fun γ Φ a w hs' hw' hf' hk => wpAny_of_mAny n _ γ Φ a w hs' hw' hf' hk) (h.2 i hi)⟩
/-- Once every call is done: the game of new variables and stores. -/
theorem mAny_of_gAny {Φ : World → Prop} (hob : ∀ i obj, ob i = some obj → Bare obj) (hst : ∀ i k obj, st i = some (k, obj) → Bare obj) : ∀ (n : Nat) (listed : Array Bool) (γ : Nat → Option (Nat × Obj)) (a : Act), (∀ k g old, γ k = some (g, old) → Bare old) →
    gAny P md ops base ob st (fun x a w => Φ w → Q x a w) n listed γ a → mAny P md ops base ob Q n listed γ Φ a
  | 0, _, _, _, _, h => h
  | n + 1, _, γ, _, hγ, h => ⟨h.1, fun i hi => by
    obtain ⟨o, ho, hh⟩ := h.2 i hi
    have hup : ∀ j g obj, Bare obj → ∀ k g' old, upd γ j (g, obj) k = some (g', old) → Bare old := by
      intro j g obj hb k g' old e
      unfold upd at e
      split at e
      · simp only [Option.some.injEq, Prod.mk.injEq] at e
        rw [← e.2]; exact hb
      · exact hγ k g' old e
    refine ⟨o, ho, ?_⟩
    rcases hh with ⟨obj, e1, e0, e2, e3, e4⟩ | ⟨k, obj, g, old, e1, e2, e3, e4, e5, e6⟩ | ⟨e1, e0, v, e2, e3⟩
    · exact .inl ⟨obj, e1, e2, e3, fun g => mAny_of_gAny hob hst n _ _ _ (hup i g obj (hob i obj e1)) (e4 g)⟩
    · exact .inr (.inl ⟨e1, k, obj, g, old, e3, e4, hγ k g old e4, e5, mAny_of_gAny hob hst n _ _ _ (hup k g obj (hst i k obj e2)) e6⟩)
    · exact .inr (.inr (.inl ⟨e1, v, e2, mAny_of_gAny hob hst n _ _ _ hγ e3⟩))⟩
theorem MemCall.keep {o : Oper} {a : Act} {d : Option Tmp} {u : Value} {w : World} {Ψ : Value → World → Prop} {χ : Value → Prop} (hs : ∀ cs b, o.op ≠ .select cs b) (h3 : ∀ t, d = some t → t ∉ o.looksAt ops) (hy : MemCall P o a w Ψ χ) : MemCall P o (a.put d u) w Ψ χ := by
  unfold MemCall at *
  rw [execOp_put o hs a d u h3]
  exact hy
theorem MemCall.back {o : Oper} {a : Act} {d : Option Tmp} {u : Value} {w : World} {Ψ : Value → World → Prop} {χ : Value → Prop} (hs : ∀ cs b, o.op ≠ .select cs b) (h3 : ∀ t, d = some t → t ∉ o.looksAt ops) (hy : MemCall P o (a.put d u) w Ψ χ) : MemCall P o a w Ψ χ := by
  unfold MemCall at *
  rw [execOp_put o hs a d u h3] at hy
  exact hy
/-- An operation of one value that may come up now may be taken first. -/
theorem mAny_first {i : Nat} {oi : Oper} {v : Value} (hi : ops[i]? = some oi) (hob : ob i = none) (hsel : ∀ (j : Nat) (o : Oper) cs b, ops[j]? = some o → o.op ≠ .select cs b) :
    ∀ (n : Nat) (listed : Array Bool) (γ : Nat → Option (Nat × Obj)) (Φ : World → Prop) (a : Act),
      (∀ j oj, ops[j]? = some oj → j ≠ i → listed.getD j true = false → (∀ e ∈ oj.after, Region.binds md e = true → e.on ≠ i) → oi.apart ops oj = true) →
      i ∈ Region.ready md ops listed → Yb P ops base oi v a →
      mAny P md ops base ob Q n (listed.setIfInBounds i true) γ Φ (a.put oi.dst v) → mAny P md ops base ob Q (n + 1) listed γ Φ a := by
  intro n
  induction n with
  | zero =>
    intro listed γ Φ a _ hr hy H
    refine ⟨fun h => (by rw [h] at hr; cases hr), fun j hj => ?_⟩
    by_cases hji : j = i
    · subst hji; exact ⟨oi, hi, .inr (.inr (.inl ⟨hob, v, hy, H⟩))⟩
    · have := ready_mono hj hji
      rw [H.1] at this
      cases this
  | succ n ih =>
    intro listed γ Φ a hfree hr hy H
    refine ⟨fun h => (by rw [h] at hr; cases hr), fun j hj => ?_⟩
    by_cases hji : j = i
    · subst hji; exact ⟨oi, hi, .inr (.inr (.inl ⟨hob, v, hy, H⟩))⟩
    · have h1 := H.2 j (ready_mono hj hji)
      obtain ⟨hjun, oj, hoj, -⟩ := mem_ready.1 hj
      have hap := hfree j oj hoj hji hjun (waits hj hoj (mem_ready.1 hr).1)
      obtain ⟨k1, k2, k3⟩ := Oper.apart_spec hap
      have hfree' : ∀ k ok, ops[k]? = some ok → k ≠ i → (listed.setIfInBounds j true).getD k true = false → (∀ e ∈ ok.after, Region.binds md e = true → e.on ≠ i) → oi.apart ops ok = true := fun k ok hk hki hun hno => by
        refine hfree k ok hk hki ?_ hno
        by_cases hjk : j = k
        · subst hjk; exact hjun
        · rw [getD_set_ne true hjk] at hun; exact hun
      have hr' := ready_mono hr (Ne.symm hji)
      have hsi := fun cs b => hsel i oi cs b hi
      have hsj := fun cs b => hsel j oj cs b hoj
      have hc := Array.setIfInBounds_comm (xs := listed) true true (Ne.symm hji)
      obtain ⟨o', ho', hh⟩ := h1
      rw [hoj] at ho'
      simp only [Option.some.injEq] at ho'
      subst ho'
      refine ⟨oj, hoj, ?_⟩
      rcases hh with ⟨obj, e1, e2, e3, e4⟩ | ⟨e1, k, obj, g, old, e3, e4, eb, e5, e6⟩ | ⟨e1, u, e2, e3⟩ | ⟨e1, ew, Ψ, χ, eΨ, em, e3⟩
      · refine .inl ⟨obj, e1, e2, e3, fun g => ih _ _ _ _ hfree' hr' (Yb.keep hsi k3 hy) ?_⟩
        have := e4 g
        rw [hc, Act.put_comm a v _ k2] at this
        exact this
      · refine .inr (.inl ⟨e1, k, obj, g, old, e3, e4, eb, Stores.back hsj k1 e5, ih _ _ _ _ hfree' hr' (Yb.keep hsi k3 hy) ?_⟩)
        rw [hc, Act.put_comm a v _ k2] at e6
        exact e6
      · refine .inr (.inr (.inl ⟨e1, u, Yb.back hsj k1 e2, ih _ _ _ _ hfree' hr' (Yb.keep hsi k3 hy) ?_⟩))
        rw [hc, Act.put_comm a v _ k2] at e3
        exact e3
      · rw [wanted_put oj a oi.dst v k1] at ew
        refine .inr (.inr (.inr ⟨e1, ew, Ψ, χ, eΨ, fun w hb hf => MemCall.back hsj k1 (em w hb hf), fun u hu => ih _ _ _ _ hfree' hr' (Yb.keep hsi k3 hy) ?_⟩))
        have := e3 u hu
        rw [hc, Act.put_comm a v _ k2] at this
        exact this
/-- A call that makes memory may be taken first, if nothing but new variables may come up beside it. -/
theorem mAny_call {i : Nat} {oi : Oper} (Ψ : Value → World → Prop) (χ : Value → Prop) (v0 : Value) (h0 : χ v0) (hΨ : ∀ v, Steady (Ψ v)) (hi : ops[i]? = some oi) (hob : ob i = none) (hsel : ∀ (j : Nat) (o : Oper) cs b, ops[j]? = some o → o.op ≠ .select cs b) :
    ∀ (n : Nat) (listed : Array Bool) (γ : Nat → Option (Nat × Obj)) (Φ : World → Prop) (a : Act),
      (∀ j oj, ops[j]? = some oj → j ≠ i → listed.getD j true = false → (oi.apart ops oj = true ∧ ob j ≠ none) ∨ (∃ e ∈ oj.after, Region.binds md e = true ∧ listed.getD e.on true = false ∧ ob e.on = none)) →
      i ∈ Region.ready md ops listed → Region.wanted oi (yielded ops a.tmps) = true → (∀ w, Below base.heap.size base w → Φ w → MemCall P oi a w Ψ χ) →
      (∀ v, χ v → mAny P md ops base ob Q n (listed.setIfInBounds i true) γ (fun w => Φ w ∧ Ψ v w) (a.put oi.dst v)) → mAny P md ops base ob Q (n + 1) listed γ Φ a := by
  have nowait : ∀ (listed : Array Bool) (j : Nat) (oj : Oper), ops[j]? = some oj → j ∈ Region.ready md ops listed → ¬ ∃ e ∈ oj.after, Region.binds md e = true ∧ listed.getD e.on true = false ∧ ob e.on = none := by
    rintro listed j oj hoj hj ⟨e, he, hb, hun, -⟩
    exact waits hj hoj hun e he hb rfl
  intro n
  induction n with
  | zero =>
    intro listed γ Φ a hfree hr hw hm H
    refine ⟨fun h => (by rw [h] at hr; cases hr), fun j hj => ?_⟩
    by_cases hji : j = i
    · subst hji; exact ⟨oi, hi, .inr (.inr (.inr ⟨hob, hw, Ψ, χ, hΨ, hm, H⟩))⟩
    · have := ready_mono hj hji
      rw [(H v0 h0).1] at this
      cases this
  | succ n ih =>
    intro listed γ Φ a hfree hr hw hm H
    refine ⟨fun h => (by rw [h] at hr; cases hr), fun j hj => ?_⟩
    by_cases hji : j = i
    · subst hji; exact ⟨oi, hi, .inr (.inr (.inr ⟨hob, hw, Ψ, χ, hΨ, hm, H⟩))⟩
    · obtain ⟨hjun, oj, hoj, -⟩ := mem_ready.1 hj
      obtain ⟨hap, hjo⟩ := (hfree j oj hoj hji hjun).resolve_right (nowait listed j oj hoj hj)
      obtain ⟨k1, k2, k3⟩ := Oper.apart_spec hap
      have hfree' : ∀ k ok, ops[k]? = some ok → k ≠ i → (listed.setIfInBounds j true).getD k true = false → (oi.apart ops ok = true ∧ ob k ≠ none) ∨ (∃ e ∈ ok.after, Region.binds md e = true ∧ (listed.setIfInBounds j true).getD e.on true = false ∧ ob e.on = none) := fun k ok hk hki hun => by
        have hun' : listed.getD k true = false := by
          by_cases hjk : j = k
          · subst hjk; exact hjun
          · rw [getD_set_ne true hjk] at hun; exact hun
        rcases hfree k ok hk hki hun' with h | ⟨e, he, hb, h1, h2⟩
        · exact .inl h
        · refine .inr ⟨e, he, hb, ?_, h2⟩
          rw [getD_set_ne true (fun q => hjo (by rw [q]; exact h2))]
          exact h1
      have hr' := ready_mono hr (Ne.symm hji)
      have hsi := fun cs b => hsel i oi cs b hi
      have hc := Array.setIfInBounds_comm (xs := listed) true true (Ne.symm hji)
      have hall : ∀ v, χ v → ∃ obj, ob j = some obj ∧ oj.guard = none ∧ Makes P oj obj ∧ ∀ g, mAny P md ops base ob Q n ((listed.setIfInBounds i true).setIfInBounds j true) (upd γ j (g, obj)) (fun w => Φ w ∧ Ψ v w) ((a.put oi.dst v).put oj.dst (.pointer (some ⟨g, 0, none⟩))) := by
        intro v hv
        obtain ⟨o', ho', hh⟩ := (H v hv).2 j (ready_mono hj hji)
        rw [hoj] at ho'
        simp only [Option.some.injEq] at ho'
        subst ho'
        rcases hh with h | ⟨e, -⟩ | ⟨e, -⟩ | ⟨e, -⟩
        · exact h
        · exact absurd e hjo
        · exact absurd e hjo
        · exact absurd e hjo
      obtain ⟨obj, e1, e2, e3, -⟩ := hall v0 h0
      refine ⟨oj, hoj, .inl ⟨obj, e1, e2, e3, fun g => ih _ _ _ _ hfree' hr' (by rw [wanted_put oi a oj.dst _ k3]; exact hw) (fun w hb hf => MemCall.keep hsi k3 (hm w hb hf)) fun v hv => ?_⟩⟩
      obtain ⟨obj', f1, f2, f3, f4⟩ := hall v hv
      rw [e1] at f1
      simp only [Option.some.injEq] at f1
      subst f1
      have := f4 g
      rw [hc, Act.put_comm a v _ k2] at this
      exact this
/-- Beside number i nothing but new variables may come up. -/
def aloneB (md : Region.Mode) (ops : Array Oper) (ob : Nat → Option Obj) (listed : Array Bool) (i : Nat) : Bool :=
  match ops[i]? with
  | some oi => (List.range ops.size).all fun j => j == i || listed.getD j true || match ops[j]? with
    | some oj => (oi.apart ops oj && (ob j).isSome) || oj.after.any (fun e => Region.binds md e && !listed.getD e.on true && (ob e.on).isNone)
    | none => true
  | none => false
theorem alone_of {listed : Array Bool} {i : Nat} {oi : Oper} (hi : ops[i]? = some oi) (h : aloneB md ops ob listed i = true) : ∀ j oj, ops[j]? = some oj → j ≠ i → listed.getD j true = false → (oi.apart ops oj = true ∧ ob j ≠ none) ∨ (∃ e ∈ oj.after, Region.binds md e = true ∧ listed.getD e.on true = false ∧ ob e.on = none) := by
  intro j oj hoj hji hun
  unfold aloneB at h
  rw [hi] at h
  have hlt : j < ops.size := (Array.getElem?_eq_some_iff.1 hoj).1
  have := List.all_eq_true.1 h j (List.mem_range.2 hlt)
  rw [hun, hoj] at this
  simp only [Bool.or_false, Bool.or_eq_true, beq_iff_eq, Bool.and_eq_true] at this
  rcases this with h | h | h
  · exact absurd h hji
  · exact .inl ⟨h.1, fun e => by rw [e] at h; simp at h⟩
  · obtain ⟨e, he, hb⟩ := Array.any_eq_true'.1 h
    simp only [Bool.and_eq_true, Bool.not_eq_true', Option.isNone_iff_eq_none] at hb
    exact .inr ⟨e, he, hb.1.1, hb.1.2, hb.2⟩
theorem m_first (i : Nat) (oi : Oper) (v : Value) {n : Nat} {listed : Array Bool} {γ : Nat → Option (Nat × Obj)} {Φ : World → Prop} {a : Act} (hi : ops[i]? = some oi) (hob : ob i = none) (hs : Region.noSelect ops = true) (hf : Region.free md ops listed i = true) (hr : (Region.ready md ops listed).contains i = true)
    (hy : Yb P ops base oi v a) (H : mAny P md ops base ob Q n (listed.setIfInBounds i true) γ Φ (a.put oi.dst v)) : mAny P md ops base ob Q (n + 1) listed γ Φ a :=
  mAny_first hi hob (Region.noSelect_spec hs) n listed γ Φ a (Region.free_spec hi hf) (by simpa using hr) hy H
theorem m_call (i : Nat) (oi : Oper) (Ψ : Value → World → Prop) (χ : Value → Prop) (v0 : Value) (h0 : χ v0) {n : Nat} {listed : Array Bool} {γ : Nat → Option (Nat × Obj)} {Φ : World → Prop} {a : Act} (hΨ : ∀ v, Steady (Ψ v)) (hi : ops[i]? = some oi) (hob : ob i = none) (hs : Region.noSelect ops = true)
    (hre : aloneB md ops ob listed i = true) (hr : (Region.ready md ops listed).contains i = true) (hw : Region.wanted oi (yielded ops a.tmps) = true)
    (hm : ∀ w, Below base.heap.size base w → Φ w → MemCall P oi a w Ψ χ)
    (H : ∀ v, χ v → mAny P md ops base ob Q n (listed.setIfInBounds i true) γ (fun w => Φ w ∧ Ψ v w) (a.put oi.dst v)) : mAny P md ops base ob Q (n + 1) listed γ Φ a :=
  mAny_call Ψ χ v0 h0 hΨ hi hob (Region.noSelect_spec hs) n listed γ Φ a (alone_of hi hre) (by simpa using hr) hw hm H
theorem wp_region_grow_m {id : Nat} {a : Act} {w : World} (hm : P.follows .mixedOrders = true) (h : mAny P .any ops w ob Q ops.size (Array.replicate ops.size false) (fun _ => none) (fun _ => True) a) : (Code.region id ops true).wp P Q a w :=
  wp_region_any hm (wpAny_of_mAny _ _ _ _ a w.drew ⟨fun _ _ _ _ => trivial, fun _ _ _ _ _ _ _ _ _ => trivial⟩ ⟨(Below.refl _ w).drew, fun i g hg => by simp at hg, fun i j g h _ hg => by simp at hg⟩ trivial h)
end
end Go.Proofs.YtkbiiolkekpkiaaDoor

/-
  What is known of the document's points is kept by later worlds, though rows without numbers turn. Conditions: as each theorem says.
-/
namespace Go.Proofs.YtkbiiolkekpkiaaDoor.Ed
open Go.RowKit
set_option linter.unusedVariables false
set_option linter.unusedSimpArgs false

theorem num_turned {w w' : World} {g : Nat} {old obj : Obj} {v : Value} {N : Nat} (h : Num w v N) (hg : w.heap[g]? = some old) (hb : Bare old) (ht : Turned w w' g obj) : Num w' v N := by
  obtain ⟨t, L, rfl, hL⟩ := hb
  have hA : At t w g L := hg
  exact h.oth10 ⟨ht.os, ht.tape, ht.output, by rw [ht.size]; exact Nat.le_refl _, fun k _ hk => ht.other k hk⟩ (off_none hA hL h)
theorem pm_turned {w w' : World} {g : Nat} {old obj : Obj} {v : Value} {P : Pt} (h : Pm w v P) (hg : w.heap[g]? = some old) (hb : Bare old) (ht : Turned w w' g obj) : Pm w' v P := by
  obtain ⟨vx, vy, vz, X, Y, Z, e, h1, h2, h3, h4⟩ := h
  exact ⟨vx, vy, vz, X, Y, Z, e, num_turned h1 hg hb ht, num_turned h2 hg hb ht, num_turned h3 hg hb ht, h4⟩
theorem pm_steady (v : Value) (P : Pt) : Steady (fun w => Pm w v P) := ⟨fun w w' h hb => h.below hb, fun w w' g old obj h h1 h2 h3 => pm_turned h h1 h2 h3⟩
/-- The package's variables, all of them. -/
structure Env (W : World) : Prop where
  d : Gd W
  t : GtwiceD W
  u : GbaseX W
  v : GbaseY W
  z : Gl W
theorem Env.grown {W W' : World} (h : Env W) (hb : Below W.heap.size W W') : Env W' := ⟨h.d.grown hb, h.t.grown hb, h.u.grown hb, h.v.grown hb, h.z.grown hb⟩
theorem Env.lt {W : World} (h : Env W) : 0 < W.heap.size := Nat.lt_of_le_of_lt (Nat.zero_le _) h.z.lt
/-- Cells without numbers. -/
structure Nl (L : List Value) : Prop where
  no : ∀ v ∈ L, ∀ z, v ≠ .int .i64 z
theorem bare_of (t : TypeId) (L : List Value) (h : Nl L) : Bare (.cells L.toArray t) := ⟨t, L, rfl, h.no⟩
theorem P4.nl (c : P4) : Nl c.l := ⟨by
  intro v hv z e
  subst e
  simp [P4.l] at hv⟩
theorem nl_points : Nl [.int .u64 0, .int .u64 0, .int .u64 0, .int .u64 0, .int .u64 0, .int .u64 0, .int .u64 0, .int .u64 0, .int .u64 0, .int .u64 0, .int .u64 0, .int .u64 0, .int .u64 0, .int .u64 0, .int .u64 0, .int .u64 0, .int .u64 0, .int .u64 0, .int .u64 0, .int .u64 0] := ⟨by intro v hv z e; subst e; simp at hv⟩
theorem nl_nils : Nl [.slice none 0 0, .slice none 0 0, .slice none 0 0, .bool false] := ⟨by intro v hv z e; subst e; simp at hv⟩
/-- The value is such a row of cells. -/
def Lr (v : Value) : Prop := ∃ M : List Value, v = .agg M.toArray ∧ Rl M ∧ Nl M
theorem lr_nil : Lr (.agg #[.slice none 0 0, .slice none 0 0, .slice none 0 0, .bool false]) := ⟨[.slice none 0 0, .slice none 0 0, .slice none 0 0, .bool false], rfl, rl_of _ _ _ _ _ _ _ _ _ _, nl_nils⟩
theorem lr_pm {w : World} {v : Value} {P : Pt} (h : Pm w v P) : Lr v := by
  obtain ⟨M, e, h1, -, h2⟩ := pm_list h
  exact ⟨M, e, h1, ⟨h2⟩⟩
theorem two_if {α : Type} (p : α → Prop) (a b : Nat) (x y : α) (hx : p x) (hy : p y) : ∀ (i : Nat) (z : α), (if i = a then some x else if i = b then some y else none) = some z → p z := by
  intro i z h
  split at h
  · simp only [Option.some.injEq] at h; rw [← h]; exact hx
  · split at h
    · simp only [Option.some.injEq] at h; rw [← h]; exact hy
    · cases h
theorem two_if_pair {α : Type} (p : α → Prop) (a b c d : Nat) (x y : α) (hx : p x) (hy : p y) : ∀ (i k : Nat) (z : α), (if i = a then some (c, x) else if i = b then some (d, y) else none) = some (k, z) → p z := by
  intro i k z h
  split at h
  · simp only [Option.some.injEq, Prod.mk.injEq] at h; rw [← h.2]; exact hx
  · split at h
    · simp only [Option.some.injEq, Prod.mk.injEq] at h; rw [← h.2]; exact hy
    · cases h
end Go.Proofs.YtkbiiolkekpkiaaDoor.Ed
