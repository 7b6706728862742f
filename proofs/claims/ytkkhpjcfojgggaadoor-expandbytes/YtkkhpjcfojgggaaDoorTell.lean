/-
  A range over a function that tells elements which lie in memory made between two rounds: the contract of such an iterator, and the statement over it, where no round leaves the loop. A drawn region inside a round, out of a walk outside of one. Conditions: as the theorems say.
-/
import Derived.RangeFuncFrom
import Derived.Test.YtkkhpjcfojgggaaDoorRound
import Derived.Test.YtkkhpjcfojgggaaDoorLate
namespace Go.Proofs.YtkkhpjcfojgggaaDoor
open Go.RowKit
set_option linter.unusedVariables false

section
variable {F : Fence} {n : Nat} {P : Program}

/-- The iterator tells elements x of which T holds (behind those that came) in the world in which it tells them; a round keeps Kp; behind the last one S holds of all. -/
def Telling {α : Type} (F : Fence) (n : Nat) (P : Program) (g : Nat) (lb : Array Value) (encs : α → Array Value) (T : List α → α → World → Prop) (Kp : World → World → Prop) (S : List α → Prop) (w : World) : Prop :=
  ∀ (l : Nat) (J : List α → World → Prop) (W : World), Below w.heap.size w W → AbidesFrom W.heap.size J →
    (∀ pre x V, J pre V → T pre x V → YieldAt F (n - 1) P l (encs x) V fun e V' => e = .returned (.bool true) ∧ J (pre ++ [x]) V' ∧ Kp V V') →
    J [] W → CallsIn F n P g (#[.func (.yield l) #[] #[]] ++ lb) W fun e V => (∃ v, e = .returned v) ∧ ∃ xs, S xs ∧ J xs V

/-- A round ends off its body's end. -/
def roundGoes {α : Type} (Kp : World → World → Prop) (I : List α → World → Prop) (xs : List α) (W : World) : Exit → Act → World → Prop
  | .normal, _, V => KeepsOthers W V ∧ Kp W V ∧ I xs V
  | _, _, _ => False

theorem wpIn_telling {α : Type} {g : Operand} {ps : Array Tmp} {assign body : Code} {Q : Exit → Act → World → Prop} {a : Act} {w : World} (hro : F.round = none) (h1 : 1 ≤ n)
    {gf : Nat} {lb : Array Value} (hg : a.eval g = .func (.func gf) #[] lb) (hF : F.fn gf) (hin : ∀ args w, (callFunc gf args).run P w = .ok (.enter gf args) w)
    {encs : α → Array Value} {T : List α → α → World → Prop} {Kp : World → World → Prop} {S : List α → Prop} (hseq : Telling F (n - 1) P gf lb encs T Kp S w) (hps : ∀ x, (encs x).size = ps.size)
    (hT : ∀ pre x (W : World) (l : Nat) (o o' : Obj), w.heap.size ≤ l → W.heap[l]? = some o → o.isCells = false → T pre x W → T pre x (W.putObj l o'))
    (hKt : ∀ {A B C : World}, Kp A B → Kp B C → Kp A C) (hKp : ∀ (W : World) (l : Nat) (o o' : Obj), w.heap.size ≤ l → W.heap[l]? = some o → o.isCells = false → Kp W (W.putObj l o'))
    (I : List α → World → Prop) (hI : OwnFrom w.heap.size I) (h0 : I [] w) (a₁ : α → Act)
    (hassign : ∀ (l : Nat) (x : α) (W : World) (K : Act → World → Prop), K (a₁ x) W →
      assign.wpIn (F.inRound l) (n - 1 - 1) P (Exit.then K (fun _ _ _ => False)) { tmps := (ps.zip (encs x)).foldl (fun t (p, v) => t.setIfInBounds p v) a.tmps, defers := [] } W)
    (hbody : ∀ (l : Nat) (pre : List α) (x : α) (W : World), I pre W → T pre x W → body.wpIn (F.inRound l) (n - 1 - 1) P (roundGoes Kp I (pre ++ [x]) W) (a₁ x) W)
    (hdone : ∀ (D : Nat) (xs : List α) (W : World), w.heap.size ≤ D → S xs → I xs W → W.heap[D]? = some (.deferred (some [])) → Q .normal { a with defers := { target := .collected D, args := #[] } :: a.defers } W) :
    (Code.rangeFunc g ps assign body).wpIn F n P Q a w := by
  refine wpIn_rangeFunc (fun fn hfn => ?_)
  rw [hro]
  -- the loop's record by its state; where it lies, and where the rounds' deferred calls lie
  let R : LoopState → Obj := fun s => .loop { state := s, pending := none, fn, tmps := a.tmps, params := ps, assign, body, defers := w.heap.size }
  let D : Obj := .deferred (some [])
  let W1 : World := (w.alloc D).alloc (R .ready)
  have hD1 : W1.heap[w.heap.size]? = some D := (Below.heap_alloc (w.alloc D) (R .ready) _ (by simp)).trans (World.alloc_heap_new w D)
  have hR1 : W1.heap[w.heap.size + 1]? = some (R .ready) := by
    have h := World.alloc_heap_new (w.alloc D) (R .ready)
    rwa [World.size_alloc] at h
  have hz : w.heap.size < W1.heap.size := (Array.getElem?_eq_some_iff.1 hD1).1
  have hW1 : Below w.heap.size w W1 := ((Below.refl _ w).alloc (Nat.le_refl _) _).alloc (by simp) _
  -- what is carried from round to round
  let J : List α → World → Prop := fun pre V => I pre V ∧ V.heap[w.heap.size + 1]? = some (R .ready) ∧ V.heap[w.heap.size]? = some D
  have hJ : AbidesFrom W1.heap.size J := by
    intro pre V V' row hj hgr hr
    have hc : ∀ r, row = some r → ∃ o : Obj, V.heap[r]? = some o ∧ o.isCells = false := fun r e => by
      obtain ⟨_, o, ho, hw⟩ := hr r e
      exact ⟨o, ho, Obj.not_cells_of_walk hw⟩
    have keep : ∀ (k : Nat) (o : Obj), V.heap[k]? = some o → o.isWalk = false → V'.heap[k]? = some o := fun k o hk hw =>
      (grownBy_keeps hgr (fun r e => (hr r e).2) hk hw).trans hk
    refine ⟨hI pre V V' row hj.1 hgr (fun r e => ⟨?_, hc r e⟩), keep _ _ hj.2.1 rfl, keep _ _ hj.2.2 rfl⟩
    have := (hr r e).1
    omega
  refine ⟨w.heap.size + 1, [{ target := .collected w.heap.size, args := #[] }], W1, { target := .fn (.func gf) lb, args := #[.func (.yield (w.heap.size + 1)) #[] #[]] }, W1, gf,
    #[.func (.yield (w.heap.size + 1)) #[] #[]] ++ lb, W1, run_enterLoop_outer _ _ _ _ _, ?_, ?_, ?_, fun _ => h1, ?_⟩
  · simp only [resolve, hg]
    simp [go_sem]
  · intro f' h'
    simp [Target.leads] at h'
    exact h' ▸ hF
  · simp [invoke, go_sem, hin]
  refine (hseq (w.heap.size + 1) J W1 hW1 hJ ?_ ⟨hI.alloc _ (hI.alloc _ h0), hR1, hD1⟩).mono ?_
  · -- one round
    intro pre x V hj ht
    obtain ⟨hi, hr, hd⟩ := hj
    have hlt : w.heap.size + 1 < V.heap.size := (Array.getElem?_eq_some_iff.1 hr).1
    refine ⟨fn, _, assign, body, run_yield hr (hps x), roundIn_of_wpIn hfn (hassign _ x V _ ⟨V.putObj (w.heap.size + 1) (R .busy), run_beginRound hr rfl, ?_⟩)⟩
    have hr2 : (V.putObj (w.heap.size + 1) (R .busy)).heap[w.heap.size + 1]? = some (R .busy) := World.putObj_heap_same hlt
    have hd2 : (V.putObj (w.heap.size + 1) (R .busy)).heap[w.heap.size]? = some D := (World.putObj_heap_other (by omega)).trans hd
    refine wpIn_mono (hbody _ pre x _ (hI.putObj _ hi (by omega) hr rfl) (hT _ _ _ _ _ _ (by omega) hr rfl ht)) ?_
    intro e a3 V3 hp
    cases e with
    | normal =>
      obtain ⟨hko, hkp, hi3⟩ := hp
      have hr3 := hko.same _ _ hr2 rfl
      have hd3 := hko.same _ _ hd2 rfl
      have hl3 : w.heap.size + 1 < V3.heap.size := (Array.getElem?_eq_some_iff.1 hr3).1
      refine ⟨_, _, run_endRound none hr3, rfl, ⟨hI.putObj _ hi3 (by omega) hr3 rfl, World.putObj_heap_same hl3, (World.putObj_heap_other (by omega)).trans hd3⟩, ?_⟩
      exact hKt (hKt (hKp _ _ _ _ (by omega) hr rfl) hkp) (hKp _ _ _ _ (by omega) hr3 rfl)
    | ret => exact hp.elim
    | exit id => exact hp.elim
    | goto t => exact hp.elim
    | panic ch => exact hp.elim
    | outgrown => exact hp.elim
  · -- behind the iterator
    intro e V hv
    obtain ⟨⟨v, rfl⟩, xs, hs, hi, hr, hd⟩ := hv
    exact ⟨none, _, run_endLoop hr (by simp), hdone _ xs _ (Nat.le_refl _) hs (hI.putObj _ hi (by omega) hr rfl) ((World.putObj_heap_other (by omega)).trans hd)⟩
end

/-- What an operation asks outside of a fence it asks inside the widest one. -/
theorem rowsIn_wide {n : Nat} {P : Program} {row : String} {args : Array Value} {w : World} {R : Value → World → Prop} (h : Rows P row args w R) : RowsIn Fence.wide n P row args w R := fun c cs _ =>
  let ⟨v, w', r, s⟩ := h c cs
  ⟨v, w', r, stepsIn_wide.2 s⟩
theorem operIn_of_oper {n : Nat} {P : Program} {o : Oper} {Q : Exit → Act → World → Prop} {K : Act → World → Prop} {a : Act} {w : World} (h : Oper.wp P o a w K Q) : Oper.wpIn Fence.wide n P o a w K Q := by
  unfold Oper.wp at h
  unfold Oper.wpIn
  refine ⟨fun _ _ => trivial, ?_⟩
  have e : (o.semAt Fence.wide.round a.eval).run P w = (execOp a.eval o).run P w := by
    unfold Oper.semAt Fence.wide
    rfl
  rw [e]
  generalize (execOp a.eval o).run P w = r at h
  cases r with
  | ok x w' =>
    cases x with
    | value v => exact h
    | skip => exact h
    | defer d => exact h
    | enter f args => exact ⟨fun q => (by cases q), callsIn_wide.2 h⟩
    | row r args => exact ⟨fun q => (by cases q), rowsIn_wide h⟩
    | _ => exact h.elim
  | halt x w' => cases x <;> exact h
theorem wpOpIn_of_wpOp {n : Nat} {P : Program} {ops : Array Oper} {Q : Exit → Act → World → Prop} {i : Nat} {K : Act → World → Prop} {a : Act} {w : World} (hnl : ¬ LetsOut Q)
    (h : wpOp P ops Q i K a w) : wpOpIn Fence.wide n P ops Q i K a w := by
  unfold wpOp at h
  unfold wpOpIn
  cases hi : ops[i]? with
  | none => simp only [hi] at h ⊢; exact h
  | some o =>
    simp only [hi] at h ⊢
    by_cases hw : Region.wanted o (yielded ops a.tmps) = true
    · rw [if_pos hw] at h ⊢
      exact operIn_of_oper (h.resolve_right (fun q => hnl q.2))
    · rw [if_neg hw] at h ⊢
      exact ⟨fun _ _ => trivial, h⟩
theorem wpAnyIn_of_wpAny {n : Nat} {P : Program} {md : Region.Mode} {ops : Array Oper} {Q : Exit → Act → World → Prop} (hnl : ¬ LetsOut Q) :
    ∀ (fuel : Nat) (listed : Array Bool) (a : Act) (w : World), wpAny P md ops Q fuel listed a w → wpAnyIn Fence.wide n P md ops Q fuel listed a w
  | 0, _, _, _, h => h
  | fuel + 1, listed, a, w, h => ⟨h.1, fun i hi => wpOpIn_mono (fun a w k => wpAnyIn_of_wpAny hnl fuel _ a w k) (wpOpIn_of_wpOp hnl (h.2 i hi))⟩
/-- A drawn region in a round, walked as outside of one. -/
theorem wpIn_region_late {n : Nat} {P : Program} {id l L : Nat} {ops : Array Oper} {S : World → Prop} {Q : Exit → Act → World → Prop} {a : Act} {w : World} (hm : P.follows .mixedOrders = true) (hnd : ∀ (i : Nat) (o : Oper), ops[i]? = some o → ∀ c : Call, o.op ≠ .defer c)
    (hnl : ¬ LetsOut (noPanic Q)) (hS : S w.drew) (h : S w.drew → wpLate P .any ops (noPanic Q) S L ops.size (Array.replicate ops.size false) a w.drew) : (Code.region id ops true).wpIn (Fence.wide.inRound l) n P Q a w :=
  wpIn_region_round hm hnd (wpAnyIn_of_wpAny hnl _ _ _ _ (late_any _ _ _ _ (h hS)))
end Go.Proofs.YtkkhpjcfojgggaaDoor
