/-
  A range over a function, where no round leaves the loop: the law where a round need keep nothing but what the iterator names and the loop's own record; an iterator's contract that may be used inside another iterator. Conditions: as the theorems say.
-/
import Derived.RangeFuncLeaves
import Derived.RangeFuncCalls
import Derived.TacticsInMore
import Derived.LoopNIn
import Derived.LoopIn
import Derived.OwnWalkIn
import Derived.RangeFuncNested
import Derived.Test.YtedhfimjcpbcpaaDoorKboe
import Derived.Test.YtedhfimjcpbcpaaDoorKboa
namespace Go.Proofs.YtedhfimjcpbcpaaDoor
open Go.RowKit
set_option linter.unusedVariables false

section
variable {P : Program}

theorem room_any (k : Nat) : Fence.wide.room k := fun d h => by simp [Fence.wide] at h
theorem round_any {n m : Nat} {l : Nat} {f : FuncId} {tmps : Array Value} {assign body : Code} {w : World} {R : Ending → World → Prop} (h : RoundIn Fence.wide n P l f tmps assign body w R) : RoundIn Fence.wide m P l f tmps assign body w R :=
  ⟨h.1, fun c cs _ => h.2 c cs (room_any _)⟩
theorem yield_round {n l r : Nat} {args : Array Value} {W : World} {R : Ending → World → Prop} (h : YieldAt Fence.wide n P l args W R) : YieldAt (Fence.wide.inRound r) n P l args W R :=
  let ⟨fn, tmps, assign, body, h1, h2⟩ := h
  ⟨fn, tmps, assign, body, h1, ⟨h2.1, fun c cs hr => h2.2 c cs hr⟩⟩

/-- What holds, holds where one block from B on has turned, and others were made. -/
def OwnUp {β : Type} (B : Nat) (I : β → World → Prop) : Prop :=
  ∀ s W W' row, I s W → W.grownBy W' row → (∀ r, row = some r → B ≤ r) → I s W'
theorem OwnUp.from {β : Type} {B : Nat} {I : β → World → Prop} (h : OwnUp B I) : OwnFrom B I := fun s W W' row hs hg hr => h s W W' row hs hg (fun r e => (hr r e).1)
theorem OwnUp.up {β : Type} {B : Nat} {I : β → World → Prop} (h : OwnUp B I) {s : β} {W W' : World} (hs : I s W) (hb : Below W.heap.size W W') : I s W' :=
  h s W W' none hs ⟨hb.os, hb.tape, hb.output, hb.size, fun k hk _ => hb.block k hk⟩ (fun r e => by cases e)
theorem OwnUp.set {β : Type} {B : Nat} {I : β → World → Prop} (h : OwnUp B I) {s : β} {W : World} (hs : I s W) (b : Nat) (hb : B ≤ b) (v : Value) : I s (W.setCell ⟨b, 0, none⟩ v) :=
  h s W _ (some b) hs (grownBy_setCell' W b v) (fun r e => by cases e; exact hb)

/-- The iterator tells elements x of which T holds behind those that came; a round keeps Kp; behind the last one S holds of all. -/
def Telling2 {α : Type} (P : Program) (g : Nat) (lb : Array Value) (encs : α → Array Value) (T : List α → α → Prop) (Kp : World → World → Prop) (S : List α → Prop) (w : World) : Prop :=
  ∀ (n l : Nat) (J : List α → World → Prop) (W : World), Below w.heap.size w W → w.heap.size + 2 ≤ W.heap.size → OwnUp W.heap.size J →
    (∀ (m : Nat) pre x V, J pre V → T pre x → YieldAt Fence.wide m P l (encs x) V fun e V' => e = .returned (.bool true) ∧ J (pre ++ [x]) V' ∧ Kp V V') →
    J [] W → CallsIn Fence.wide n P g (#[.func (.yield l) #[] #[]] ++ lb) W fun e V => (∃ v, e = .returned v) ∧ ∃ xs, S xs ∧ J xs V

/-- A round ends off its body's end, and the loop's record lies as it lay. -/
def roundGoes2 {α : Type} (B : Nat) (Kp : World → World → Prop) (I : List α → World → Prop) (xs : List α) (W : World) : Exit → Act → World → Prop
  | .normal, _, V => (V.heap[B]? = W.heap[B]? ∧ V.heap[B + 1]? = W.heap[B + 1]?) ∧ Kp W V ∧ I xs V
  | _, _, _ => False

theorem wpIn_telling2 {α : Type} {n : Nat} {g : Operand} {ps : Array Tmp} {assign body : Code} {Q : Exit → Act → World → Prop} {a : Act} {w : World}
    {gf : Nat} {lb : Array Value} (hg : a.eval g = .func (.func gf) #[] lb) (hin : ∀ args w, (callFunc gf args).run P w = .ok (.enter gf args) w)
    {encs : α → Array Value} {T : List α → α → Prop} {Kp : World → World → Prop} {S : List α → Prop} (hseq : Telling2 P gf lb encs T Kp S w) (hps : ∀ x, (encs x).size = ps.size)
    (hKt : ∀ {A B C : World}, Kp A B → Kp B C → Kp A C) (hKp : ∀ (W : World) (o' : Obj), Kp W (W.putObj (w.heap.size + 1) o'))
    (I : List α → World → Prop) (hI : OwnUp w.heap.size I) (h0 : I [] w) (a₁ : α → Act)
    (hassign : ∀ (n l : Nat) (x : α) (W : World) (K : Act → World → Prop), K (a₁ x) W →
      assign.wpIn (Fence.wide.inRound l) n P (Exit.then K (fun _ _ _ => False)) { tmps := (ps.zip (encs x)).foldl (fun t (p, v) => t.setIfInBounds p v) a.tmps, defers := [] } W)
    (hbody : ∀ (n : Nat) (pre : List α) (x : α) (W : World), w.heap.size + 2 ≤ W.heap.size → I pre W → T pre x → body.wpIn (Fence.wide.inRound (w.heap.size + 1)) n P (roundGoes2 w.heap.size Kp I (pre ++ [x]) W) (a₁ x) W)
    (hdone : ∀ (xs : List α) (W : World), S xs → I xs W → W.heap[w.heap.size]? = some (.deferred (some [])) → Q .normal { a with defers := { target := .collected w.heap.size, args := #[] } :: a.defers } W) :
    (Code.rangeFunc g ps assign body).wpIn Fence.wide n P Q a w := by
  refine wpIn_rangeFunc (fun fn hfn => ?_)
  show ∃ _, _
  let R : LoopState → Obj := fun s => .loop { state := s, pending := none, fn, tmps := a.tmps, params := ps, assign, body, defers := w.heap.size }
  let D : Obj := .deferred (some [])
  let W1 : World := (w.alloc D).alloc (R .ready)
  have hD1 : W1.heap[w.heap.size]? = some D := (Below.heap_alloc (w.alloc D) (R .ready) _ (by simp)).trans (World.alloc_heap_new w D)
  have hR1 : W1.heap[w.heap.size + 1]? = some (R .ready) := by
    have h := World.alloc_heap_new (w.alloc D) (R .ready)
    rwa [World.size_alloc] at h
  have hz : w.heap.size + 2 ≤ W1.heap.size := by
    have := (Array.getElem?_eq_some_iff.1 hR1).1
    omega
  have hW1 : Below w.heap.size w W1 := ((Below.refl _ w).alloc (Nat.le_refl _) _).alloc (by simp) _
  let J : List α → World → Prop := fun pre V => I pre V ∧ V.heap[w.heap.size + 1]? = some (R .ready) ∧ V.heap[w.heap.size]? = some D
  have hJ : OwnUp W1.heap.size J := by
    intro pre V V' row hj hgr hr
    have keep : ∀ (k : Nat) (o : Obj), k < w.heap.size + 2 → V.heap[k]? = some o → V'.heap[k]? = some o := fun k o hk hv =>
      (hgr.block k (Array.getElem?_eq_some_iff.1 hv).1 (fun e => by have := hr k e.symm; omega)).trans hv
    refine ⟨hI pre V V' row hj.1 hgr (fun r e => ?_), keep _ _ (by omega) hj.2.1, keep _ _ (by omega) hj.2.2⟩
    have := hr r e
    omega
  refine ⟨w.heap.size + 1, [{ target := .collected w.heap.size, args := #[] }], W1, { target := .fn (.func gf) lb, args := #[.func (.yield (w.heap.size + 1)) #[] #[]] }, W1, gf,
    #[.func (.yield (w.heap.size + 1)) #[] #[]] ++ lb, W1, run_enterLoop_outer _ _ _ _ _, ?_, ?_, ?_, fun h => by simp [Fence.wide] at h, ?_⟩
  · simp only [resolve, hg]
    simp [go_sem]
  · intro f' h'
    trivial
  · simp [invoke, go_sem, hin]
  refine (hseq _ (w.heap.size + 1) J W1 hW1 hz hJ ?_ ⟨hI.from.alloc _ (hI.from.alloc _ h0), hR1, hD1⟩).mono ?_
  · intro m pre x V hj ht
    obtain ⟨hi, hr, hd⟩ := hj
    have hlt : w.heap.size + 1 < V.heap.size := (Array.getElem?_eq_some_iff.1 hr).1
    refine ⟨fn, _, assign, body, run_yield hr (hps x), round_any (roundIn_of_wpIn hfn (hassign (n - 1 - 1) _ x V _ ⟨V.putObj (w.heap.size + 1) (R .busy), run_beginRound hr rfl, ?_⟩))⟩
    have hr2 : (V.putObj (w.heap.size + 1) (R .busy)).heap[w.heap.size + 1]? = some (R .busy) := World.putObj_heap_same hlt
    have hd2 : (V.putObj (w.heap.size + 1) (R .busy)).heap[w.heap.size]? = some D := (World.putObj_heap_other (by omega)).trans hd
    refine wpIn_mono (hbody _ pre x _ (by have := (Array.getElem?_eq_some_iff.1 hr2).1; omega) (hI.from.putObj _ hi (by omega) hr rfl) ht) ?_
    intro e a3 V3 hp
    cases e with
    | normal =>
      obtain ⟨⟨hk1, hk2⟩, hkp, hi3⟩ := hp
      have hr3 := hk2.trans hr2
      have hd3 := hk1.trans hd2
      have hl3 : w.heap.size + 1 < V3.heap.size := (Array.getElem?_eq_some_iff.1 hr3).1
      refine ⟨_, _, run_endRound none hr3, rfl, ⟨hI.from.putObj _ hi3 (by omega) hr3 rfl, World.putObj_heap_same hl3, (World.putObj_heap_other (by omega)).trans hd3⟩, ?_⟩
      exact hKt (hKt (hKp _ _) hkp) (hKp _ _)
    | ret => exact hp.elim
    | exit id => exact hp.elim
    | goto t => exact hp.elim
    | panic ch => exact hp.elim
    | outgrown => exact hp.elim
  · intro e V hv
    obtain ⟨⟨v, rfl⟩, xs, hs, hi, hr, hd⟩ := hv
    exact ⟨none, _, run_endLoop hr (by simp), hdone xs _ hs (hI.from.putObj _ hi (by omega) hr rfl) ((World.putObj_heap_other (by omega)).trans hd)⟩

/-- A function that holds a range over a function, walked outside of fences. -/
theorem calls_marks {f : FuncId} {fn : Func} {c : Code} {args : Array Value} {w : World} {R : Ending → World → Prop} (hf : P.funcs[f]? = some fn) (hb : fn.body = some c)
    (h : c.wp P (bodyPostM Fence.wide 5 P fn R) { tmps := args ++ Array.replicate (fn.ntmps - args.size) undef, defers := [] } w) : Calls P f args w R :=
  (callsIn_wide (n := 5)).1 (callsIn_of_wp_marks hf hb trivial (wpIn_wide.2 h) rfl)
/-- A drawn region in a round, walked by hand. -/
theorem wpIn_region_hand {n id l : Nat} {ops : Array Oper} {S : World → Prop} {Q : Exit → Act → World → Prop} {a : Act} {w : World} (hm : P.follows .mixedOrders = true) (hnd : ∀ (i : Nat) (o : Oper), ops[i]? = some o → ∀ c : Call, o.op ≠ .defer c)
    (hnl : ¬ LetsOut (noPanic Q)) (hS : S w.drew) (h : S w.drew → wpAnyH P .any ops (noPanic Q) S ops.size (Array.replicate ops.size false) a w.drew) : (Code.region id ops true).wpIn (Fence.wide.inRound l) n P Q a w :=
  wpIn_region_round hm hnd (wpAnyIn_of_wpAny hnl _ _ _ _ (wpAny_of_held _ _ _ _ (h hS)))
end

end Go.Proofs.YtedhfimjcpbcpaaDoor

/-
  The contract of the library's slices.Backward at words, where a round may store beside the words: the places and the words, the last first. Conditions: as each theorem says.
-/
namespace Go.Proofs.YtedhfimjcpbcpaaDoor
open Go.RowKit Go.Shelf
set_option linter.unusedVariables false
attribute [local go_sem] Oper.semAt_some

/-- What comes behind those that came: the next place, and its word. -/
def NextB (zs : List Nat) (pre : List (Nat × Nat)) (x : Nat × Nat) : Prop := pre.length < zs.length ∧ x = (zs.length - 1 - pre.length, zs.getD (zs.length - 1 - pre.length) 0) ∧ pre = pairsB zs pre.length

set_option maxRecDepth 100000 in
set_option maxHeartbeats 2000000 in
theorem back1_keep (n l Bs cap b0 o0 : Nat) (zs : List Nat) (hw : Ww zs) (hl : zs.length ≤ 1000000) (J : List (Nat × Nat) → World → Prop) (Kp : World → World → Prop)
    (hKr : ∀ W, Kp W W) (hKt : ∀ {A B C : World}, Kp A B → Kp B C → Kp A C)
    (W : World) (hKc : ∀ W', Kp W W' → ∀ (p : Addr) v, (p.block = Bs ∨ p.block = b0) → W.cell? p = some v → W'.cell? p = some v)
    (hY : ∀ (m : Nat) pre x V, J pre V → NextB zs pre x → YieldAt Fence.wide m Tryd.prog l #[.int .i64 (x.1 : Int), .int .u64 (x.2 : Int)] V fun e V' => e = .returned (.bool true) ∧ J (pre ++ [x]) V' ∧ Kp V V')
    (hBs : W.cell? ⟨Bs, 0, none⟩ = some (.slice (some ⟨b0, o0, none⟩) zs.length cap)) (hc : ∀ j, j < zs.length → W.cell? ⟨b0, o0 + j, none⟩ = some (.int .u64 (zs.getD j 0 : Int))) (h0 : J [] W) :
    CallsIn Fence.wide n Tryd.prog 111 #[.func (.yield l) #[] #[], .pointer (some ⟨Bs, 0, none⟩)] W fun e W' => (∃ v, e = .returned v) ∧
      ∃ ys, ys = pairsB zs zs.length ∧ J ys W' := by
  have hl' : (zs.length : Int) ≤ 1000000 := by omega
  have Hc : Hid (∀ j, j < zs.length → W.cell? ⟨b0, o0 + j, none⟩ = some (.int .u64 (zs.getD j 0 : Int))) := hc
  have Hw : Hid (Ww zs) := hw
  clear hc hw
  refine callsIn_of_wp Tryd.func111 rfl trivial ?_ rfl
  simp only [Tryd.ntmps111, List.size_toArray, List.length_cons, List.length_nil, Nat.reduceAdd, Nat.reduceSub, Array.replicate_succ, Array.replicate_zero, List.push_toArray, List.append_toArray, List.nil_append, List.cons_append]
  gi_wp2
  gi_loopw [3] (fun i wr => ∃ (k : Nat), k ≤ zs.length ∧ i = .int .i64 ((zs.length : Int) - 1 - (k : Int)) ∧ J (pairsB zs k) wr ∧ Kp W wr)
    (fun i _ => (intOf i + 1).toNat)
  case atStart => exact ⟨0, Nat.zero_le _, by go_num, h0, hKr _⟩
  case round =>
    obtain ⟨k, hk, rfl, hJs, hnx⟩ := hrel
    have hbx : wr.cell? ⟨Bs, 0, none⟩ = some (.slice (some ⟨b0, o0, none⟩) zs.length cap) := hKc _ hnx _ _ (Or.inl rfl) hBs
    by_cases hlt : k < zs.length
    · obtain ⟨i, hi⟩ : ∃ i : Nat, (zs.length : Int) - 1 - (k : Int) = (i : Int) := ⟨zs.length - 1 - k, by omega⟩
      have hi2 : Hid (zs.length - 1 - k = i) := by unfold Hid; omega
      have hin : i < zs.length := by omega
      have hcell := Hc.out i hin
      obtain ⟨z, hz⟩ : ∃ z, Hid (zs.getD i 0 = z) := ⟨_, rfl⟩
      rw [hz.out] at hcell
      have hcx : wr.cell? ⟨b0, o0 + i, none⟩ = some (.int .u64 (z : Int)) := hKc _ hnx _ _ (Or.inr rfl) hcell
      obtain ⟨fn, tmps, assign, body, hy, hR⟩ := hY (n - 1) (pairsB zs k) (i, z) wr hJs ⟨by rw [pairsB_length]; exact hlt, by rw [pairsB_length, hi2.out, hz.out], by rw [pairsB_length]⟩
      dsimp only at hy
      have hil : (i : Int) < zs.length := by omega
      have hi0 : (0 : Int) ≤ (i : Int) := by omega
      have hys2 : Hid (pairsB zs k ++ [(i, z)] = pairsB zs (k + 1)) := by
        unfold Hid
        rw [pairsB_succ, hi2.out, hz.out]
      have Hi : Hid ((zs.length : Int) - 1 - (k : Int) = (i : Int)) := hi
      have Hnx : Hid (Kp W wr) := hnx
      rw [hi]
      clear hcell hnx hJs hi
      gi_wp2
      refine ⟨fun h => by simp [Fence.wide] at h, hR.mono ?_⟩
      rintro e W3 ⟨rfl, hJ3, hk3⟩
      gi_wp2
      go_roundw
      case rel => exact ⟨k + 1, by omega, by have := Hi.out; go_num, by rw [← hys2.out]; exact hJ3, hKt Hnx.out hk3⟩
      case measure => simp [intOf]
    · obtain rfl : k = zs.length := by omega
      have hm1 : (zs.length : Int) - 1 - (zs.length : Int) = -1 := by omega
      rw [hm1]
      gi_wp2
      go_end0
      exact ⟨⟨_, rfl⟩, _, rfl, hJs⟩

end Go.Proofs.YtedhfimjcpbcpaaDoor

/-
  A number's digits of four bits, the highest first, as plain lists of numbers. Conditions: as the theorems say.
-/
namespace Go.Proofs.YtedhfimjcpbcpaaDoor.Ed
set_option linter.unusedVariables false

/-- What pairs of digits stand for: the first ones, the second ones. -/
def va (ys : List (Nat × Nat)) : Nat := ys.foldl (fun v d => 16 * v + d.1) 0
def vb (ys : List (Nat × Nat)) : Nat := ys.foldl (fun v d => 16 * v + d.2) 0
theorem va_more (ys : List (Nat × Nat)) (d : Nat × Nat) : va (ys ++ [d]) = 16 * va ys + d.1 := by simp [va]
theorem vb_more (ys : List (Nat × Nat)) (d : Nat × Nat) : vb (ys ++ [d]) = 16 * vb ys + d.2 := by simp [vb]
theorem hex_step (a m : Nat) : a / 16 ^ m = 16 * (a / 16 ^ (m + 1)) + a / 16 ^ m % 16 := by
  rw [Nat.pow_succ, ← Nat.div_div_eq_div_mul]
  omega
theorem hex_digit (a ix e : Nat) (he : e < 16) : a / 2 ^ (64 * ix) % 2 ^ 64 / 2 ^ (4 * e) % 16 = a / 16 ^ (16 * ix + e) % 16 := by
  have h1 : (2 : Nat) ^ 64 = 2 ^ (4 * e) * 2 ^ (64 - 4 * e) := by rw [← Nat.pow_add]; congr 1; omega
  have h2 : (16 : Nat) ∣ 2 ^ (64 - 4 * e) := by
    refine ⟨2 ^ (60 - 4 * e), ?_⟩
    rw [show (16 : Nat) = 2 ^ 4 by decide, ← Nat.pow_add]
    congr 1
    omega
  rw [h1, Nat.mod_mul_right_div_self, Nat.mod_mod_of_dvd _ h2, Nat.div_div_eq_div_mul, ← Nat.pow_add, show (16 : Nat) ^ (16 * ix + e) = 2 ^ (64 * ix + 4 * e) by rw [show (16 : Nat) = 2 ^ 4 by decide, ← Nat.pow_mul]; congr 1; omega]
/-- The first n of 64 digits of both numbers, the highest first; without the noughts ahead of both. -/
def dgs (a b n : Nat) : List (Nat × Nat) := (List.range n).map fun i => (a / 16 ^ (63 - i) % 16, b / 16 ^ (63 - i) % 16)
def zz (d : Nat × Nat) : Bool := d.1 == 0 && d.2 == 0
def tk (a b n : Nat) : List (Nat × Nat) := (dgs a b n).dropWhile zz
theorem tk_zero (a b : Nat) : tk a b 0 = [] := rfl
theorem dgs_next (a b n : Nat) : dgs a b (n + 1) = dgs a b n ++ [(a / 16 ^ (63 - n) % 16, b / 16 ^ (63 - n) % 16)] := by simp [dgs, List.range_succ]
theorem tk_next (a b n : Nat) : tk a b (n + 1) = if tk a b n = [] then [(a / 16 ^ (63 - n) % 16, b / 16 ^ (63 - n) % 16)].dropWhile zz else tk a b n ++ [(a / 16 ^ (63 - n) % 16, b / 16 ^ (63 - n) % 16)] := by
  unfold tk
  rw [dgs_next, List.dropWhile_append]
  simp only [List.isEmpty_iff]
theorem digit_at (a k t : Nat) (hk : k < 4) (ht : t < 16) : a / 2 ^ (64 * (3 - k)) % 2 ^ 64 / 2 ^ (60 - 4 * t) % 16 = a / 16 ^ (63 - (16 * k + t)) % 16 := by
  rw [show 60 - 4 * t = 4 * (15 - t) by omega, hex_digit a (3 - k) (15 - t) (by omega), show 16 * (3 - k) + (15 - t) = 63 - (16 * k + t) by omega]
theorem va_drop : ∀ L : List (Nat × Nat), va (L.dropWhile zz) = va L ∧ vb (L.dropWhile zz) = vb L
  | [] => ⟨rfl, rfl⟩
  | d :: L => by
    rw [List.dropWhile_cons]
    split
    · rename_i h
      simp only [zz, Bool.and_eq_true, beq_iff_eq] at h
      obtain ⟨h1, h2⟩ := va_drop L
      rw [h1, h2]
      simp [va, vb, h.1, h.2]
    · exact ⟨rfl, rfl⟩
theorem va_dgs (a b : Nat) (ha : a < 16 ^ 64) (hb : b < 16 ^ 64) : ∀ n, n ≤ 64 → va (dgs a b n) = a / 16 ^ (64 - n) ∧ vb (dgs a b n) = b / 16 ^ (64 - n)
  | 0, _ => by rw [Nat.sub_zero, Nat.div_eq_of_lt ha, Nat.div_eq_of_lt hb]; exact ⟨rfl, rfl⟩
  | n + 1, h => by
    obtain ⟨h1, h2⟩ := va_dgs a b ha hb n (by omega)
    rw [dgs_next, va_more, vb_more, h1, h2, show 64 - n = 63 - n + 1 by omega, show 64 - (n + 1) = 63 - n by omega]
    exact ⟨(hex_step _ _).symm, (hex_step _ _).symm⟩
theorem va_tk (a b : Nat) (ha : a < 16 ^ 64) (hb : b < 16 ^ 64) : va (tk a b 64) = a ∧ vb (tk a b 64) = b := by
  obtain ⟨h1, h2⟩ := va_drop (dgs a b 64)
  obtain ⟨h3, h4⟩ := va_dgs a b ha hb 64 (Nat.le_refl _)
  unfold tk
  rw [h1, h2, h3, h4, Nat.sub_self, Nat.pow_zero, Nat.div_one, Nat.div_one]
  exact ⟨rfl, rfl⟩
theorem or_none (x y : Nat) (hx : x < 16) (hy : y < 16) : x ||| y = 0 ↔ x = 0 ∧ y = 0 := by
  constructor
  · intro h
    have h1 := Nat.left_le_or (n := x) (m := y)
    have h2 := Nat.right_le_or (n := x) (m := y)
    omega
  · rintro ⟨rfl, rfl⟩; rfl
end Go.Proofs.YtedhfimjcpbcpaaDoor.Ed

/-
  The contracts of combo's fours and of what it returns: the digits of four bits of two numbers, the highest first. Conditions: as each theorem says.
-/
namespace Go.Proofs.YtedhfimjcpbcpaaDoor.Ed
open Go.RowKit Go.Shelf
set_option linter.unusedVariables false
set_option linter.unusedSimpArgs false
attribute [local go_sem] Oper.semAt_some

/-- Words as a variable's cells. -/
def wv (zs : List Nat) : List Value := zs.map fun (z : Nat) => Value.int .u64 (z : Int)
theorem wv_get (zs : List Nat) (i : Nat) (h : i < zs.length) : (wv zs)[i]? = some (.int .u64 (zs.getD i 0 : Int)) := by
  simp [wv, List.getElem?_map, List.getElem?_eq_getElem h, List.getD_eq_getElem?_getD]

/-- A round keeps whatever lies behind block s, but the loop's record r. -/
def KpS (s r : Nat) (W W' : World) : Prop := Below s W W' ∧ ∀ (j : Nat) (o : Obj), s < j → j ≠ r → W.heap[j]? = some o → W'.heap[j]? = some o
theorem KpS.trans {s r : Nat} {A B C : World} (h : KpS s r A B) (k : KpS s r B C) : KpS s r A C := ⟨h.1.trans k.1, fun j o h1 h2 h3 => k.2 j o h1 h2 (h.2 j o h1 h2 h3)⟩
theorem KpS.put {s r : Nat} (h : s < r) (W : World) (o' : Obj) : KpS s r W (W.putObj r o') :=
  ⟨⟨rfl, rfl, rfl, by simp, fun j hj => World.putObj_heap_other (by omega)⟩, fun j o h1 h2 h3 => (World.putObj_heap_other h2).trans h3⟩

set_option maxHeartbeats 1000000 in
theorem fours_in (n : Nat) (x0 x1 x2 x3 y0 y1 y2 y3 : Int) (w : World) :
    CallsIn Fence.wide n Tryd.prog 52 #[.agg #[.int .u64 x0, .int .u64 x1, .int .u64 x2, .int .u64 x3], .agg #[.int .u64 y0, .int .u64 y1, .int .u64 y2, .int .u64 y3]] w fun e w' => e = .returned (.func (.func 92) #[] #[.pointer (some ⟨w.heap.size, 0, none⟩), .pointer (some ⟨w.heap.size + 1, 0, none⟩)]) ∧ w' = (w.alloc (.cells #[.int .u64 x0, .int .u64 x1, .int .u64 x2, .int .u64 x3] 25)).alloc (.cells #[.int .u64 y0, .int .u64 y1, .int .u64 y2, .int .u64 y3] 25) := by
  refine callsIn_of_wp Tryd.func52 rfl trivial ?_ rfl
  simp only [Tryd.ntmps52, List.size_toArray, List.length_cons, List.length_nil, Nat.reduceAdd, Nat.reduceSub, Array.replicate_succ, Array.replicate_zero, List.push_toArray, List.append_toArray, List.nil_append, List.cons_append]
  gi_wp2
  go_ret
  exact ⟨rfl, rfl⟩

/-- What the inner loop has when t places of word k are over. -/
structure In (J : List (Nat × Nat) → World → Prop) (V : World) (q p s r a b n : Nat) (zs us : List Nat) (yl : Value) (W : World) : Prop where
  tell : ∃ bg, J (tk a b n) W ∧ W.heap[q + 1]? = some (.cells #[.bool bg] 4) ∧ (bg = false ↔ tk a b n = [])
  za : At 25 W p (wv zs)
  ub : At 25 W (p + 1) (wv us)
  fn : At 119 W q [yl]
  bk : At 96 W (q + 2) [.slice (some ⟨p, 0, none⟩) 4 4]

/-- What a round keeps for the one that goes through the words: the words, and their slice. -/
def KpI (q p : Nat) (W W' : World) : Prop := ∀ (j : Nat) (o : Obj), (j = q + 2 ∨ j = p) → W.heap[j]? = some o → W'.heap[j]? = some o
theorem KpI.refl {q p : Nat} (W : World) : KpI q p W W := fun _ _ _ h => h
theorem KpI.trans {q p : Nat} {A B C : World} (h : KpI q p A B) (k : KpI q p B C) : KpI q p A C := fun j o h1 h2 => k j o h1 (h j o h1 h2)
theorem KpI.put {q p r : Nat} (h1 : p ≠ r) (h2 : q + 2 ≠ r) (W : World) (o' : Obj) : KpI q p W (W.putObj r o') := fun j o hj h => (World.putObj_heap_other (by omega)).trans h
theorem KpI.cell {q p : Nat} {W W' : World} (h : KpI q p W W') {a : Addr} {v : Value} (ha : a.block = q + 2 ∨ a.block = p) (hc : W.cell? a = some v) : W'.cell? a = some v := by
  have : ∃ o : Obj, W.heap[a.block]? = some o := by
    unfold World.cell? at hc
    cases ho : W.heap[a.block]? with
    | none => simp [ho] at hc
    | some o => exact ⟨o, rfl⟩
  obtain ⟨o, ho⟩ := this
  exact (World.cell?_of_block ((h _ o ha ho).trans ho.symm)).trans hc
theorem own_in {J : List (Nat × Nat) → World → Prop} {V : World} {q p s r a b : Nat} {zs us : List Nat} {yl : Value} (hJ : OwnUp q J) (B : Nat) (hB : q + 3 ≤ B) (m : List (Nat × Nat) → Nat) (hp : p + 1 < q) :
    OwnUp B (fun pre W => In J V q p s r a b (m pre) zs us yl W) := by
  rintro pre W W' row ⟨⟨bg, h1, h2, h3⟩, h4, h5, h6, h7⟩ hg hr
  have keep : ∀ (k : Nat) (o : Obj), k < q + 3 → W.heap[k]? = some o → W'.heap[k]? = some o := fun k o hk hv =>
    (hg.block k (Array.getElem?_eq_some_iff.1 hv).1 (fun e => by have := hr k e.symm; omega)).trans hv
  exact ⟨⟨bg, hJ _ W W' row h1 hg (fun r e => by have := hr r e; omega), keep _ _ (by omega) h2, h3⟩, keep _ _ (by omega) h4, keep _ _ (by omega) h5, keep _ _ (by omega) h6, keep _ _ (by omega) h7⟩

set_option maxRecDepth 100000 in
set_option maxHeartbeats 4000000 in
theorem fours_tells (a b : Nat) (zs us : List Nat) (hzl : zs.length = 4) (hul : us.length = 4) (hzw : Ww zs) (huw : Ww us)
    (hz : ∀ i, i < 4 → zs.getD i 0 = a / 2 ^ (64 * i) % 2 ^ 64) (hu : ∀ i, i < 4 → us.getD i 0 = b / 2 ^ (64 * i) % 2 ^ 64) (s p : Nat) (w0 : World) (hsp : s < p) (hp : p + 1 < w0.heap.size)
    (A0 : At 25 w0 p (wv zs)) (B0 : At 25 w0 (p + 1) (wv us)) :
    Telling2 Tryd.prog 92 #[.pointer (some ⟨p, 0, none⟩), .pointer (some ⟨p + 1, 0, none⟩)] (fun x : Nat × Nat => #[.int .u64 (x.1 : Int), .int .u64 (x.2 : Int)]) (fun _ x => x.1 < 16 ∧ x.2 < 16) (KpS s (w0.heap.size + 1)) (fun xs => xs = tk a b 64) w0 := by
  intro n l J V hV hVs hJ hY h0
  have HY : Hid (∀ (m : Nat) pre x V, J pre V → (x.1 < 16 ∧ x.2 < 16) → YieldAt Fence.wide m Tryd.prog l #[.int .u64 (x.1 : Int), .int .u64 (x.2 : Int)] V fun e V' => e = .returned (.bool true) ∧ J (pre ++ [x]) V' ∧ KpS s (w0.heap.size + 1) V V') := hY
  have HJ : Hid (OwnUp V.heap.size J) := hJ
  have HJ0 : Hid (J [] V) := h0
  have AV : Hid (At 25 V p (wv zs)) := A0.below hV
  have BV : Hid (At 25 V (p + 1) (wv us)) := B0.below hV
  have cA0 := AV.out.cell 0
  have cA1 := AV.out.cell 1
  refine callsIn_of_wp_marks Tryd.func92 rfl trivial ?_ rfl
  simp only [Tryd.ntmps92, List.size_toArray, List.length_cons, List.length_nil, Nat.reduceAdd, Nat.reduceSub, Array.replicate_succ, Array.replicate_zero, List.push_toArray, List.append_toArray, List.nil_append, List.cons_append]
  have hmx : Tryd.prog.follows .mixedOrders = true := by kernel_rfl
  gi_wp2_with fail
  refine ⟨trivial, fun h => by simp [Fence.wide] at h, ?_⟩
  refine (back_in Fence.wide _ trivial rfl _ 4 4 _).mono ?_
  rintro r w9 ⟨rfl, hw⟩
  rw [hw]
  clear hw w9
  obtain ⟨B1, hB1⟩ : ∃ B1, Hid (((V.alloc (.cells #[.func (.yield l) #[] #[]] 119)).alloc (.cells #[.bool false] 4)).alloc (.cells #[.slice (some ⟨p, 0, none⟩) 4 4] 96) = B1) := ⟨_, rfl⟩
  have gB : Hid (Below V.heap.size V B1) := by unfold Hid; rw [← hB1.out]; exact (((Below.refl _ _).alloc (Nat.le_refl _) _).alloc (by simp) _).alloc (by simp; omega) _
  have hSz : Hid (B1.heap.size = V.heap.size + 1 + 1 + 1) := by unfold Hid; rw [← hB1.out]; simp
  have hI0 : Hid (In J V V.heap.size p s (w0.heap.size + 1) a b 0 zs us (.func (.yield l) #[] #[]) B1) := by
    unfold Hid
    rw [← hB1.out]
    refine ⟨⟨false, ?_, ?_, fun _ => rfl, fun _ => rfl⟩, ?_, ?_, ?_, ?_⟩
    · rw [hB1.out, tk_zero]; exact HJ.out.up HJ0.out gB.out
    · have h := at_alloc (at_new2 4 (V.alloc (.cells #[.func (.yield l) #[] #[]] 119)) [.bool false] _ rfl) (.cells #[.slice (some ⟨p, 0, none⟩) 4 4] 96)
      rw [World.size_alloc] at h
      exact h
    · exact at_alloc (at_alloc (at_alloc AV.out _) _) _
    · exact at_alloc (at_alloc (at_alloc BV.out _) _) _
    · exact at_alloc (at_alloc (at_new2 _ _ _ _ rfl) _) _
    · exact at_new2 _ _ _ _ (by simp)
  clear cA0 cA1 AV BV HJ0 h0
  gi_wp2_with fail
  rw [hB1.out]
  clear hB1
  have hVr : Hid (w0.heap.size + 1 < V.heap.size) := by unfold Hid; omega
  obtain ⟨q, hq⟩ : ∃ q, V.heap.size = q := ⟨_, rfl⟩
  have HJq : Hid (OwnUp q J) := by rw [← hq]; exact HJ.out
  obtain ⟨r, hr⟩ : ∃ r, w0.heap.size + 1 = r := ⟨_, rfl⟩
  have hpr : Hid (p + 1 < r) := by unfold Hid; omega
  rw [hq] at hSz hI0 gB hVr ⊢
  rw [hr] at HY hI0 hVr
  have HZ : Hid (∀ i, i < 4 → zs.getD i 0 = a / 2 ^ (64 * i) % 2 ^ 64) := hz
  have HU : Hid (∀ i, i < 4 → us.getD i 0 = b / 2 ^ (64 * i) % 2 ^ 64) := hu
  have HZW : Hid (Ww zs) := hzw
  have HUW : Hid (Ww us) := huw
  clear hq hr hV hVs hY HJ hJ gB hz hu hzw huw A0 B0 hp
  have hsz3 := hSz.out
  obtain ⟨yl, hyl⟩ : ∃ yl, Hid (Value.func (Fn.yield l) #[] #[] = yl) := ⟨_, rfl⟩
  rw [hyl.out] at hI0
  refine wpIn_telling2 (w := B1) (gf := 111) (lb := #[.pointer (some ⟨q + 1 + 1, 0, none⟩)]) rfl (enters_of Tryd.func111 (by kernel_rfl) rfl)
    (encs := fun x : Nat × Nat => #[.int .i64 (x.1 : Int), .int .u64 (x.2 : Int)]) (T := NextB zs) (Kp := KpI q p) (S := fun ys => ys = pairsB zs zs.length)
    ?seq (fun _ => rfl) (fun h h' => h.trans h') (fun W o' => KpI.put (by have := hpr.out; have := hVr.out; omega) (by omega) W o')
    (fun pre W => In J V q p s r a b (16 * pre.length) zs us yl W) ?own hI0.out
    (fun x => { tmps := #[.func (.yield l) #[] #[], .pointer (some ⟨p, 0, none⟩), .pointer (some ⟨p + 1, 0, none⟩), .pointer (some ⟨q, 0, none⟩), .pointer (some ⟨q + 1, 0, none⟩), .int .i64 (x.1 : Int), undef, undef, undef, .slice (some ⟨p, 0, none⟩) 4 4, .func (.func 111) #[] #[.pointer (some ⟨q + 1 + 1, 0, none⟩)], .int .i64 (x.1 : Int), .int .u64 (x.2 : Int), undef, undef, undef, undef, undef, undef, undef, undef, undef, undef, undef, undef, undef, undef, undef, undef, undef, undef, undef, undef, undef, undef, undef, undef, undef, undef, undef, undef, undef, undef, undef], defers := [] }) ?assign ?body ?done
  case seq =>
    intro n l J' W hW hWs hJ' hY' h0'
    have hA : At 25 W p (wv zs) := hI0.out.za.below hW
    have hK : At 96 W (q + 2) [.slice (some ⟨p, 0, none⟩) 4 4] := hI0.out.bk.below hW
    refine back1_keep n l (q + 2) 4 p 0 zs HZW.out (by omega) J' (KpI q p) (fun W => KpI.refl W) (fun h h' => h.trans h') W (fun W' h pa v hpa hc => h.cell hpa hc) hY' ?_ ?_ h0'
    · rw [hzl]; exact hK.cell 0
    · intro j hj
      rw [Nat.zero_add, hA.cell j]
      exact wv_get zs j hj
  case own => exact own_in HJq.out _ (by omega) (fun pre => 16 * pre.length) (by have := hpr.out; have := hVr.out; omega)
  case assign =>
    intro n l x W K hK
    gi_wp2
    exact hK
  case done =>
    rintro xs W rfl hI hD
    have hl : 16 * (pairsB zs zs.length).length = 64 := by rw [pairsB_length, hzl]
    obtain ⟨⟨bg, hJs, -, -⟩, -⟩ := hI
    rw [hl] at hJs
    have HJs : Hid (J (tk a b 64) W) := hJs
    have HD : Hid (W.heap[B1.heap.size]? = some (.deferred (some []))) := hD
    clear hl hJs hD
    gi_wp2
    refine ⟨by simp, .inl ⟨_, _, rfl, run_takeDeferred HD.out, ?_⟩⟩
    refine ⟨.tuple #[], ?_, ⟨_, rfl⟩, _, rfl, HJq.out.from.putObj _ HJs.out (by omega) HD.out rfl⟩
    simp [results, Tryd.f92, go_sem]
  case body =>
    rintro m pre x W hWs hI ⟨hlt, rfl, -⟩
    obtain ⟨k, hk⟩ : ∃ k, Hid (pre.length = k) := ⟨_, rfl⟩
    have hI1 : Hid (In J V q p s r a b (16 * k + 0) zs us yl W) := by unfold Hid; rw [Nat.add_zero, ← hk.out]; exact hI
    have hk4 : k < 4 := by rw [← hk.out]; omega
    obtain ⟨ix, hix⟩ : ∃ ix, Hid (3 - k = ix) := ⟨_, rfl⟩
    have hix4 : ix < 4 := by have := hix.out; omega
    have hpx : (zs.length - 1 - pre.length, zs.getD (zs.length - 1 - pre.length) 0) = (ix, zs.getD ix 0) := by rw [hzl, hk.out, ← hix.out]
    rw [hpx]
    have hpl : Hid (16 * (pre ++ [(ix, zs.getD ix 0)]).length = 16 * k + 16) := by unfold Hid; rw [List.length_append, hk.out]; simp; omega
    have HKP : Hid (KpI q p W W) := KpI.refl W
    have HWS : Hid (q + 5 ≤ W.heap.size) := by unfold Hid; omega
    obtain ⟨za, hza⟩ : ∃ z, Hid (zs.getD ix 0 = z) := ⟨_, rfl⟩
    obtain ⟨ub, hub⟩ : ∃ z, Hid (us.getD ix 0 = z) := ⟨_, rfl⟩
    have hza2 : Hid (za = a / 2 ^ (64 * (3 - k)) % 2 ^ 64) := by unfold Hid; rw [← hza.out, HZ.out ix hix4, hix.out]
    have hub2 : Hid (ub = b / 2 ^ (64 * (3 - k)) % 2 ^ 64) := by unfold Hid; rw [← hub.out, HU.out ix hix4, hix.out]
    have hix4' : (ix : Int) < 4 := by omega
    have hcA : Hid (∀ w', At 25 w' p (wv zs) → w'.cell? ⟨p, ix, none⟩ = some (.int .u64 (za : Int))) := fun w' h => by rw [h.cell ix, wv_get zs ix (by omega), hza.out]
    have hcB : Hid (∀ w', At 25 w' (p + 1) (wv us) → w'.cell? ⟨p + 1, ix, none⟩ = some (.int .u64 (ub : Int))) := fun w' h => by rw [h.cell ix, wv_get us ix (by omega), hub.out]
    rw [hza.out] at hpl ⊢
    clear hI hpx hlt hk hI0
    gi_wp2
    gi_loopw [6] (fun u wr => ∃ t : Nat, t ≤ 16 ∧ u = .int .i64 (60 - 4 * (t : Int)) ∧ Hid (In J V q p s r a b (16 * k + t) zs us yl wr) ∧ Hid (∀ j o, (j = q + 3 ∨ j = q + 4) → W.heap[j]? = some o → wr.heap[j]? = some o))
      (fun u _ => ((intOf u + 4) / 4).toNat)
    case atStart => exact ⟨0, by omega, by simp, hI1, fun j o _ h => h⟩
    case round =>
      obtain ⟨t, ht, rfl, hIn, hRec⟩ := hrel
      by_cases htl : t < 16
      · obtain ⟨pl, hpl2⟩ : ∃ pl : Nat, 60 - 4 * (t : Int) = (pl : Int) := ⟨60 - 4 * t, by omega⟩
        have hple : Hid (60 - 4 * t = pl) := by unfold Hid; omega
        have hpl0 : (0 : Int) ≤ (pl : Int) := by omega
        have hpl64 : (pl : Int) < 64 := by omega
        have Hpl2 : Hid (60 - 4 * (t : Int) = (pl : Int)) := hpl2
        rw [hpl2]
        have hK0 : wr.drew.cell? ⟨p, ix, none⟩ = some (.int .u64 (za : Int)) ∧ wr.drew.cell? ⟨p + 1, ix, none⟩ = some (.int .u64 (ub : Int)) := ⟨hcA.out _ hIn.out.za, hcB.out _ hIn.out.ub⟩
        clear hpl2
        gi_wp2_with fail
        refine wpIn_region_hand (S := fun w' => w'.cell? ⟨p, ix, none⟩ = some (.int .u64 (za : Int)) ∧ w'.cell? ⟨p + 1, ix, none⟩ = some (.int .u64 (ub : Int))) hmx (nodefer_of (by simp)) (by rintro ⟨a, w, h⟩; exact h) hK0 (fun hHeld => ?_)
        refine h_take 0 (v := ?v0) rfl (by kernel_rfl) (by kernel_rfl) (by kernel_rfl) (fun _ _ _ h => h) (by rfl) ?hy0 (by assumption) ?_
        case hy0 =>
          intro w' hSw
          try dsimp only at hSw
          go_simp
          try with_reducible rfl
        try simp only [Act.put, List.setIfInBounds_toArray, List.set_cons_zero, List.set_cons_succ]
        refine h_take 1 (v := ?v1) rfl (by kernel_rfl) (by kernel_rfl) (by kernel_rfl) (fun _ _ _ h => h) (by rfl) ?hy1 (by assumption) ?_
        case hy1 =>
          intro w' hSw
          try dsimp only at hSw
          go_simp
          try with_reducible rfl
        try simp only [Act.put, List.setIfInBounds_toArray, List.set_cons_zero, List.set_cons_succ]
        refine h_take 2 (v := ?v2) rfl (by kernel_rfl) (by kernel_rfl) (by kernel_rfl) (fun _ _ _ h => h) (by rfl) ?hy2 (by assumption) ?_
        case hy2 =>
          intro w' hSw
          try dsimp only at hSw
          go_simp
          try with_reducible rfl
        try simp only [Act.put, List.setIfInBounds_toArray, List.set_cons_zero, List.set_cons_succ]
        refine h_take 3 (v := ?v3) rfl (by kernel_rfl) (by kernel_rfl) (by kernel_rfl) (fun _ _ _ h => h) (by rfl) ?hy3 (by assumption) ?_
        case hy3 =>
          intro w' hSw
          try dsimp only at hSw
          go_simp
          try with_reducible rfl
        try simp only [Act.put, List.setIfInBounds_toArray, List.set_cons_zero, List.set_cons_succ]
        refine h_take 4 (v := ?v4) rfl (by kernel_rfl) (by kernel_rfl) (by kernel_rfl) (fun _ _ _ h => h) (by rfl) ?hy4 (by assumption) ?_
        case hy4 =>
          intro w' hSw
          try dsimp only at hSw
          go_simp
          try with_reducible rfl
        try simp only [Act.put, List.setIfInBounds_toArray, List.set_cons_zero, List.set_cons_succ]
        refine h_take 5 (v := ?v5) rfl (by kernel_rfl) (by kernel_rfl) (by kernel_rfl) (fun _ _ _ h => h) (by rfl) ?hy5 (by assumption) ?_
        case hy5 =>
          intro w' hSw
          try dsimp only at hSw
          go_simp
          try with_reducible rfl
        try simp only [Act.put, List.setIfInBounds_toArray, List.set_cons_zero, List.set_cons_succ]
        refine h_take 6 (v := ?v6) rfl (by kernel_rfl) (by kernel_rfl) (by kernel_rfl) (fun _ _ _ h => h) (by rfl) ?hy6 (by assumption) ?_
        case hy6 =>
          intro w' hSw
          try dsimp only at hSw
          go_simp
          try with_reducible rfl
        try simp only [Act.put, List.setIfInBounds_toArray, List.set_cons_zero, List.set_cons_succ]
        refine h_take 7 (v := ?v7) rfl (by kernel_rfl) (by kernel_rfl) (by kernel_rfl) (fun _ _ _ h => h) (by rfl) ?hy7 (by assumption) ?_
        case hy7 =>
          intro w' hSw
          try dsimp only at hSw
          go_simp
          try with_reducible rfl
        try simp only [Act.put, List.setIfInBounds_toArray, List.set_cons_zero, List.set_cons_succ]
        refine h_take 8 (v := ?v8) rfl (by kernel_rfl) (by kernel_rfl) (by kernel_rfl) (fun _ _ _ h => h) (by rfl) ?hy8 (by assumption) ?_
        case hy8 =>
          intro w' hSw
          try dsimp only at hSw
          go_simp
          try with_reducible rfl
        try simp only [Act.put, List.setIfInBounds_toArray, List.set_cons_zero, List.set_cons_succ]
        refine h_take 9 (v := ?v9) rfl (by kernel_rfl) (by kernel_rfl) (by kernel_rfl) (fun _ _ _ h => h) (by rfl) ?hy9 (by assumption) ?_
        case hy9 =>
          intro w' hSw
          try dsimp only at hSw
          go_simp
          try with_reducible rfl
        try simp only [Act.put, List.setIfInBounds_toArray, List.set_cons_zero, List.set_cons_succ]
        refine h_take 10 (v := ?v10) rfl (by kernel_rfl) (by kernel_rfl) (by kernel_rfl) (fun _ _ _ h => h) (by rfl) ?hy10 (by assumption) ?_
        case hy10 =>
          intro w' hSw
          try dsimp only at hSw
          go_simp
          try with_reducible rfl
        try simp only [Act.put, List.setIfInBounds_toArray, List.set_cons_zero, List.set_cons_succ]
        refine h_take 11 (v := ?v11) rfl (by kernel_rfl) (by kernel_rfl) (by kernel_rfl) (fun _ _ _ h => h) (by rfl) ?hy11 (by assumption) ?_
        case hy11 =>
          intro w' hSw
          try dsimp only at hSw
          go_simp
          try with_reducible rfl
        try simp only [Act.put, List.setIfInBounds_toArray, List.set_cons_zero, List.set_cons_succ]
        refine h_take 12 (v := ?v12) rfl (by kernel_rfl) (by kernel_rfl) (by kernel_rfl) (fun _ _ _ h => h) (by rfl) ?hy12 (by assumption) ?_
        case hy12 =>
          intro w' hSw
          try dsimp only at hSw
          go_simp
          try with_reducible rfl
        try simp only [Act.put, List.setIfInBounds_toArray, List.set_cons_zero, List.set_cons_succ]
        refine h_take 13 (v := ?v13) rfl (by kernel_rfl) (by kernel_rfl) (by kernel_rfl) (fun _ _ _ h => h) (by rfl) ?hy13 (by assumption) ?_
        case hy13 =>
          intro w' hSw
          try dsimp only at hSw
          go_simp
          try with_reducible rfl
        try simp only [Act.put, List.setIfInBounds_toArray, List.set_cons_zero, List.set_cons_succ]
        refine wpAnyH_done (by kernel_rfl) ?_ _
        obtain ⟨da, hda⟩ : ∃ d : Nat, Hid (za / 2 ^ pl % 16 = d) := ⟨_, rfl⟩
        obtain ⟨db, hdb⟩ : ∃ d : Nat, Hid (ub / 2 ^ pl % 16 = d) := ⟨_, rfl⟩
        have hta : ((za : Int) / 2 ^ pl).tmod 16 = (da : Int) := by rw [← hda.out, show ((za : Int) / 2 ^ pl) = ((za / 2 ^ pl : Nat) : Int) by push_cast; rfl]; rfl
        have htb : ((ub : Int) / 2 ^ pl).tmod 16 = (db : Int) := by rw [← hdb.out, show ((ub : Int) / 2 ^ pl) = ((ub / 2 ^ pl : Nat) : Int) by push_cast; rfl]; rfl
        have da16 : da < 16 := by rw [← hda.out]; omega
        have db16 : db < 16 := by rw [← hdb.out]; omega
        have hnx : Hid (tk a b (16 * k + (t + 1)) = if tk a b (16 * k + t) = [] then [(da, db)].dropWhile zz else tk a b (16 * k + t) ++ [(da, db)]) := by
          unfold Hid
          have e1 := digit_at a k t hk4 htl
          have e2 := digit_at b k t hk4 htl
          rw [← hza2.out, hple.out, hda.out] at e1
          rw [← hub2.out, hple.out, hdb.out] at e2
          rw [← Nat.add_assoc, tk_next, ← e1, ← e2]
        have hor : bits .or .u64 (da : Int) (db : Int) = ((da ||| db : Nat) : Int) := u64_or_nat da db (by omega) (by omega)
        have hoz : Hid (da ||| db = 0 ↔ da = 0 ∧ db = 0) := or_none da db da16 db16
        obtain ⟨oo, hoo⟩ : ∃ o, da ||| db = o := ⟨_, rfl⟩
        rw [hoo] at hor hoz
        rw [hta, htb]
        clear hta htb hoo hHeld hK0 hda hdb
        obtain ⟨⟨bg, hJs, hbg, hnil⟩, hA, hB, hF, hK⟩ := hIn.out
        obtain ⟨ys, hys⟩ : ∃ ys, Hid (tk a b (16 * k + t) = ys) := ⟨_, rfl⟩
        rw [hys.out] at hJs hnil hnx
        clear hIn
        have HJs : Hid (J ys wr.drew) := HJq.out.up hJs (Below.refl _ _).drew
        have HNIL : Hid (bg = false ↔ ys = []) := hnil
        have HAt : Hid (At 25 wr p (wv zs) ∧ At 25 wr (p + 1) (wv us) ∧ At 119 wr q [yl] ∧ At 96 wr (q + 2) [.slice (some ⟨p, 0, none⟩) 4 4]) := ⟨hA, hB, hF, hK⟩
        have hbg' : At 4 wr (q + 1) [.bool bg] := hbg
        have HBG : Hid (At 4 wr (q + 1) [.bool bg]) := hbg'
        have cb : wr.drew.cell? ⟨q + 1, 0, none⟩ = some (.bool bg) := hbg'.cell 0
        have fb : wr.drew.frozen? ⟨q + 1, 0, none⟩ = false := hbg'.free 0
        have cf : wr.drew.cell? ⟨q, 0, none⟩ = some (.func (.yield l) #[] #[]) := by rw [hyl.out]; exact hF.cell 0
        clear hJs hbg hnil hA hB hF hK hbg'
        obtain ⟨W5, hW5⟩ : ∃ W5, Hid ((wr.setCell ⟨q + 1, 0, none⟩ (.bool true)).drew = W5) := ⟨_, rfl⟩
        have J5 : Hid (J ys W5) := by unfold Hid; rw [← hW5.out]; exact HJq.out.set HJs.out _ (by omega) (.bool true)
        have O5 : Hid (Oth (q + 1) wr W5) := by unfold Hid; rw [← hW5.out]; exact ((Oth.refl _ _).set 0 _).drew
        have B5 : Hid (At 4 W5 (q + 1) [.bool true]) := by unfold Hid; rw [← hW5.out]; exact (HBG.out.set 0 (.bool true)).drew
        have P5 : Hid (At 25 W5 p (wv zs) ∧ At 25 W5 (p + 1) (wv us) ∧ At 119 W5 q [yl] ∧ At 96 W5 (q + 2) [.slice (some ⟨p, 0, none⟩) 4 4]) := by
          have hv := hVr.out
          have hv2 := hpr.out
          exact ⟨O5.out.at HAt.out.1 (by omega), O5.out.at HAt.out.2.1 (by omega), O5.out.at HAt.out.2.2.1 (by omega), O5.out.at HAt.out.2.2.2 (by omega)⟩
        have R5 : Hid (∀ j o, (j = q + 3 ∨ j = q + 4) → W.heap[j]? = some o → W5.heap[j]? = some o) := fun j o hj ho => by
          have h1 := hRec.out j o hj ho
          exact (O5.out.other j (Array.getElem?_eq_some_iff.1 h1).1 (by omega)).trans h1
        obtain ⟨fn, tmps, assign, bd, hy, hR⟩ := yield_round (r := B1.heap.size + 1) (HY.out (m - 1) ys (da, db) W5 J5.out ⟨da16, db16⟩)
        rw [← hW5.out] at hy
        have c5 : ∀ v, (wr.setCell ⟨q + 1, 0, none⟩ v).cell? ⟨q + 1, 0, none⟩ = some v := fun v => (HBG.out.set 0 v).cell 0
        have c5f : ∀ v, (wr.setCell ⟨q + 1, 0, none⟩ v).cell? ⟨q, 0, none⟩ = some (.func (.yield l) #[] #[]) := fun v => ((Below.refl (q + 1) wr).setCell (p := ⟨q + 1, 0, none⟩) (Nat.le_refl _) v).cell (p := ⟨q, 0, none⟩) (Nat.lt_succ_self _) |>.trans cf
        cases bg with
        | true =>
          simp only [noPanic]
          clear hRec HAt HBG
          gi_wp2
          rw [hW5.out]
          refine ⟨fun h => by simp [Fence.wide] at h, hR.mono ?_⟩
          rintro e W3 ⟨rfl, hJ3, hk3⟩
          have J3 : Hid (J (ys ++ [(da, db)]) W3) := hJ3
          have K3 : Hid (KpS s r W5 W3) := hk3
          clear hJ3 hk3 hR hy
          have hv := hVr.out
          have hv2 := hpr.out
          have I3 : Hid (In J V q p s r a b (16 * k + (t + 1)) zs us yl W3) := by
            have HN : tk a b (16 * k + (t + 1)) = ys ++ [(da, db)] := by
              rw [hnx.out]
              by_cases h : ys = []
              · rw [if_pos h, h]
                exact absurd (HNIL.out.2 h) (by simp)
              · rw [if_neg h]
            refine ⟨⟨true, by rw [HN]; exact J3.out, K3.out.2 _ _ (by omega) (by omega) B5.out, by rw [HN]; simp⟩, K3.out.2 _ _ (by omega) (by omega) P5.out.1, K3.out.2 _ _ (by omega) (by omega) P5.out.2.1, K3.out.2 _ _ (by omega) (by omega) P5.out.2.2.1, K3.out.2 _ _ (by omega) (by omega) P5.out.2.2.2⟩
          have R3 : Hid (∀ j o, (j = q + 3 ∨ j = q + 4) → W.heap[j]? = some o → W3.heap[j]? = some o) := fun j o hj ho => K3.out.2 j o (by omega) (by omega) (R5.out j o hj ho)
          clear hv hv2 J3 K3 P5 B5 R5 O5 J5
          gi_wp2
          go_roundw
          case rel => exact ⟨t + 1, by omega, by have := Hpl2.out; go_num, I3, R3⟩
          case measure => simp [intOf]; omega
        | false =>
          by_cases hoc : oo = 0
          · have hoi : (oo : Int) = 0 := by omega
            simp only [noPanic]
            clear hy hR R5 P5 B5 O5 J5 hW5
            obtain ⟨W6, hW6⟩ : ∃ W6, Hid ((wr.setCell ⟨q + 1, 0, none⟩ (.bool false)).drew = W6) := ⟨_, rfl⟩
            have O6 : Hid (Oth (q + 1) wr W6) := by unfold Hid; rw [← hW6.out]; exact ((Oth.refl _ _).set 0 _).drew
            have hv := hVr.out
            have hv2 := hpr.out
            have I3 : Hid (In J V q p s r a b (16 * k + (t + 1)) zs us yl W6) := by
              have h1 := HNIL.out.1 rfl
              obtain ⟨d1, d2⟩ := hoz.out.1 hoc
              have HN : tk a b (16 * k + (t + 1)) = [] := by
                rw [hnx.out, if_pos h1, d1, d2]
                rfl
              have J6 : J ys wr.drew := HJs.out
              rw [h1] at J6
              refine ⟨⟨false, ?_, ?_, ⟨fun _ => HN, fun _ => rfl⟩⟩, O6.out.at HAt.out.1 (by omega), O6.out.at HAt.out.2.1 (by omega), O6.out.at HAt.out.2.2.1 (by omega), O6.out.at HAt.out.2.2.2 (by omega)⟩
              · rw [HN, ← hW6.out]; exact HJq.out.set J6 _ (by omega) (.bool false)
              · rw [← hW6.out]; exact (HBG.out.set 0 (.bool false)).drew
            have R3 : Hid (∀ j o, (j = q + 3 ∨ j = q + 4) → W.heap[j]? = some o → W6.heap[j]? = some o) := fun j o hj ho => by
              have h1 := hRec.out j o hj ho
              exact (O6.out.other j (Array.getElem?_eq_some_iff.1 h1).1 (by omega)).trans h1
            clear hv hv2 hRec HAt HBG
            gi_wp2
            refine ⟨by simp, ?_⟩
            gi_wp2
            rw [hW6.out]
            go_roundw
            case rel => exact ⟨t + 1, by omega, by have := Hpl2.out; go_num, I3, R3⟩
            case measure => simp [intOf]; omega
          · have hoi : ¬ (oo : Int) = 0 := by omega
            have hob : ((oo : Int) != 0) = true := by simp; omega
            simp only [noPanic]
            clear hRec HAt HBG
            gi_wp2
            rw [hW5.out]
            refine ⟨fun h => by simp [Fence.wide] at h, hR.mono ?_⟩
            rintro e W3 ⟨rfl, hJ3, hk3⟩
            have J3 : Hid (J (ys ++ [(da, db)]) W3) := hJ3
            have K3 : Hid (KpS s r W5 W3) := hk3
            clear hJ3 hk3 hR hy
            have hv := hVr.out
            have hv2 := hpr.out
            have I3 : Hid (In J V q p s r a b (16 * k + (t + 1)) zs us yl W3) := by
              have HN : tk a b (16 * k + (t + 1)) = ys ++ [(da, db)] := by
                rw [hnx.out]
                by_cases h : ys = []
                · rw [if_pos h, h]
                  have hd : ¬ (da = 0 ∧ db = 0) := fun e => hoc (hoz.out.2 e)
                  have hz : zz (da, db) = false := by
                    simp only [zz, Bool.and_eq_false_iff, beq_eq_false_iff_ne, ne_eq]
                    omega
                  simp only [List.dropWhile, hz, List.nil_append]
                · rw [if_neg h]
              refine ⟨⟨true, by rw [HN]; exact J3.out, K3.out.2 _ _ (by omega) (by omega) B5.out, by rw [HN]; simp⟩, K3.out.2 _ _ (by omega) (by omega) P5.out.1, K3.out.2 _ _ (by omega) (by omega) P5.out.2.1, K3.out.2 _ _ (by omega) (by omega) P5.out.2.2.1, K3.out.2 _ _ (by omega) (by omega) P5.out.2.2.2⟩
            have R3 : Hid (∀ j o, (j = q + 3 ∨ j = q + 4) → W.heap[j]? = some o → W3.heap[j]? = some o) := fun j o hj ho => K3.out.2 j o (by omega) (by omega) (R5.out j o hj ho)
            clear hv hv2 J3 K3 P5 B5 R5 O5 J5
            gi_wp2
            go_roundw
            case rel => exact ⟨t + 1, by omega, by have := Hpl2.out; go_num, I3, R3⟩
            case measure => simp [intOf]; omega
      · obtain rfl : t = 16 := by omega
        have hm4 : 60 - 4 * ((16 : Nat) : Int) = -4 := by decide
        rw [hm4]
        have I3 : Hid (In J V q p s r a b (16 * (pre ++ [(ix, za)]).length) zs us yl wr) := by unfold Hid; rw [hpl.out]; exact hIn.out
        have E1 : Hid (wr.heap[B1.heap.size]? = W.heap[B1.heap.size]?) := by
          unfold Hid
          have h := HWS.out
          rw [hsz3, Array.getElem?_eq_getElem (by omega : q + 1 + 1 + 1 < W.heap.size)]
          exact hRec.out _ _ (Or.inl rfl) (Array.getElem?_eq_getElem _)
        have E2 : Hid (wr.heap[B1.heap.size + 1]? = W.heap[B1.heap.size + 1]?) := by
          unfold Hid
          have h := HWS.out
          rw [hsz3, Array.getElem?_eq_getElem (by omega : q + 1 + 1 + 1 + 1 < W.heap.size)]
          exact hRec.out _ _ (Or.inr rfl) (Array.getElem?_eq_getElem _)
        have E3 : Hid (KpI q p W wr) := by
          rintro j o (rfl | rfl) ho
          · have h1 : W.heap[q + 2]? = _ := hI1.out.bk
            have h2 : wr.heap[q + 2]? = _ := hIn.out.bk
            rw [h2, ← h1, ho]
          · have h1 : W.heap[j]? = _ := hI1.out.za
            have h2 : wr.heap[j]? = _ := hIn.out.za
            rw [h2, ← h1, ho]
        clear hIn hRec
        gi_wp2
        exact ⟨⟨E1.out, E2.out⟩, E3.out, I3.out⟩
end Go.Proofs.YtedhfimjcpbcpaaDoor.Ed
