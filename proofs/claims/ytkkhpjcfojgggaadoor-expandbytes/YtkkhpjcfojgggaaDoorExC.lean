/-
  The contracts of expand's blocks and of what it returns: a begin's blocks, one behind the other. Conditions: as each theorem says.
-/
import Derived.Test.YtkkhpjcfojgggaaDoorExV
import Derived.Test.YtkkhpjcfojgggaaDoorTell
import Derived.RangeFuncCalls
import Derived.RangeFuncLeaves
import Derived.TacticsInMore
import Derived.LoopNIn
import Derived.LoopIn
import Derived.Shelf.RegionOpen
import Derived.OwnWalkIn
namespace Go.Proofs.YtkkhpjcfojgggaaDoor.Br.Ex
open Go.RowKit Go.Shelf
set_option linter.unusedVariables false
set_option linter.unusedSimpArgs false
attribute [local go_sem] Oper.semAt_some

set_option maxHeartbeats 1000000 in
theorem blocks_in (n : Nat) (a1 a2 : Option Addr) (n1 n2 c1 c2 : Nat) (k : Int) (w : World) :
    CallsIn Fence.wide n Tryd.prog 15 #[.slice a1 n1 c1, .slice a2 n2 c2, .int .i64 k] w fun e w' => e = .returned (.func (.func 26) #[] #[.pointer (some ⟨w.heap.size + 1 + 1, 0, none⟩), .pointer (some ⟨w.heap.size, 0, none⟩), .pointer (some ⟨w.heap.size + 1, 0, none⟩)]) ∧ w' = ((w.alloc (.cells #[.slice a1 n1 c1] 22)).alloc (.cells #[.slice a2 n2 c2] 22)).alloc (.cells #[.int .i64 k] 3) := by
  refine callsIn_of_wp Tryd.func15 rfl trivial ?_ rfl
  simp only [Tryd.ntmps15, List.size_toArray, List.length_cons, List.length_nil, Nat.reduceAdd, Nat.reduceSub, Array.replicate_succ, Array.replicate_zero, List.push_toArray, List.append_toArray, List.nil_append, List.cons_append]
  gi_wp2
  go_ret
  exact ⟨rfl, rfl⟩

theorem up_grown {W W' : World} (h : Below W.heap.size W W') : W.grownBy W' none := ⟨h.os, h.tape, h.output, h.size, fun k hk _ => h.block k hk⟩
theorem up_abides {β : Type} {B : Nat} {J : β → World → Prop} (h : AbidesFrom B J) {s : β} {W W' : World} (hs : J s W) (hb : Below W.heap.size W W') : J s W' := h s W W' none hs (up_grown hb) (fun r e => by cases e)

/-- What a round keeps: all below g, and whatever cells lie from p on. -/
def Kept (g p : Nat) (W W' : World) : Prop := Below g W W' ∧ ∀ (j : Nat) (o : Obj), p ≤ j → W.heap[j]? = some o → o.isCells = true → W'.heap[j]? = some o
theorem Kept.trans {g p : Nat} {A B C : World} (h : Kept g p A B) (k : Kept g p B C) : Kept g p A C := ⟨h.1.trans k.1, fun j o hj ho hc => k.2 j o hj (h.2 j o hj ho hc) hc⟩
theorem Kept.of_below {g p : Nat} {A B : World} (h : Below A.heap.size A B) (hg : g ≤ A.heap.size) : Kept g p A B := ⟨h.mono hg, fun j o _ ho _ => (h.block j (Array.getElem?_eq_some_iff.1 ho).1).trans ho⟩
theorem cells_obj {W : World} {a : Addr} {v : Value} (h : W.cell? a = some v) : ∃ o : Obj, W.heap[a.block]? = some o ∧ o.isCells = true := by
  unfold World.cell? at h
  cases ho : W.heap[a.block]? with
  | none => simp [ho] at h
  | some o => exact ⟨o, rfl, by cases o <;> simp_all [Obj.isCells]⟩
theorem Kept.cell {g p : Nat} {W W' : World} (h : Kept g p W W') {a : Addr} {v : Value} (hp : p ≤ a.block) (hc : W.cell? a = some v) : W'.cell? a = some v := by
  obtain ⟨o, ho, hk⟩ := cells_obj hc
  exact (World.cell?_of_block ((h.2 _ o hp ho hk).trans ho.symm)).trans hc
theorem Kept.sk {g p b o n c : Nat} {W W' : World} {l : List Nat} (h : Kept g p W W') (hs : SK .u8 W (.slice (some ⟨b, o, none⟩) n c) l) (hl : l.length = n) (hn : 0 < n) (hb : p ≤ b) : SK .u8 W' (.slice (some ⟨b, o, none⟩) n c) l := by
  obtain ⟨b', o', c', e, hlt, hc, hcell⟩ := hs.words hl hn
  simp only [Value.slice.injEq, Option.some.injEq, Addr.mk.injEq, and_true, true_and] at e
  obtain ⟨⟨rfl, rfl⟩, rfl⟩ := e
  subst hl
  exact ⟨some ⟨b, o, none⟩, c, rfl, hc, fun e => by simp at e, fun j hj => ⟨b, o, rfl, Nat.lt_of_lt_of_le hlt h.1.size, h.cell hb (hcell j hj)⟩⟩

/-- What is told: the next block, in memory that lies from p on. -/
def Told (B E : List Nat) (p k : Nat) (pre : List Value) (x : Value) (W : World) : Prop :=
  pre.length < k ∧ ∃ g c, x = .slice (some ⟨g, 0, none⟩) 64 c ∧ p ≤ g ∧ SK .u8 W x (blk B E (pre.length + 1))
theorem Told.put {B E : List Nat} {p k : Nat} {pre : List Value} {x : Value} {W : World} (h : Told B E p k pre x W) {l : Nat} {o : Obj} (o' : Obj) (ho : W.heap[l]? = some o) (hc : o.isCells = false) : Told B E p k pre x (W.putObj l o') := by
  obtain ⟨h0, g, c, rfl, hp, hs⟩ := h
  refine ⟨h0, g, c, rfl, hp, ?_⟩
  have hl := blk_length B E (pre.length + 1)
  obtain ⟨b', o1, c', e, hlt, hc', hcell⟩ := hs.words hl (by omega)
  simp only [Value.slice.injEq, Option.some.injEq, Addr.mk.injEq, and_true, true_and] at e
  obtain ⟨⟨rfl, rfl⟩, rfl⟩ := e
  refine ⟨some ⟨g, 0, none⟩, c, by rw [hl], by rw [hl]; exact hc', fun e => by simp at e, fun j hj => ⟨g, 0, rfl, by simpa using hlt, ?_⟩⟩
  rw [hl] at hj
  have hne : g ≠ l := by
    intro q
    subst q
    obtain ⟨o2, ho2, hk2⟩ := cells_obj (hcell j hj)
    simp only at ho2
    rw [ho] at ho2
    cases ho2
    rw [hc] at hk2
    cases hk2
  exact (World.cell?_of_block (World.putObj_heap_other hne)).trans (hcell j hj)


set_option maxRecDepth 100000 in
set_option maxHeartbeats 4000000 in
theorem blocks_tells (n : Nat) (hn : 1 ≤ n) (B E : List Nat) (hB : Bb B) (hBl : B.length = 64) (hE : Bb E) (hEl : E.length ≤ 1000) (k : Nat) (hk : k ≤ 255) (g p : Nat) (hgp : g ≤ p) (w0 : World) (hp : p + 2 < w0.heap.size) (vB vE : Value)
    (hW : ∀ W, Below g w0 W → Gl6 W ∧ SK .u8 W vB B ∧ SK .u8 W vE E) (c0 : w0.cell? ⟨p, 0, none⟩ = some vB) (c1 : w0.cell? ⟨p + 1, 0, none⟩ = some vE) (c2 : w0.cell? ⟨p + 2, 0, none⟩ = some (.int .i64 (k : Int))) :
    Telling Fence.wide n Tryd.prog 26 #[.pointer (some ⟨p + 2, 0, none⟩), .pointer (some ⟨p, 0, none⟩), .pointer (some ⟨p + 1, 0, none⟩)] (fun x : Value => #[x]) (Told B E p k) (Kept g p) (fun xs => xs.length = k) w0 := by
  intro l J V hV hJ hY h0
  have HY : Hid (∀ pre x V, J pre V → Told B E p k pre x V → YieldAt Fence.wide (n - 1) Tryd.prog l #[x] V fun e V' => e = .returned (.bool true) ∧ J (pre ++ [x]) V' ∧ Kept g p V V') := hY
  have HJ : Hid (AbidesFrom V.heap.size J) := hJ
  have HJ0 : Hid (J [] V) := h0
  have hVs := hV.size
  have HV : Hid (Below g w0 V) := hV.mono (by omega)
  have HW : Hid (∀ W, Below g w0 W → Gl6 W ∧ SK .u8 W vB B ∧ SK .u8 W vE E) := hW
  have hpV : Hid (p + 2 < V.heap.size) := by unfold Hid; omega
  have d0 := (hV.cell (p := ⟨p, 0, none⟩) (show p < w0.heap.size by omega)).trans c0
  have d1 := (hV.cell (p := ⟨p + 1, 0, none⟩) (show p + 1 < w0.heap.size by omega)).trans c1
  have d2 := (hV.cell (p := ⟨p + 2, 0, none⟩) hp).trans c2
  obtain ⟨aB, cB, eB⟩ := (hW w0 (Below.refl _ _)).2.1.shape
  obtain ⟨aE, cE, eE⟩ := (hW w0 (Below.refl _ _)).2.2.shape
  rw [hBl] at eB
  subst eB eE
  obtain ⟨nE, hnE⟩ : ∃ n, Hid (E.length = n) := ⟨_, rfl⟩
  rw [hnE.out] at d1 HW hEl
  have D0 : Hid (V.cell? ⟨p, 0, none⟩ = some (.slice aB 64 cB)) := d0
  have D1 : Hid (V.cell? ⟨p + 1, 0, none⟩ = some (.slice aE nE cE)) := d1
  have hmk : ∀ w : World, (Instr.makeSlice 22 (.int .i64 64) (.int .i64 64)).run Tryd.prog w = .ok (.slice (some ⟨w.heap.size, 0, none⟩) 64 64) (w.alloc (.cells (bv8 (List.replicate 64 0)).toArray 5)) := made_bytes 64 64 (by omega) (by omega)
  have hz : Hid (SK .u8 (V.alloc (.cells (bv8 (List.replicate 64 0)).toArray 5)) (.slice (some ⟨V.heap.size, 0, none⟩) 64 64) (blk B E 0)) := sk_made V (blk B E 0) _ 64 rfl (blk_length B E 0)
  obtain ⟨Z, hZ⟩ : ∃ Z, Hid (bv8 (List.replicate 64 0) = Z) := ⟨_, rfl⟩
  rw [hZ.out] at hmk hz
  have gz : Hid (Below V.heap.size V (V.alloc (.cells Z.toArray 5))) := (Below.refl _ _).alloc (Nat.le_refl _) _
  have d2' := (gz.out.cell (p := ⟨p + 2, 0, none⟩) hpV.out).trans d2
  have hk' : (k : Int) ≤ 255 := by omega
  clear hY hJ h0 hV c0 c1 c2 hW d0 d1 d2 hVs hp
  refine callsIn_of_wp Tryd.func26 rfl trivial ?_ rfl
  simp only [Tryd.ntmps26, List.size_toArray, List.length_cons, List.length_nil, Nat.reduceAdd, Nat.reduceSub, Array.replicate_succ, Array.replicate_zero, List.push_toArray, List.append_toArray, List.nil_append, List.cons_append]
  gi_wp2_with fail
  gi_loopw [5, 9] (fun u y W => ∃ (i : Nat) (ys : List Value) (b c : Nat), i ≤ k ∧ y = .int .i64 (i : Int) ∧ u = .slice (some ⟨b, 0, none⟩) 64 c ∧ p ≤ b ∧ Hid (ys.length = i) ∧ Hid (J ys W) ∧ Hid (SK .u8 W (.slice (some ⟨b, 0, none⟩) 64 c) (blk B E i)) ∧ Hid (Below g w0 W) ∧ Hid (V.heap.size ≤ W.heap.size) ∧ Hid (W.cell? ⟨p, 0, none⟩ = some (.slice aB 64 cB)) ∧ Hid (W.cell? ⟨p + 1, 0, none⟩ = some (.slice aE nE cE)))
    (fun _ y _ => k - (intOf y).toNat)
  case atStart =>
    refine ⟨0, [], V.heap.size, 64, Nat.zero_le _, rfl, rfl, by have := hpV.out; omega, rfl, up_abides HJ.out HJ0.out gz.out, hz.out, HV.out.trans (gz.out.mono (by have := hpV.out; omega)), gz.out.size, ?_, ?_⟩
    · exact (gz.out.cell (p := ⟨p, 0, none⟩) (by have := hpV.out; first | omega | (simp; omega))).trans D0.out
    · exact (gz.out.cell (p := ⟨p + 1, 0, none⟩) (by have := hpV.out; first | omega | (simp; omega))).trans D1.out
  case round =>
    obtain ⟨i, ys, b, c, hi, rfl, rfl, hpb, hys, hJs, hS, hBw, hVw, CB, CE⟩ := hrel
    clear HJ0 HV D0 D1 hz gz d2'
    by_cases hlt : i < k
    · have hlt' : (i : Int) < k := by omega
      have hpl : Hid (p + 2 < wr.heap.size) := by have h1 := hpV.out; have h2 := hVw.out; unfold Hid; omega
      have hX : Hid (blk B E (i + 1) = sumB (xorL B (blk B E i) ++ [i + 1] ++ E)) := rfl
      have hBi : Hid (Bb (blk B E i)) := blk_bb B E i
      have hLi : Hid ((blk B E i).length = 64) := blk_length B E i
      have hXl : Hid ((xorL B (blk B E i)).length = 64) := xorL_length _ _
      have hXb : Hid (Bb (xorL B (blk B E i))) := xorL_bb _ _ hB hBi.out
      have HGw : Hid (Gl6 wr ∧ SK .u8 wr (.slice aB 64 cB) B ∧ SK .u8 wr (.slice aE nE cE) E) := HW.out wr hBw.out
      obtain ⟨X, hXq⟩ : ∃ X, xorL B (blk B E i) = X := ⟨_, rfl⟩
      have kM : Hid (∀ W, Below wr.heap.size wr W → Calls Tryd.prog 27 #[.slice aB 64 cB, .slice (some ⟨b, 0, none⟩) 64 c] W fun e w' => ∃ v', e = .returned v' ∧ SK .u8 w' v' X ∧ X.length = 64 ∧ Below W.heap.size W w') := by
        intro W h
        rw [← hXq]
        exact (mixed_own B (blk B E i) hBl hLi.out hB hBi.out _ _ W (HGw.out.2.1.below h) (hS.out.below h)).mono fun e w' ⟨v, h1, h2, h3⟩ => ⟨v, h1, h2.sk, xorL_length _ _, h3⟩
      rw [hXq] at hX hXl hXb
      obtain ⟨N, hN⟩ : ∃ N, Hid (blk B E (i + 1) = N) := ⟨_, rfl⟩
      have hNl : Hid (N.length = 64) := by rw [← hN.out]; exact blk_length B E (i + 1)
      have hNb : Hid (Bb N) := by rw [← hN.out]; exact blk_bb B E (i + 1)
      rw [hN.out] at hX
      have kS : Hid (∀ (W : World) (a5 a6 : Option Addr) (c5 c6 : Nat), Below wr.heap.size wr W → SK .u8 W (.slice a5 64 c5) X → SK .u8 W (.slice a6 1 c6) [i + 1] → Calls Tryd.prog 25 #[.slice (some ⟨W.heap.size, 0, none⟩) 3 3] (W.alloc (.cells #[.slice a5 64 c5, .slice a6 1 c6, .slice aE nE cE] 22)) fun e w' => ∃ v', e = .returned v' ∧ Own8 wr.heap.size w' v' N ∧ Below wr.heap.size wr w') := by
        intro W a5 a6 c5 c6 h h5 h6
        have h9 : Below wr.heap.size wr (W.alloc (.cells #[.slice a5 64 c5, .slice a6 1 c6, .slice aE nE cE] 22)) := h.alloc h.size _
        have hL := ll_made W [.slice a5 64 c5, .slice a6 1 c6, .slice aE nE cE] [X, [i + 1], E] _ 22 3 rfl rfl rfl (fun j hj => by
          match j, hj with
          | 0, _ => exact ⟨_, rfl, h5, hXb.out⟩
          | 1, _ => exact ⟨_, rfl, h6, one_bb _ (by omega)⟩
          | 2, _ => exact ⟨_, rfl, HGw.out.2.2.below h, hE⟩)
        have e : cat [X, [i + 1], E] [X, [i + 1], E].length = X ++ [i + 1] ++ E := cat3 _ _ _
        have hs := sum_parts _ _ (by simp) (by rw [e]; have := hXl.out; have := hnE.out; simp; omega) _ (HGw.out.1.grown h9) hL
        rw [e, ← hX.out] at hs
        exact hs.mono fun e w' ⟨v, q1, q2, q3⟩ => ⟨v, q1, q2.wider h9.size, h9.trans (q3.mono h9.size)⟩
      have hw8 : IntKind.u8.wrap ((i : Int) + 1) = ((i + 1 : Nat) : Int) := by rw [IntKind.wrap_u8]; omega
      have hw9 : IntKind.i64.wrap ((i : Int) + 1) = (i : Int) + 1 := wrapI _ (by omega) (by omega)
      have hK0 : wr.drew.cell? ⟨p, 0, none⟩ = some (.slice aB 64 cB) ∧ wr.drew.cell? ⟨p + 1, 0, none⟩ = some (.slice aE nE cE) := ⟨CB.out, CE.out⟩
      have hZ6 : Hid (∀ W : World, SK .u8 (W.alloc (.cells #[.int .u8 ((i + 1 : Nat) : Int)] 5)) (.slice (some ⟨W.heap.size, 0, none⟩) 1 1) [i + 1]) := fun W => sk_made W [i + 1] _ 1 rfl rfl
      have hd : Hid (Below wr.heap.size wr wr.drew) := (Below.refl _ _).drew
      clear HGw hX hXb hXl hXq hBi hLi HW
      gi_wp2_with fail
      refine wpIn_wide.2 ?_
      refine wp_region_held_drew (S := fun w' => w'.cell? ⟨p, 0, none⟩ = some (.slice aB 64 cB) ∧ w'.cell? ⟨p + 1, 0, none⟩ = some (.slice aE nE cE)) (by kernel_rfl) hK0 (fun hHeld => ?_)
      refine h_take 0 (v := ?v0) rfl (by kernel_rfl) (by kernel_rfl) (by kernel_rfl) (fun _ _ _ h => h) (by rfl) ?hy0 (by assumption) ?_
      case hy0 =>
        intro w' hSw
        try dsimp only at hSw
        go_simp
        try with_reducible rfl
      try simp only [Act.put, List.setIfInBounds_toArray, List.set_cons_zero, List.set_cons_succ]
      refine h_take 1 (v := ?v1) rfl (by kernel_rfl) (by kernel_rfl) (by kernel_rfl) (fun _ _ _ h => h) (by rfl) ?hy1 (by assumption) ?_
      case hy1 =>
        intro w' hSw
        try dsimp only at hSw
        go_simp
        try with_reducible rfl
      try simp only [Act.put, List.setIfInBounds_toArray, List.set_cons_zero, List.set_cons_succ]
      refine h_take 3 (v := ?v3) rfl (by kernel_rfl) (by kernel_rfl) (by kernel_rfl) (fun _ _ _ h => h) (by rfl) ?hy3 (by assumption) ?_
      case hy3 =>
        intro w' hSw
        try dsimp only at hSw
        go_simp
        try with_reducible rfl
      try simp only [Act.put, List.setIfInBounds_toArray, List.set_cons_zero, List.set_cons_succ]
      refine h_take 4 (v := ?v4) rfl (by kernel_rfl) (by kernel_rfl) (by kernel_rfl) (fun _ _ _ h => h) (by rfl) ?hy4 (by assumption) ?_
      case hy4 =>
        intro w' hSw
        try dsimp only at hSw
        go_simp
        try with_reducible rfl
      try simp only [Act.put, List.setIfInBounds_toArray, List.set_cons_zero, List.set_cons_succ]
      refine h_take 5 (v := ?v5) rfl (by kernel_rfl) (by kernel_rfl) (by kernel_rfl) (fun _ _ _ h => h) (by rfl) ?hy5 (by assumption) ?_
      case hy5 =>
        intro w' hSw
        try dsimp only at hSw
        go_simp
        try with_reducible rfl
      try simp only [Act.put, List.setIfInBounds_toArray, List.set_cons_zero, List.set_cons_succ]
      refine h_take 7 (v := ?v7) rfl (by kernel_rfl) (by kernel_rfl) (by kernel_rfl) (fun _ _ _ h => h) (by rfl) ?hy7 (by assumption) ?_
      case hy7 =>
        intro w' hSw
        try dsimp only at hSw
        go_simp
        try with_reducible rfl
      try simp only [Act.put, List.setIfInBounds_toArray, List.set_cons_zero, List.set_cons_succ]
      refine h_fork 2 6 rfl rfl (by kernel_rfl) (by rfl) (by rfl) (fun Kk hK => ?_) (fun Kk hK => ?_)
      · go_simp
        refine (kM.out wr.drew hd.out).mono ?_
        rintro e w5 ⟨v5, rfl, hs5, hl5, g5⟩
        obtain ⟨a5, c5, e5⟩ := hs5.shape
        rw [hl5] at e5
        subst e5
        have M5 : Hid (SK .u8 w5 (.slice a5 64 c5) X) := hs5
        have B5 : Hid (Below wr.heap.size wr w5) := (hd.out).trans (g5.mono (hd.out).size)
        have G5 : Hid (Below (wr.drew).heap.size (wr.drew) w5) := g5
        have K5 : w5.cell? ⟨p, 0, none⟩ = some (.slice aB 64 cB) ∧ w5.cell? ⟨p + 1, 0, none⟩ = some (.slice aE nE cE) := ⟨(B5.out.cell (p := ⟨p, 0, none⟩) (by have := hpl.out; first | omega | (simp; omega))).trans CB.out, (B5.out.cell (p := ⟨p + 1, 0, none⟩) (by have := hpl.out; first | omega | (simp; omega))).trans CE.out⟩
        clear hs5 hl5 g5
        clear hHeld
        refine hK.out _ _ K5 (fun hHeld => ?_)
        clear hK Kk K5
        try simp only [Act.put, List.setIfInBounds_toArray, List.set_cons_zero, List.set_cons_succ]
        refine h_call 6 rfl (by kernel_rfl) (by rfl) (fun Kk hK => ?_)
        go_simp
        have K6 : (w5.alloc (.cells #[.int .u8 ((i + 1 : Nat) : Int)] 5)).cell? ⟨p, 0, none⟩ = some (.slice aB 64 cB) ∧ (w5.alloc (.cells #[.int .u8 ((i + 1 : Nat) : Int)] 5)).cell? ⟨p + 1, 0, none⟩ = some (.slice aE nE cE) := ⟨((B5.out.alloc B5.out.size _).cell (p := ⟨p, 0, none⟩) (by have := hpl.out; first | omega | (simp; omega))).trans CB.out, ((B5.out.alloc B5.out.size _).cell (p := ⟨p + 1, 0, none⟩) (by have := hpl.out; first | omega | (simp; omega))).trans CE.out⟩
        clear hHeld
        refine hK.out _ _ K6 (fun hHeld => ?_)
        clear hK Kk K6
        try simp only [Act.put, List.setIfInBounds_toArray, List.set_cons_zero, List.set_cons_succ]
        refine h_call 8 rfl (by kernel_rfl) (by rfl) (fun Kk hK => ?_)
        go_simp
        have K8 : ((w5.alloc (.cells #[.int .u8 ((i + 1 : Nat) : Int)] 5)).alloc (.cells #[.slice a5 64 c5, .slice (some ⟨w5.heap.size, 0, none⟩) 1 1, .slice aE nE cE] 22)).cell? ⟨p, 0, none⟩ = some (.slice aB 64 cB) ∧ ((w5.alloc (.cells #[.int .u8 ((i + 1 : Nat) : Int)] 5)).alloc (.cells #[.slice a5 64 c5, .slice (some ⟨w5.heap.size, 0, none⟩) 1 1, .slice aE nE cE] 22)).cell? ⟨p + 1, 0, none⟩ = some (.slice aE nE cE) := ⟨(((B5.out.alloc B5.out.size _).alloc (B5.out.alloc B5.out.size _).size _).cell (p := ⟨p, 0, none⟩) (by have := hpl.out; first | omega | (simp; omega))).trans CB.out, (((B5.out.alloc B5.out.size _).alloc (B5.out.alloc B5.out.size _).size _).cell (p := ⟨p + 1, 0, none⟩) (by have := hpl.out; first | omega | (simp; omega))).trans CE.out⟩
        clear hHeld
        refine hK.out _ _ K8 (fun hHeld => ?_)
        clear hK Kk K8
        try simp only [Act.put, List.setIfInBounds_toArray, List.set_cons_zero, List.set_cons_succ]
        refine h_call 9 rfl (by kernel_rfl) (by rfl) (fun Kk hK => ?_)
        go_simp
        have h9 := kS.out (w5.alloc (.cells #[.int .u8 ((i + 1 : Nat) : Int)] 5)) a5 (some ⟨w5.heap.size, 0, none⟩) c5 1 (B5.out.alloc B5.out.size _) (M5.out.below ((Below.refl _ _).alloc (Nat.le_refl _) _)) (hZ6.out w5)
        try rw [World.size_alloc] at h9
        refine h9.mono ?_
        clear h9
        rintro e w7 ⟨v7, rfl, ho7, g7⟩
        have hb7 : ∃ q c, v7 = .slice (some ⟨q, 0, none⟩) 64 c ∧ wr.heap.size ≤ q := by
          obtain ⟨q, c, e, h1, h2⟩ := ho7.lt (by rw [hNl.out]; omega)
          rw [hNl.out] at e
          exact ⟨q, c, e, h1⟩
        obtain ⟨q7, c7, rfl, hq7⟩ := hb7
        have S7 : Hid (SK .u8 w7 (.slice (some ⟨q7, 0, none⟩) 64 c7) N) := ho7.sk
        have B7 : Hid (Below wr.heap.size wr w7) := g7
        have K7 : w7.cell? ⟨p, 0, none⟩ = some (.slice aB 64 cB) ∧ w7.cell? ⟨p + 1, 0, none⟩ = some (.slice aE nE cE) := ⟨(B7.out.cell (p := ⟨p, 0, none⟩) (by have := hpl.out; first | omega | (simp; omega))).trans CB.out, (B7.out.cell (p := ⟨p + 1, 0, none⟩) (by have := hpl.out; first | omega | (simp; omega))).trans CE.out⟩
        clear ho7 g7 hHeld
        refine hK.out _ _ K7 (fun hHeld => ?_)
        clear hK Kk
        try simp only [Act.put, List.setIfInBounds_toArray, List.set_cons_zero, List.set_cons_succ]
        refine h_take 10 (v := .slice (some ⟨q7, 0, none⟩) 64 c7) rfl (by kernel_rfl) (by kernel_rfl) (by kernel_rfl) (fun _ _ _ h => h) (by rfl) (by intro w' hSw; go_simp) (by assumption) ?_
        try simp only [Act.put, List.setIfInBounds_toArray, List.set_cons_zero, List.set_cons_succ]
        refine wpAnyH_done (by kernel_rfl) ?_ _
        have T7 : Told B E p k ys (.slice (some ⟨q7, 0, none⟩) 64 c7) w7 := ⟨by have := hys.out; omega, q7, c7, rfl, by have := hpl.out; omega, by rw [hys.out, hN.out]; exact S7.out⟩
        have hk7 := hHeld
        obtain ⟨fn, tmps, assign, bd, hy, hR⟩ := HY.out ys _ w7 (up_abides HJ.out hJs.out B7.out) T7
        have S7' : Hid (SK .u8 w7 (.slice (some ⟨q7, 0, none⟩) 64 c7) (blk B E (i + 1))) := by rw [hN.out]; exact S7.out
        have HK7 : Hid (w7.cell? ⟨p, 0, none⟩ = some (.slice aB 64 cB) ∧ w7.cell? ⟨p + 1, 0, none⟩ = some (.slice aE nE cE)) := hHeld
        have Bw7 : Hid (Below g w0 w7) := hBw.out.trans (B7.out.mono (by have := hpl.out; omega))
        have Vw7 : Hid (V.heap.size ≤ w7.heap.size) := Nat.le_trans hVw.out B7.out.size
        try dsimp only at hy
        clear T7 hk7 hHeld S7 kM kS hZ6 hd hJs hS hBw hVw CB CE hK0
        gi_wp2
        refine hR.mono ?_
        rintro e W3 ⟨rfl, hJ3, hk3⟩
        have HJ3 : Hid (J (ys ++ [Value.slice (some ⟨q7, 0, none⟩) 64 c7]) W3) := hJ3
        have S3 : Hid (SK .u8 W3 (.slice (some ⟨q7, 0, none⟩) 64 c7) (blk B E (i + 1))) := hk3.sk S7'.out (blk_length _ _ _) (by omega) (by have := hpl.out; omega)
        have C3 : Hid (W3.cell? ⟨p, 0, none⟩ = some (.slice aB 64 cB)) := hk3.cell (Nat.le_refl _) HK7.out.1
        have D3 : Hid (W3.cell? ⟨p + 1, 0, none⟩ = some (.slice aE nE cE)) := hk3.cell (Nat.le_succ _) HK7.out.2
        have B3 : Hid (Below g w0 W3) := Bw7.out.trans hk3.1
        have V3 : Hid (V.heap.size ≤ W3.heap.size) := Nat.le_trans Vw7.out hk3.1.size
        have Y3 : Hid ((ys ++ [Value.slice (some ⟨q7, 0, none⟩) 64 c7]).length = i + 1) := by unfold Hid; rw [List.length_append, hys.out]; rfl
        have P3 : p ≤ q7 := by have := hpl.out; omega
        clear hJ3 hk3 hR S7' HK7 Bw7 Vw7 B7
        gi_wp2
        go_roundw
        case rel => exact ⟨i + 1, _, q7, c7, by omega, by go_num, rfl, P3, Y3, HJ3, S3, B3, V3, C3, D3⟩
        case measure => simp [intOf]; omega
      · go_simp
        have K6 : (wr.drew.alloc (.cells #[.int .u8 ((i + 1 : Nat) : Int)] 5)).cell? ⟨p, 0, none⟩ = some (.slice aB 64 cB) ∧ (wr.drew.alloc (.cells #[.int .u8 ((i + 1 : Nat) : Int)] 5)).cell? ⟨p + 1, 0, none⟩ = some (.slice aE nE cE) := ⟨((hd.out.alloc (Nat.le_refl _) _).cell (p := ⟨p, 0, none⟩) (by have := hpl.out; first | omega | (simp; omega))).trans CB.out, ((hd.out.alloc (Nat.le_refl _) _).cell (p := ⟨p + 1, 0, none⟩) (by have := hpl.out; first | omega | (simp; omega))).trans CE.out⟩
        clear hHeld
        refine hK.out _ _ K6 (fun hHeld => ?_)
        clear hK Kk K6
        try simp only [Act.put, List.setIfInBounds_toArray, List.set_cons_zero, List.set_cons_succ]
        refine h_call 2 rfl (by kernel_rfl) (by rfl) (fun Kk hK => ?_)
        go_simp
        refine (kM.out (wr.drew.alloc (.cells #[.int .u8 ((i + 1 : Nat) : Int)] 5)) (hd.out.alloc (Nat.le_refl _) _)).mono ?_
        rintro e w5 ⟨v5, rfl, hs5, hl5, g5⟩
        obtain ⟨a5, c5, e5⟩ := hs5.shape
        rw [hl5] at e5
        subst e5
        have M5 : Hid (SK .u8 w5 (.slice a5 64 c5) X) := hs5
        have B5 : Hid (Below wr.heap.size wr w5) := ((hd.out.alloc (Nat.le_refl _) _)).trans (g5.mono ((hd.out.alloc (Nat.le_refl _) _)).size)
        have G5 : Hid (Below ((wr.drew.alloc (.cells #[.int .u8 ((i + 1 : Nat) : Int)] 5))).heap.size ((wr.drew.alloc (.cells #[.int .u8 ((i + 1 : Nat) : Int)] 5))) w5) := g5
        have K5 : w5.cell? ⟨p, 0, none⟩ = some (.slice aB 64 cB) ∧ w5.cell? ⟨p + 1, 0, none⟩ = some (.slice aE nE cE) := ⟨(B5.out.cell (p := ⟨p, 0, none⟩) (by have := hpl.out; first | omega | (simp; omega))).trans CB.out, (B5.out.cell (p := ⟨p + 1, 0, none⟩) (by have := hpl.out; first | omega | (simp; omega))).trans CE.out⟩
        clear hs5 hl5 g5
        clear hHeld
        refine hK.out _ _ K5 (fun hHeld => ?_)
        clear hK Kk K5
        try simp only [Act.put, List.setIfInBounds_toArray, List.set_cons_zero, List.set_cons_succ]
        refine h_call 8 rfl (by kernel_rfl) (by rfl) (fun Kk hK => ?_)
        go_simp
        have K8 : ((w5).alloc (.cells #[.slice a5 64 c5, .slice (some ⟨wr.heap.size, 0, none⟩) 1 1, .slice aE nE cE] 22)).cell? ⟨p, 0, none⟩ = some (.slice aB 64 cB) ∧ ((w5).alloc (.cells #[.slice a5 64 c5, .slice (some ⟨wr.heap.size, 0, none⟩) 1 1, .slice aE nE cE] 22)).cell? ⟨p + 1, 0, none⟩ = some (.slice aE nE cE) := ⟨(((B5.out).alloc (B5.out).size _).cell (p := ⟨p, 0, none⟩) (by have := hpl.out; first | omega | (simp; omega))).trans CB.out, (((B5.out).alloc (B5.out).size _).cell (p := ⟨p + 1, 0, none⟩) (by have := hpl.out; first | omega | (simp; omega))).trans CE.out⟩
        clear hHeld
        refine hK.out _ _ K8 (fun hHeld => ?_)
        clear hK Kk K8
        try simp only [Act.put, List.setIfInBounds_toArray, List.set_cons_zero, List.set_cons_succ]
        refine h_call 9 rfl (by kernel_rfl) (by rfl) (fun Kk hK => ?_)
        go_simp
        have h9 := kS.out (w5) a5 (some ⟨wr.heap.size, 0, none⟩) c5 1 (B5.out) (M5.out) ((hZ6.out wr.drew).below G5.out)
        try rw [World.size_alloc] at h9
        refine h9.mono ?_
        clear h9
        rintro e w7 ⟨v7, rfl, ho7, g7⟩
        have hb7 : ∃ q c, v7 = .slice (some ⟨q, 0, none⟩) 64 c ∧ wr.heap.size ≤ q := by
          obtain ⟨q, c, e, h1, h2⟩ := ho7.lt (by rw [hNl.out]; omega)
          rw [hNl.out] at e
          exact ⟨q, c, e, h1⟩
        obtain ⟨q7, c7, rfl, hq7⟩ := hb7
        have S7 : Hid (SK .u8 w7 (.slice (some ⟨q7, 0, none⟩) 64 c7) N) := ho7.sk
        have B7 : Hid (Below wr.heap.size wr w7) := g7
        have K7 : w7.cell? ⟨p, 0, none⟩ = some (.slice aB 64 cB) ∧ w7.cell? ⟨p + 1, 0, none⟩ = some (.slice aE nE cE) := ⟨(B7.out.cell (p := ⟨p, 0, none⟩) (by have := hpl.out; first | omega | (simp; omega))).trans CB.out, (B7.out.cell (p := ⟨p + 1, 0, none⟩) (by have := hpl.out; first | omega | (simp; omega))).trans CE.out⟩
        clear ho7 g7 hHeld
        refine hK.out _ _ K7 (fun hHeld => ?_)
        clear hK Kk
        try simp only [Act.put, List.setIfInBounds_toArray, List.set_cons_zero, List.set_cons_succ]
        refine h_take 10 (v := .slice (some ⟨q7, 0, none⟩) 64 c7) rfl (by kernel_rfl) (by kernel_rfl) (by kernel_rfl) (fun _ _ _ h => h) (by rfl) (by intro w' hSw; go_simp) (by assumption) ?_
        try simp only [Act.put, List.setIfInBounds_toArray, List.set_cons_zero, List.set_cons_succ]
        refine wpAnyH_done (by kernel_rfl) ?_ _
        have T7 : Told B E p k ys (.slice (some ⟨q7, 0, none⟩) 64 c7) w7 := ⟨by have := hys.out; omega, q7, c7, rfl, by have := hpl.out; omega, by rw [hys.out, hN.out]; exact S7.out⟩
        have hk7 := hHeld
        obtain ⟨fn, tmps, assign, bd, hy, hR⟩ := HY.out ys _ w7 (up_abides HJ.out hJs.out B7.out) T7
        have S7' : Hid (SK .u8 w7 (.slice (some ⟨q7, 0, none⟩) 64 c7) (blk B E (i + 1))) := by rw [hN.out]; exact S7.out
        have HK7 : Hid (w7.cell? ⟨p, 0, none⟩ = some (.slice aB 64 cB) ∧ w7.cell? ⟨p + 1, 0, none⟩ = some (.slice aE nE cE)) := hHeld
        have Bw7 : Hid (Below g w0 w7) := hBw.out.trans (B7.out.mono (by have := hpl.out; omega))
        have Vw7 : Hid (V.heap.size ≤ w7.heap.size) := Nat.le_trans hVw.out B7.out.size
        try dsimp only at hy
        clear T7 hk7 hHeld S7 kM kS hZ6 hd hJs hS hBw hVw CB CE hK0
        gi_wp2
        refine hR.mono ?_
        rintro e W3 ⟨rfl, hJ3, hk3⟩
        have HJ3 : Hid (J (ys ++ [Value.slice (some ⟨q7, 0, none⟩) 64 c7]) W3) := hJ3
        have S3 : Hid (SK .u8 W3 (.slice (some ⟨q7, 0, none⟩) 64 c7) (blk B E (i + 1))) := hk3.sk S7'.out (blk_length _ _ _) (by omega) (by have := hpl.out; omega)
        have C3 : Hid (W3.cell? ⟨p, 0, none⟩ = some (.slice aB 64 cB)) := hk3.cell (Nat.le_refl _) HK7.out.1
        have D3 : Hid (W3.cell? ⟨p + 1, 0, none⟩ = some (.slice aE nE cE)) := hk3.cell (Nat.le_succ _) HK7.out.2
        have B3 : Hid (Below g w0 W3) := Bw7.out.trans hk3.1
        have V3 : Hid (V.heap.size ≤ W3.heap.size) := Nat.le_trans Vw7.out hk3.1.size
        have Y3 : Hid ((ys ++ [Value.slice (some ⟨q7, 0, none⟩) 64 c7]).length = i + 1) := by unfold Hid; rw [List.length_append, hys.out]; rfl
        have P3 : p ≤ q7 := by have := hpl.out; omega
        clear hJ3 hk3 hR S7' HK7 Bw7 Vw7 B7
        gi_wp2
        go_roundw
        case rel => exact ⟨i + 1, _, q7, c7, by omega, by go_num, rfl, P3, Y3, HJ3, S3, B3, V3, C3, D3⟩
        case measure => simp [intOf]; omega


    · obtain rfl : i = k := by omega
      gi_wp2
      go_end0
      exact ⟨⟨_, rfl⟩, ys, hys.out, hJs.out⟩
end Go.Proofs.YtkkhpjcfojgggaaDoor.Br.Ex

/-
  The contract of expand's Expand where it refuses. Conditions: as the theorem says.
-/
namespace Go.Proofs.YtkkhpjcfojgggaaDoor.Br.Ex
open Go.RowKit Go.Shelf
set_option linter.unusedVariables false
set_option linter.unusedSimpArgs false

set_option maxHeartbeats 1000000 in
theorem expand_no (z : Int) (a1 a2 : Option Addr) (n1 n2 c1 c2 : Nat) (hz : z < 0 ∨ 16320 < z ∨ 255 < n2) (w : World) :
    Calls Tryd.prog 6 #[.slice a1 n1 c1, .slice a2 n2 c2, .int .i64 z] w fun e w' => e = .returned (.tuple #[.slice none 0 0, .int .i64 2]) ∧ Below w.heap.size w w' := by
  have HB : Hid (Below w.heap.size w (w.alloc (.cells #[.int .i64 z] 3))) := (Below.refl _ _).alloc (Nat.le_refl _) _
  by_cases h1 : z < 0
  · clear hz
    go_enter Tryd.func6, Tryd.ntmps6
    go_wp2_with fail
    go_ret2
    exact ⟨rfl, HB.out⟩
  · by_cases h2 : 16320 < z
    · clear hz
      go_enter Tryd.func6, Tryd.ntmps6
      go_wp2_with fail
      go_ret2
      exact ⟨rfl, HB.out⟩
    · have h3 : 255 < n2 := by omega
      have h3' : (255 : Int) < n2 := by omega
      clear hz
      go_enter Tryd.func6, Tryd.ntmps6
      go_wp2_with fail
      go_ret2
      exact ⟨rfl, HB.out⟩
end Go.Proofs.YtkkhpjcfojgggaaDoor.Br.Ex

/-
  The contract of expand's Expand: what comes. Conditions: as the theorem says.
-/
namespace Go.Proofs.YtkkhpjcfojgggaaDoor.Br.Ex
open Go.RowKit Go.Shelf
set_option linter.unusedVariables false
set_option linter.unusedSimpArgs false
attribute [local go_sem] Oper.semAt_some

/-- Whatever holds cells lies as it lay. -/
def Cells (W W' : World) : Prop := W.heap.size ≤ W'.heap.size ∧ ∀ (j : Nat) (o : Obj), W.heap[j]? = some o → o.isCells = true → W'.heap[j]? = some o
theorem Cells.cell {W W' : World} (h : Cells W W') {a : Addr} {v : Value} (hc : W.cell? a = some v) : W'.cell? a = some v := by
  obtain ⟨o, ho, hk⟩ := cells_obj hc
  exact (World.cell?_of_block ((h.2 _ o ho hk).trans ho.symm)).trans hc
theorem Cells.at {T : TypeId} {W W' : World} {b : Nat} {L : List Value} (h : Cells W W') (ha : At T W b L) : At T W' b L := h.2 _ _ ha rfl
theorem Cells.own {base : Nat} {W W' : World} {v : Value} {l : List Nat} (h : Cells W W') (ho : Own8 base W v l) : Own8 base W' v l := by
  obtain ⟨h1, h2⟩ := ho
  refine ⟨h1, ?_⟩
  rcases h2 with ⟨e, e0⟩ | ⟨g, cap, cur, e, hg, hh, hn, hm, hc, ht⟩
  · exact Or.inl ⟨e, e0⟩
  · exact Or.inr ⟨g, cap, cur, e, hg, h.2 _ _ hh rfl, hn, hm, hc, ht⟩
theorem cells_of_grown {W W' : World} {row : Option Nat} (hg : W.grownBy W' row) (hrow : ∀ r, row = some r → ∃ o : Obj, W.heap[r]? = some o ∧ o.isCells = false) : Cells W W' :=
  ⟨hg.size, fun j o ho hc => (grownBy_keeps_cells hg hrow ho hc).trans ho⟩

/-- 'append(own, bytes...)' where there is room: the bytes go into the slice's own block. -/
theorem wp_fill {o : Oper} {a : Act} {K : Act → World → Prop} {Q : Exit → Act → World → Prop} {wr : World} (s x : Operand)
    (ho : o.op = .call { callee := .builtin .append, args := #[s, x], argTypes := #[22, 22] })
    (base g n cap q mm c : Nat) (l ms : List Nat) (hs : a.eval s = .slice (some ⟨g, 0, none⟩) n cap) (hn : l.length = n) (hown : Own8 base wr (.slice (some ⟨g, 0, none⟩) n cap) l)
    (hx : a.eval x = .slice (some ⟨q, 0, none⟩) mm c) (hm : ms.length = mm) (hS : SK .u8 wr (.slice (some ⟨q, 0, none⟩) mm c) ms) (hroom : n + mm ≤ cap)
    (h : ∀ w', Own8 base w' (.slice (some ⟨g, 0, none⟩) (n + mm) cap) (l ++ ms) → Oth g wr w' → K (a.put o.dst (.slice (some ⟨g, 0, none⟩) (n + mm) cap)) w') : Oper.wp Tryd.prog o a wr K Q := by
  obtain ⟨i0, hi, hz0, hz1, hz2⟩ := info_parts info_u8'
  subst hn hm
  obtain ⟨h1, h2⟩ := hown
  rcases h2 with ⟨e, e0⟩ | ⟨g', cap', cur, e, hbg, hg, hcn, hcm, hcs, ht⟩
  · cases e
  simp only [Value.slice.injEq, Option.some.injEq, Addr.mk.injEq, and_true, true_and] at e
  obtain ⟨rfl, rfl⟩ := e
  have hl8 : (bv8 ms).length = ms.length * i0.size := by rw [hz1, bv8_length]; omega
  have hrun := run_append_room (P := Tryd.prog) (w := wr) 22 o.type 5 i0 Tryd.underlying22 hi g l.length cap cur hg ⟨q, 0, none⟩ ms.length c (bv8 ms) hl8 ?_ (fun u hu => bv8_one hu) hroom (by rw [hl8, hz1]; omega)
  · rw [hz1, Nat.mul_one] at hrun
    have hto : (cur.toList.take l.length) = bv8 l := by simpa using ht
    rw [hto] at hrun
    unfold Oper.wp
    simp only [execOp, ho, resolve, invoke, builtin, Sem.run_bind, Sem.run_pure, Result.andThen_ok, List.map_toArray, List.map_cons, List.map_nil, hs, hx, hrun]
    refine h _ ⟨by simp [bv8_length], Or.inr ⟨g, cap, _, by simp, hbg, setRow_heap wr g cur _ _ _ hg, by simpa using hroom, hcm, ?_, ?_⟩⟩ ⟨rfl, rfl, rfl, by simp, fun k _ hk => setRow_other wr g k _ hk⟩
    · simp only [List.size_toArray, List.length_append, List.length_drop, Array.length_toList, bv8_length]
      omega
    · rw [show bv8 (l ++ ms) = bv8 l ++ bv8 ms by simp [bv8]]
      simp only [List.length_append, Nat.mul_one]
      rw [List.take_append_of_le_length (by simp [bv8_length]), List.take_of_length_le (by simp [bv8_length])]
  · intro j u hj
    have hj2 : j < ms.length := by
      have := (List.getElem?_eq_some_iff.1 hj).1
      rwa [bv8_length] at this
    rw [bv8_get ms j hj2] at hj
    rw [← hj]
    obtain ⟨p, c', e, _, _, hcell⟩ := hS
    simp only [Value.slice.injEq, true_and] at e
    obtain ⟨b, off, e2, _, e3⟩ := hcell j hj2
    rw [e2] at e
    simp only [Option.some.injEq, Addr.mk.injEq, and_true] at e
    obtain ⟨⟨rfl, rfl⟩, rfl⟩ := e
    rw [Addr.add_mid]; exact e3

theorem own_same {base g n cap : Nat} {W W' : World} {l : List Nat} (h : Own8 base W (.slice (some ⟨g, 0, none⟩) n cap) l) (he : W'.heap[g]? = W.heap[g]?) : Own8 base W' (.slice (some ⟨g, 0, none⟩) n cap) l := by
  obtain ⟨h1, h2⟩ := h
  refine ⟨h1, ?_⟩
  rcases h2 with ⟨e, e0⟩ | ⟨g', cap', cur, e, hbg, hg, hn, hm, hc, ht⟩
  · cases e
  · have e2 := e
    simp only [Value.slice.injEq, Option.some.injEq, Addr.mk.injEq, and_true, true_and] at e2
    obtain ⟨rfl, -, -⟩ := e2
    exact Or.inr ⟨_, cap', cur, e, hbg, he.trans hg, hn, hm, hc, ht⟩

/-- What holds of Expand's variables when k blocks have come: n's box, out's box, and out. -/
def Xp (b g n : Nat) (B E : List Nat) (k : Nat) (W : World) : Prop :=
  W.cell? ⟨b, 0, none⟩ = some (.int .i64 (n : Int)) ∧ Own8 g W (.slice (some ⟨g, 0, none⟩) (min n (64 * k)) n) ((blks B E k).take n) ∧ At 22 W (g + 1) [.slice (some ⟨g, 0, none⟩) (min n (64 * k)) n]
theorem Xp.cells {b g n : Nat} {B E : List Nat} {k : Nat} {W W' : World} (h : Xp b g n B E k W) (hc : Cells W W') : Xp b g n B E k W' := ⟨hc.cell h.1, hc.own h.2.1, hc.at h.2.2⟩
theorem first_cut (a : Option Addr) (n c h : Nat) (h1 : h ≤ n) (h2 : n ≤ c) (W : World) : (Instr.sliceAt 22 (.slice a n c) none (some (.int .i64 (h : Int))) none).run Tryd.prog W = .ok (.slice a h c) W := by
  have k0 : (0 : Int) ≤ h := by omega
  have k1 : (h : Int) ≤ c := by omega
  simp [go_sem, k0, k1]
theorem kept_put {g p b : Nat} (hg : g ≤ b) (W : World) (l : Nat) (o o' : Obj) (hl : b ≤ l) (h : W.heap[l]? = some o) (hc : o.isCells = false) : Kept g p W (W.putObj l o') :=
  ⟨(Below.refl g W).grown (grownBy_putObj' W l o') (by have := (Array.getElem?_eq_some_iff.1 h).1; omega) (fun k e => by cases e; omega),
    fun j o2 _ ho2 hc2 => (World.putObj_heap_other (fun e => by subst e; rw [h] at ho2; cases ho2; rw [hc] at hc2; cases hc2)).trans ho2⟩


set_option maxRecDepth 100000 in
set_option maxHeartbeats 8000000 in
theorem expand_own (m t : List Nat) (hm : Bb m) (hml : m.length ≤ 10000000) (ht : Bb t) (htl : t.length ≤ 255) (n : Nat) (hn : n ≤ 16320) (v1 v2 : Value) (w : World) (hg : Gl6 w) (h1 : SK .u8 w v1 m) (h2 : SK .u8 w v2 t) :
    Calls Tryd.prog 6 #[v1, v2, .int .i64 (n : Int)] w fun e w' => ∃ v, e = .returned (.tuple #[v, .int .i64 0]) ∧ Own8 w.heap.size w' v (what m t n) ∧ Below w.heap.size w w' := by
  have gn : Hid (Below w.heap.size w (w.alloc (.cells #[.int .i64 (n : Int)] 3))) := (Below.refl _ _).alloc (Nat.le_refl _) _
  have kE : Hid (Calls Tryd.prog 13 #[v2] (w.alloc (.cells #[.int .i64 (n : Int)] 3)) fun e w' => ∃ v', e = .returned v' ∧ Own8 w.heap.size w' v' (tend t) ∧ Below (w.alloc (.cells #[.int .i64 (n : Int)] 3)).heap.size (w.alloc (.cells #[.int .i64 (n : Int)] 3)) w') :=
    (endOf_own t htl v2 _ (h2.below gn.out)).mono fun e w' ⟨v, q1, q2, q3⟩ => ⟨v, q1, q2.wider gn.out.size, q3⟩
  obtain ⟨a1, c1, e1⟩ := h1.shape
  obtain ⟨a2, c2, e2⟩ := h2.shape
  subst e1 e2
  have HM : Hid (SK .u8 w (.slice a1 m.length c1) m) := h1
  have HG : Hid (Gl6 w) := hg
  have hEb : Hid (Bb (tend t)) := tend_bb t ht htl
  have hEl : Hid ((tend t).length ≤ 256) := by unfold Hid; rw [tend_length]; omega
  have hwt : Hid (what m t n = (blks (begin_ m n (tend t)) (tend t) (howMany n)).take n) := rfl
  obtain ⟨E, hEq⟩ : ∃ E, tend t = E := ⟨_, rfl⟩
  rw [hEq] at kE hEb hEl hwt
  have HMb : Hid (Bb m ∧ m.length ≤ 10000000) := ⟨hm, hml⟩
  obtain ⟨lm, hlm⟩ : ∃ n, Hid (m.length = n) := ⟨_, rfl⟩
  obtain ⟨lt, hlt⟩ : ∃ n, Hid (t.length = n) := ⟨_, rfl⟩
  rw [hlm.out] at HM ⊢
  rw [hlt.out] at kE htl ⊢
  have htl' : ¬ (255 : Int) < lt := by omega
  have hn1 : ¬ (n : Int) < 0 := by omega
  have hn2 : ¬ (16320 : Int) < n := by omega
  clear h1 h2 hg hm hml ht
  refine (callsIn_wide (n := 5)).1 ?_
  refine callsIn_of_wp_marks Tryd.func6 rfl trivial ?_ rfl
  simp only [Tryd.ntmps6, List.size_toArray, List.length_cons, List.length_nil, Nat.reduceAdd, Nat.reduceSub, Array.replicate_succ, Array.replicate_zero, List.push_toArray, List.append_toArray, List.nil_append, List.cons_append]
  have hmx : Tryd.prog.follows .mixedOrders = true := by kernel_rfl
  gi_wp2_with fail
  refine ⟨trivial, ?_⟩
  refine (callsIn_wide.2 kE.out).mono ?_
  rintro r w1 ⟨vE, rfl, ho1, g1⟩
  have O1 : Hid (Own8 w.heap.size w1 vE E) := ho1
  have B1 : Hid (Below w.heap.size w w1) := gn.out.trans (g1.mono gn.out.size)
  have N1 : w1.cell? ⟨w.heap.size, 0, none⟩ = some (.int .i64 (n : Int)) := (g1.cell (p := ⟨w.heap.size, 0, none⟩) (by simp)).trans ((at_new 3 w [.int .i64 (n : Int)]).cell 0)
  have Z1 : Hid (w.heap.size < w1.heap.size) := Nat.lt_of_lt_of_le (by simp) g1.size
  obtain ⟨aE, cE, eE⟩ := ho1.sk.shape
  subst eE
  obtain ⟨lE, hlE⟩ : ∃ n, Hid (E.length = n) := ⟨_, rfl⟩
  rw [hlE.out] at O1 hEl ⊢
  have kB : Hid (Calls Tryd.prog 14 #[.slice a1 lm c1, .int .i64 (n : Int), .slice aE lE cE] w1 fun e w' => ∃ v', e = .returned v' ∧ Own8 w1.heap.size w' v' (begin_ m n E) ∧ Below w1.heap.size w1 w') :=
    beginOf_own m HMb.out.1 HMb.out.2 n (by omega) E hEb.out (by rw [hlE.out]; have := hEl.out; omega) _ _ w1 (HG.out.grown B1.out) (HM.out.below B1.out) O1.out.sk
  clear ho1 g1 kE gn
  gi_wp2_with fail
  refine ⟨trivial, ?_⟩
  refine (callsIn_wide.2 kB.out).mono ?_
  rintro r w2 ⟨vB, rfl, ho2, g2⟩
  have S2 : Hid (SK .u8 w2 vB (begin_ m n E)) := ho2.sk
  have SE2 : Hid (SK .u8 w2 (.slice aE lE cE) E) := O1.out.sk.below g2
  have B2 : Hid (Below w.heap.size w w2) := B1.out.trans (g2.mono B1.out.size)
  have N2 : w2.cell? ⟨w.heap.size, 0, none⟩ = some (.int .i64 (n : Int)) := (g2.cell (p := ⟨w.heap.size, 0, none⟩) Z1.out).trans N1
  have Z2 : Hid (w.heap.size < w2.heap.size) := Nat.lt_of_lt_of_le Z1.out g2.size
  have hBl : Hid ((begin_ m n E).length = 64) := begin_length _ _ _
  have hBb : Hid (Bb (begin_ m n E)) := sumB_bb _
  obtain ⟨aB, cB, eB⟩ := ho2.sk.shape
  rw [hBl.out] at eB
  subst eB
  obtain ⟨B, hBq⟩ : ∃ B, begin_ m n E = B := ⟨_, rfl⟩
  rw [hBq] at S2 hBl hBb hwt
  have hmk : ∀ w : World, (Instr.makeSlice 22 (.int .i64 0) (.int .i64 (n : Int))).run Tryd.prog w = .ok (.slice (some ⟨w.heap.size, 0, none⟩) 0 n) (w.alloc (.cells (bv8 (List.replicate n 0)).toArray 5)) := made_bytes 0 n (by omega) (by omega)
  have hMade : Hid (Own8 w2.heap.size (w2.alloc (.cells (bv8 (List.replicate n 0)).toArray 5)) (.slice (some ⟨w2.heap.size, 0, none⟩) 0 n) []) := bytes_made w2 0 n (by omega) (by omega)
  obtain ⟨Z, hZ⟩ : ∃ Z, Hid (bv8 (List.replicate n 0) = Z) := ⟨_, rfl⟩
  rw [hZ.out] at hmk hMade
  have N2' : (w2.alloc (.cells Z.toArray 5)).cell? ⟨w.heap.size, 0, none⟩ = some (.int .i64 (n : Int)) := (((Below.refl _ w2).alloc (Nat.le_refl _) (.cells Z.toArray 5)).cell (p := ⟨w.heap.size, 0, none⟩) Z2.out).trans N2
  have gW : Hid (Below w2.heap.size w2 ((w2.alloc (.cells Z.toArray 5)).alloc (.cells #[.slice (some ⟨w2.heap.size, 0, none⟩) 0 n] 22))) := ((Below.refl _ w2).alloc (Nat.le_refl _) _).alloc (by simp) _
  have N3 : ((w2.alloc (.cells Z.toArray 5)).alloc (.cells #[.slice (some ⟨w2.heap.size, 0, none⟩) 0 n] 22)).cell? ⟨w.heap.size, 0, none⟩ = some (.int .i64 (n : Int)) := (gW.out.cell (p := ⟨w.heap.size, 0, none⟩) Z2.out).trans N2
  obtain ⟨k, hkq⟩ : ∃ k, Hid (howMany n = k) := ⟨_, rfl⟩
  have hk1 : ((n : Int) + 64 - 1) / 64 = (k : Int) := by have := hkq.out; unfold howMany at this; omega
  have hk2 : Hid (k ≤ 255) := by have := hkq.out; unfold Hid; unfold howMany at this; omega
  have hk3 : Hid (∀ i, i < k → 64 * i < n) := by have := hkq.out; unfold Hid; unfold howMany at this; intro i hi; omega
  have hk4 : Hid (n ≤ 64 * k) := by have := hkq.out; unfold Hid; unfold howMany at this; omega
  clear ho2 g2 kB N1 O1 Z1 B1 hBq
  gi_wp2_with fail
  refine ⟨trivial, ?_⟩
  refine (blocks_in _ aB aE 64 lE cB cE _ _).mono ?_
  rintro r w9 ⟨rfl, hw⟩
  rw [hw]
  clear hw w9
  obtain ⟨B0, hB0⟩ : ∃ B0, Hid (((((w2.alloc (.cells Z.toArray 5)).alloc (.cells #[.slice (some ⟨w2.heap.size, 0, none⟩) 0 n] 22)).alloc (.cells #[.slice aB 64 cB] 22)).alloc (.cells #[.slice aE lE cE] 22)).alloc (.cells #[.int .i64 (k : Int)] 3) = B0) := ⟨_, rfl⟩
  have gB : Hid (Below w2.heap.size w2 B0) := by unfold Hid; rw [← hB0.out]; exact ((((((Below.refl _ w2).alloc (Nat.le_refl _) _).alloc (by simp) _).alloc (by simp; omega) _).alloc (by simp; omega) _).alloc (by simp; omega) _)
  have hSz : Hid (B0.heap.size = w2.heap.size + 1 + 1 + 1 + 1 + 1) := by unfold Hid; rw [← hB0.out]; simp
  have HX0 : Hid (Xp w.heap.size w2.heap.size n B E 0 B0) := by
    refine ⟨(gB.out.cell (p := ⟨w.heap.size, 0, none⟩) Z2.out).trans N2, ?_, ?_⟩
    · rw [Nat.mul_zero, Nat.min_zero, ← hB0.out, show (blks B E 0).take n = [] by simp [blks]]
      refine Own8.grown (w := w2.alloc (.cells Z.toArray 5)) hMade.out ?_
      exact ((((Below.refl _ _).alloc (Nat.le_refl _) _).alloc (by first | (simp; done) | (simp; omega)) _).alloc (by first | (simp; done) | (simp; omega)) _).alloc (by first | (simp; done) | (simp; omega)) _
    · rw [Nat.mul_zero, Nat.min_zero, ← hB0.out]
      have h := at_new 22 (w2.alloc (.cells Z.toArray 5)) [.slice (some ⟨w2.heap.size, 0, none⟩) 0 n]
      rw [World.size_alloc] at h
      refine h.below ?_
      exact (((Below.refl _ _).alloc (Nat.le_refl _) _).alloc (by first | (simp; done) | (simp; omega)) _).alloc (by first | (simp; done) | (simp; omega)) _
  have c0 : Hid (B0.cell? ⟨w2.heap.size + 1 + 1, 0, none⟩ = some (.slice aB 64 cB)) := by unfold Hid; rw [← hB0.out]; simp [go_sem, World.cell?_alloc_past]
  have c1' : Hid (B0.cell? ⟨w2.heap.size + 1 + 1 + 1, 0, none⟩ = some (.slice aE lE cE)) := by unfold Hid; rw [← hB0.out]; simp [go_sem, World.cell?_alloc_past]
  have c2' : Hid (B0.cell? ⟨w2.heap.size + 1 + 1 + 2, 0, none⟩ = some (.int .i64 (k : Int))) := by unfold Hid; rw [← hB0.out]; simp [go_sem, World.cell?_alloc_past]
  have HBel : Hid (Below w.heap.size w B0) := B2.out.trans (gB.out.mono B2.out.size)
  have hTl : Hid (∀ W, Below w2.heap.size B0 W → Gl6 W ∧ SK .u8 W (.slice aB 64 cB) B ∧ SK .u8 W (.slice aE lE cE) E) := by
    intro W hW
    have h := gB.out.trans hW
    exact ⟨HG.out.grown (B2.out.trans (h.mono B2.out.size)), S2.out.below h, SE2.out.below h⟩
  clear N2 N2' N3 gW hMade hZ hmk
  gi_wp2_with fail
  rw [hB0.out]
  clear hB0
  have hgw : Hid (w.heap.size < w2.heap.size) := Z2
  obtain ⟨g, hgq⟩ : ∃ g, w2.heap.size = g := ⟨_, rfl⟩
  have gB' : Hid (Below w.heap.size w B0) := HBel
  rw [hgq] at hSz HX0 c0 c1' c2' hTl hgw ⊢
  clear gB hgq Z2 B2 S2 SE2 HBel
  have LOW : Hid (Below g B0 B0) := Below.refl _ _
  refine wpIn_telling (w := B0) rfl (by omega) (gf := 26) (lb := #[.pointer (some ⟨g + 1 + 1 + 2, 0, none⟩), .pointer (some ⟨g + 1 + 1, 0, none⟩), .pointer (some ⟨g + 1 + 1 + 1, 0, none⟩)]) rfl trivial (enters_of Tryd.func26 (by kernel_rfl) rfl)
    (blocks_tells _ (by omega) B E hBb.out hBl.out hEb.out (by rw [hlE.out]; have := hEl.out; omega) k hk2.out g (g + 1 + 1) (by omega) B0 (by rw [hSz.out]; omega) (.slice aB 64 cB) (.slice aE lE cE) hTl.out c0.out c1'.out c2'.out)
    (fun _ => rfl) (fun pre x W l o o' _ h1 h2 h3 => h3.put o' h1 h2) (fun h h' => h.trans h') (fun W l o o' h1 h2 h3 => kept_put (b := B0.heap.size) (by rw [hSz.out]; omega) W l o o' h1 h2 h3)
    (fun pre W => Xp w.heap.size g n B E pre.length W ∧ Below w.heap.size w W)
    (OwnFrom.and (fun s W W' row hs hg hr => hs.cells (cells_of_grown hg (fun r e => (hr r e).2))) (ownFrom_below (Nat.le_refl _) gB'.out.size))
    ⟨HX0.out, gB'.out⟩
    (fun x => { tmps := #[.slice a1 lm c1, .slice a2 lt c2, .int .i64 (n : Int), undef, undef, .pointer (some ⟨w.heap.size, 0, none⟩), .slice none 0 0, .int .i64 0, .slice aE lE cE, .slice aB 64 cB, .pointer (some ⟨g + 1, 0, none⟩), x, .int .i64 (n : Int), .bool false, .bool false, .int .i64 (n : Int), .bool false, .bool false, .bool false, .slice a2 lt c2, .int .i64 (lt : Int), .bool false, .bool false, .slice a2 lt c2, .slice aE lE cE, .slice a1 lm c1, .int .i64 (n : Int), .slice aE lE cE, .slice aB 64 cB, .int .i64 (n : Int), .slice (some ⟨g, 0, none⟩) 0 n, .slice aB 64 cB, .slice aE lE cE, .int .i64 (n : Int), .int .i64 ((n : Int) + 64), .int .i64 ((n : Int) + 64 - 1), .int .i64 (k : Int), .func (.func 26) #[] #[.pointer (some ⟨g + 1 + 1 + 1 + 1, 0, none⟩), .pointer (some ⟨g + 1 + 1, 0, none⟩), .pointer (some ⟨g + 1 + 1 + 1, 0, none⟩)], x, undef, undef, undef, undef, undef, undef, undef, undef, undef, undef], defers := [] }) ?assign ?body ?done
  case assign =>
    intro l x W K hK
    gi_wp2
    exact hK
  case body =>
    rintro l pre x W ⟨⟨hN, hO, hA⟩, hB⟩ ⟨hlt, q, c, rfl, hpq, hS⟩
    have NW : Hid (W.cell? ⟨w.heap.size, 0, none⟩ = some (.int .i64 (n : Int))) := hN
    have BW : Hid (Below w.heap.size w W) := hB
    have hlow := hk3.out _ hlt
    have e1 : min n (64 * pre.length) = 64 * pre.length := by omega
    have hnx : Hid ((blks B E (pre.length + 1)).take n = blks B E pre.length ++ (blk B E (pre.length + 1)).take (min 64 (n - 64 * pre.length))) := take_next B E n pre.length (by omega)
    rw [e1, take_low B E n pre.length (by omega)] at hO
    rw [e1] at hA
    have hbl := blk_length B E (pre.length + 1)
    have hll : Hid ((blks B E pre.length).length = 64 * pre.length) := blks_length _ _ _
    obtain ⟨mm, hmm⟩ : ∃ mm, min 64 (n - 64 * pre.length) = mm := ⟨_, rfl⟩
    have hml : Hid (((blk B E (pre.length + 1)).take mm).length = mm) := by unfold Hid; rw [List.length_take, hbl]; omega
    have hmm64 : mm ≤ 64 := by omega
    have hcq : 64 ≤ c := (hS.cap).1
    have MS' : SK .u8 W (.slice (some ⟨q, 0, none⟩) mm c) ((blk B E (pre.length + 1)).take mm) := by
      have h := SK.take (a := some ⟨q, 0, none⟩) (cap := c) (cap' := c) (n := mm) (l := blk B E (pre.length + 1)) (by rw [hbl]; exact hS) (by rw [hbl]; exact hmm64) (by omega) (fun e => by cases e)
      exact h
    have MS : Hid (SK .u8 W.drew (.slice (some ⟨q, 0, none⟩) mm c) ((blk B E (pre.length + 1)).take mm)) := MS'.below (Below.refl _ _).drew
    have hroom : Hid (64 * pre.length + mm ≤ n) := by unfold Hid; omega
    have hnew : Hid (min n (64 * (pre.length + 1)) = 64 * pre.length + mm) := by unfold Hid; omega
    rw [hmm] at hnx
    obtain ⟨ms, hms⟩ : ∃ ms, (blk B E (pre.length + 1)).take mm = ms := ⟨_, rfl⟩
    rw [hms] at MS hml hnx
    obtain ⟨lq, hlq⟩ : ∃ l, blks B E pre.length = l := ⟨_, rfl⟩
    rw [hlq] at hO hll hnx
    have hpl : Hid (pre.length + 1 = (pre ++ [Value.slice (some ⟨q, 0, none⟩) 64 c]).length) := by unfold Hid; simp
    rw [hpl.out] at hnx hnew
    obtain ⟨len, hlen⟩ : ∃ len, 64 * pre.length = len := ⟨_, rfl⟩
    rw [hlen] at hO hA hll hroom hnew hmm hlow
    have OW : Hid (Own8 g W.drew (.slice (some ⟨g, 0, none⟩) len n) lq) := hO
    have AW : Hid (At 22 W (g + 1) [.slice (some ⟨g, 0, none⟩) len n]) := hA
    have hK0 : W.drew.cell? ⟨w.heap.size, 0, none⟩ = some (.int .i64 (n : Int)) ∧ W.drew.cell? ⟨g + 1, 0, none⟩ = some (.slice (some ⟨g, 0, none⟩) len n) := ⟨hN, hA.cell 0⟩
    have hs1 : IntKind.i64.wrap ((n : Int) - (len : Int)) = ((n - len : Nat) : Int) := by rw [IntKind.wrap_i64]; omega
    have hs2 : min 64 ((n - len : Nat) : Int) = (mm : Int) := by omega
    obtain ⟨rm, hrm⟩ : ∃ r, n - len = r := ⟨_, rfl⟩
    rw [hrm] at hs1 hs2
    have hsl : ∀ W, (Instr.sliceAt 22 (.slice (some ⟨q, 0, none⟩) 64 c) none (some (.int .i64 (mm : Int))) none).run Tryd.prog W = .ok (.slice (some ⟨q, 0, none⟩) mm c) W := first_cut _ 64 c mm hmm64 hcq
    have hgl : Hid (g < W.heap.size ∧ ∃ o : Obj, W.heap[g]? = some o ∧ o.isCells = true) := by
      obtain ⟨-, h2⟩ := hO
      rcases h2 with ⟨e, e0⟩ | ⟨g', cap', cur, e, hbg, hg, -⟩
      · cases e
      · simp only [Value.slice.injEq, Option.some.injEq, Addr.mk.injEq, and_true, true_and] at e
        obtain ⟨rfl, -, -⟩ := e
        exact ⟨(Array.getElem?_eq_some_iff.1 hg).1, _, hg, rfl⟩
    clear hN hO hA hB hS hlt hlow e1 hbl MS' hms hlq hmm hrm HX0 c0 c1' c2' hTl LOW hlen hpq
    gi_wp2
    refine wpIn_region_late (L := 9) (S := fun w' => w'.cell? ⟨w.heap.size, 0, none⟩ = some (.int .i64 (n : Int)) ∧ w'.cell? ⟨g + 1, 0, none⟩ = some (.slice (some ⟨g, 0, none⟩) len n)) hmx (nodefer_of (by simp)) (by rintro ⟨a, w, h⟩; exact h) hK0 (fun hHeld => ?_)
    refine l_take 0 (v := ?v0) rfl (by kernel_rfl) (by kernel_rfl) (by kernel_rfl) (by kernel_rfl) (fun _ _ _ h => h) (by rfl) ?hy0 (by assumption) ?_
    case hy0 =>
      intro w' hSw
      try dsimp only at hSw
      go_simp
      try with_reducible rfl
    try simp only [Act.put, List.setIfInBounds_toArray, List.set_cons_zero, List.set_cons_succ]
    refine l_take 1 (v := ?v1) rfl (by kernel_rfl) (by kernel_rfl) (by kernel_rfl) (by kernel_rfl) (fun _ _ _ h => h) (by rfl) ?hy1 (by assumption) ?_
    case hy1 =>
      intro w' hSw
      try dsimp only at hSw
      go_simp
      try with_reducible rfl
    try simp only [Act.put, List.setIfInBounds_toArray, List.set_cons_zero, List.set_cons_succ]
    refine l_take 2 (v := ?v2) rfl (by kernel_rfl) (by kernel_rfl) (by kernel_rfl) (by kernel_rfl) (fun _ _ _ h => h) (by rfl) ?hy2 (by assumption) ?_
    case hy2 =>
      intro w' hSw
      try dsimp only at hSw
      go_simp
      try with_reducible rfl
    try simp only [Act.put, List.setIfInBounds_toArray, List.set_cons_zero, List.set_cons_succ]
    refine l_take 3 (v := ?v3) rfl (by kernel_rfl) (by kernel_rfl) (by kernel_rfl) (by kernel_rfl) (fun _ _ _ h => h) (by rfl) ?hy3 (by assumption) ?_
    case hy3 =>
      intro w' hSw
      try dsimp only at hSw
      go_simp
      try with_reducible rfl
    try simp only [Act.put, List.setIfInBounds_toArray, List.set_cons_zero, List.set_cons_succ]
    refine l_take 4 (v := ?v4) rfl (by kernel_rfl) (by kernel_rfl) (by kernel_rfl) (by kernel_rfl) (fun _ _ _ h => h) (by rfl) ?hy4 (by assumption) ?_
    case hy4 =>
      intro w' hSw
      try dsimp only at hSw
      go_simp
      try with_reducible rfl
    try simp only [Act.put, List.setIfInBounds_toArray, List.set_cons_zero, List.set_cons_succ]
    refine l_take 5 (v := ?v5) rfl (by kernel_rfl) (by kernel_rfl) (by kernel_rfl) (by kernel_rfl) (fun _ _ _ h => h) (by rfl) ?hy5 (by assumption) ?_
    case hy5 =>
      intro w' hSw
      try dsimp only at hSw
      go_simp
      try with_reducible rfl
    try simp only [Act.put, List.setIfInBounds_toArray, List.set_cons_zero, List.set_cons_succ]
    refine l_take 6 (v := ?v6) rfl (by kernel_rfl) (by kernel_rfl) (by kernel_rfl) (by kernel_rfl) (fun _ _ _ h => h) (by rfl) ?hy6 (by assumption) ?_
    case hy6 =>
      intro w' hSw
      try dsimp only at hSw
      go_simp
      try with_reducible rfl
    try simp only [Act.put, List.setIfInBounds_toArray, List.set_cons_zero, List.set_cons_succ]
    refine l_take 7 (v := ?v7) rfl (by kernel_rfl) (by kernel_rfl) (by kernel_rfl) (by kernel_rfl) (fun _ _ _ h => h) (by rfl) ?hy7 (by assumption) ?_
    case hy7 =>
      intro w' hSw
      try dsimp only at hSw
      go_simp
      try with_reducible rfl
    try simp only [Act.put, List.setIfInBounds_toArray, List.set_cons_zero, List.set_cons_succ]
    refine l_call 8 rfl (by kernel_rfl) (by rfl) (fun Kk hK => ?_)
    refine wp_fill _ _ (by rfl) g g len n q mm c lq ms (by rfl) hll.out OW.out (by rfl) hml.out MS.out hroom.out ?_
    intro W3 hown3 hoth3
    have O3 : Hid (Own8 g W3 (.slice (some ⟨g, 0, none⟩) (len + mm) n) (lq ++ ms)) := hown3
    have T3 : Hid (Oth g W W3) := ⟨hoth3.os, hoth3.tape, hoth3.output, hoth3.size, hoth3.other⟩
    have A3 : Hid (At 22 W3 (g + 1) [.slice (some ⟨g, 0, none⟩) len n]) := T3.out.at AW.out (by omega)
    have K3 : W3.cell? ⟨w.heap.size, 0, none⟩ = some (.int .i64 (n : Int)) ∧ W3.cell? ⟨g + 1, 0, none⟩ = some (.slice (some ⟨g, 0, none⟩) len n) := ⟨(T3.out.cell ⟨w.heap.size, 0, none⟩ (by have := hgw.out; have := AW.out.lt; first | omega | (simp; omega)) (by have := hgw.out; first | omega | (simp; omega))).trans NW.out, A3.out.cell 0⟩
    have f3 := A3.out.free 0
    have K3n : Hid (W3.cell? ⟨w.heap.size, 0, none⟩ = some (.int .i64 (n : Int))) := K3.1
    clear hown3 hoth3
    clear hHeld
    refine hK.out _ _ (Or.inr K3) ?_
    have hHeld := K3
    clear hK Kk
    try simp only [Act.put, List.setIfInBounds_toArray, List.set_cons_zero, List.set_cons_succ]
    refine l_call 9 rfl (by kernel_rfl) (by rfl) (fun Kk hK => ?_)
    have K3c := hHeld.2
    go_simp
    refine hK.out _ _ (Or.inl rfl) ?_
    clear hK Kk
    try simp only [Act.put, List.setIfInBounds_toArray, List.set_cons_zero, List.set_cons_succ]
    refine l_done (by kernel_rfl) ?_ _
    simp only [noPanic]
    have hd1 : ∀ j, j ≠ g + 1 → (W3.setCell ⟨g + 1, 0, none⟩ (.slice (some ⟨g, 0, none⟩) (len + mm) n)).heap[j]? = W3.heap[j]? := fun j hj => Below.heap_setCell W3 ⟨g + 1, 0, none⟩ _ j hj
    obtain ⟨hgl1, og, hog, hcg⟩ := hgl.out
    have hF1 : Hid (KeepsOthers W (W3.setCell ⟨g + 1, 0, none⟩ (.slice (some ⟨g, 0, none⟩) (len + mm) n))) := by
      refine ⟨by have := T3.out.size; simpa using this, fun j o hj hc => ?_⟩
      have n1 : j ≠ g := fun e => by subst e; rw [hog] at hj; cases hj; rw [hcg] at hc; cases hc
      have n2 : j ≠ g + 1 := fun e => by
        subst e
        have h := AW.out
        unfold At at h
        rw [h] at hj
        cases hj
        cases hc
      exact ((hd1 j n2).trans (T3.out.other j (Array.getElem?_eq_some_iff.1 hj).1 n1)).trans hj
    have hF2 : Hid (Kept g (g + 1 + 1) W (W3.setCell ⟨g + 1, 0, none⟩ (.slice (some ⟨g, 0, none⟩) (len + mm) n))) := by
      refine ⟨⟨T3.out.os, T3.out.tape, T3.out.output, by have := T3.out.size; simpa using this, fun j hj => ?_⟩, fun j o hp hj hc => ?_⟩
      · exact (hd1 j (by omega)).trans (T3.out.other j (by omega) (by omega))
      · exact ((hd1 j (by omega)).trans (T3.out.other j (Array.getElem?_eq_some_iff.1 hj).1 (by omega))).trans hj
    have hF3 : Hid (Xp w.heap.size g n B E (pre ++ [Value.slice (some ⟨q, 0, none⟩) 64 c]).length (W3.setCell ⟨g + 1, 0, none⟩ (.slice (some ⟨g, 0, none⟩) (len + mm) n))) := by
      refine ⟨?_, ?_, ?_⟩
      · exact (World.cell?_of_block (a := ⟨w.heap.size, 0, none⟩) (hd1 w.heap.size (by have := hgw.out; omega))).trans K3n.out
      · rw [hnx.out, hnew.out]
        exact own_same O3.out (hd1 g (by omega))
      · rw [hnew.out]
        exact A3.out.set 0 _
    have hF4 : Hid (Below w.heap.size w (W3.setCell ⟨g + 1, 0, none⟩ (.slice (some ⟨g, 0, none⟩) (len + mm) n))) := (Oth.bel BW.out T3.out (by have := hgw.out; omega)).setCell (p := ⟨g + 1, 0, none⟩) (by have := hgw.out; simp; omega) _
    clear hd1 hog hcg hgl1
    gi_wp2
    exact ⟨hF1.out, hF2.out, hF3.out, hF4.out⟩
  case done =>
    rintro D xs W hD hys ⟨⟨hN, hO, hA⟩, hB⟩ hK
    have hk4' := hk4.out
    rw [hys, show min n (64 * k) = n by omega] at hA hO
    have hlist : Hid ((blks B E k).take n = what m t n) := by unfold Hid; rw [hwt.out, hkq.out]
    rw [hlist.out] at hO
    have HO : Hid (Own8 g W (.slice (some ⟨g, 0, none⟩) n n) (what m t n)) := hO
    have HB : Hid (Below w.heap.size w W) := hB
    have HKD : Hid (W.heap[D]? = some (.deferred (some []))) := hK
    have hD' : Hid (w.heap.size ≤ D ∧ g < D) := by have h1 := hSz.out; have h2 := hgw.out; unfold Hid; omega
    have c3 := hA.cell 0
    clear hN hO hA hB hK HX0 c0 c1' c2' hTl LOW hk4' hD hys
    gi_wp2
    refine ⟨by simp, .inl ⟨_, _, rfl, run_takeDeferred HKD.out, ?_⟩⟩
    refine ⟨.tuple #[.slice (some ⟨g, 0, none⟩) n n, .int .i64 0], ?_, _, rfl, ?_, ?_⟩
    · simp [results, Tryd.f6, go_sem]
    · have h := hD'.out.2
      exact (own_same HO.out (World.putObj_heap_other (by omega))).wider (Nat.le_of_lt hgw.out)
    · exact HB.out.trans (belowK_b (w := w) (Nat.le_refl _) _ D _ _ hD'.out.1 HKD.out rfl rfl)
end Go.Proofs.YtkkhpjcfojgggaaDoor.Br.Ex

/-
  The contract of the law's awake of layer 9: the first block of nothing. Conditions: as the theorem says.
-/
namespace Go.Proofs.YtkkhpjcfojgggaaDoor.Br.Ex
open Go.RowKit
set_option linter.unusedVariables false
set_option linter.unusedSimpArgs false

theorem xorL_zero (B : List Nat) (h : B.length = 64) : xorL B (List.replicate 64 0) = B := by
  refine list_of_getD _ _ (by rw [xorL_length, h]) (fun j hj => ?_)
  rw [xorL_length] at hj
  have e : (List.replicate 64 0).getD j 0 = 0 := by
    rw [List.getD_eq_getElem?_getD, List.getElem?_replicate]
    split <;> rfl
  rw [xorL_get _ _ j hj, e, Nat.xor_zero]
theorem what_nothing : what [] [] 64 = sumB (sumB (List.replicate 128 0 ++ [0, 64, 0, 0]) ++ [1, 0]) := by
  have e1 : howMany 64 = 1 := rfl
  have e2 : begin_ [] 64 (tend []) = sumB (List.replicate 128 0 ++ [0, 64, 0, 0]) := by
    unfold begin_ tend
    rw [List.append_nil, List.append_assoc]
    rfl
  unfold what
  rw [e1, e2]
  have hB : (sumB (List.replicate 128 0 ++ [0, 64, 0, 0])).length = 64 := sumB_length _
  generalize sumB (List.replicate 128 0 ++ [0, 64, 0, 0]) = B at hB
  have e3 : blks B (tend []) 1 = blk B (tend []) 1 := by rw [blks, blks, List.nil_append]
  rw [e3, List.take_of_length_le (by rw [blk_length]; omega), blk, blk, xorL_zero B hB]
  unfold tend
  rw [List.append_assoc]
  rfl

set_option maxRecDepth 100000 in
set_option maxHeartbeats 2000000 in
theorem awake9 (w : World) (hg : Gl6 w) :
    Calls Tryd.prog 5 #[] w fun e w' => e = .returned (.bool true) ∧ Below w.heap.size w w' := by
  have HG : Hid (Gl6 w) := hg
  have hmk : ∀ w : World, (Instr.makeSlice 22 (.int .i64 128) (.int .i64 128)).run Tryd.prog w = .ok (.slice (some ⟨w.heap.size, 0, none⟩) 128 128) (w.alloc (.cells (bv8 (List.replicate 128 0)).toArray 5)) := made_bytes 128 128 (by omega) (by omega)
  have OZ : Hid (Own8 w.heap.size (w.alloc (.cells (bv8 (List.replicate 128 0)).toArray 5)) (.slice (some ⟨w.heap.size, 0, none⟩) 128 128) (List.replicate 128 0)) := bytes_made w 128 128 (by omega) (by omega)
  have hwhat : Hid (what [] [] 64 = sumB (sumB (List.replicate 128 0 ++ [0, 64, 0, 0]) ++ [1, 0])) := what_nothing
  have hRb : Hid (Bb (List.replicate 128 0 ++ [0, 64, 0, 0])) := (rep_bb 128).app (by
    intro j
    match j with
    | 0 => decide
    | 1 => decide
    | 2 => decide
    | 3 => decide
    | k + 4 => exact (by decide : (0 : Nat) < 256))
  have hRl : Hid ((List.replicate 128 0 ++ [0, 64, 0, 0]).length = 132) := by unfold Hid; simp
  have hR0 : Hid ((List.replicate 128 0).length + 4 ≤ 1000000) := by unfold Hid; simp
  obtain ⟨Z, hZ⟩ : ∃ Z, Hid (bv8 (List.replicate 128 0) = Z) := ⟨_, rfl⟩
  rw [hZ.out] at hmk OZ
  have gZ : Hid (Below w.heap.size w (w.alloc (.cells Z.toArray 5))) := (Below.refl _ _).alloc (Nat.le_refl _) _
  have zZ : Hid (w.heap.size ≤ (w.alloc (.cells Z.toArray 5)).heap.size) := gZ.out.size
  obtain ⟨R0, hR⟩ : ∃ R, List.replicate 128 0 = R := ⟨_, rfl⟩
  rw [hR] at OZ hwhat hRb hRl hR0
  clear hg hR
  go_enter Tryd.func5, Tryd.ntmps5
  go_upto_region 2 with fail
  obtain ⟨WZ, hWZ⟩ : ∃ W, Hid (w.alloc (.cells Z.toArray 5) = W) := ⟨_, rfl⟩
  rw [hWZ.out] at OZ gZ zZ ⊢
  clear hmk hWZ
  go_wp2_with (at_builtin; refine wpList_app8s rfl _ _ rfl w.heap.size (.slice (some ⟨w.heap.size, 0, none⟩) 128 128) R0 [0, 64, 0, 0] 4 _ rfl rfl rfl OZ.out rfl hR0.out zZ.out ?_; intro x1 W1 hown1 hb1; obtain ⟨xa1, xn1, xc1, hx1⟩ : ∃ a n c, x1 = .slice a n c := (by obtain ⟨a, c, e⟩ := hown1.sk.shape; exact ⟨_, _, _, e⟩); subst hx1)
  have B1 : Hid (Below w.heap.size w W1) := gZ.out.trans hb1
  have k1 : Hid (Calls Tryd.prog 12 #[.slice xa1 xn1 xc1] W1 fun e w' => ∃ v', e = .returned v' ∧ Own8 W1.heap.size w' v' (sumB (R0 ++ [0, 64, 0, 0])) ∧ Below W1.heap.size W1 w') :=
    sum_own _ hRb.out (by rw [hRl.out]; omega) _ W1 (HG.out.grown B1.out) hown1.sk
  clear hown1 hb1 OZ gZ zZ
  refine k1.out.mono ?_
  rintro e W2 ⟨v2, rfl, ho2, g2⟩
  have B2 : Hid (Below w.heap.size w W2) := B1.out.trans (g2.mono B1.out.size)
  have hBl : Hid ((sumB (R0 ++ [0, 64, 0, 0])).length = 64) := sumB_length _
  have hBb : Hid (Bb (sumB (R0 ++ [0, 64, 0, 0]))) := sumB_bb _
  have S2 : Hid (SK .u8 W2 v2 (sumB (R0 ++ [0, 64, 0, 0]))) := ho2.sk
  obtain ⟨a2, c2, e2⟩ := ho2.sk.shape
  rw [hBl.out] at e2
  subst e2
  obtain ⟨B, hB⟩ : ∃ B, sumB (R0 ++ [0, 64, 0, 0]) = B := ⟨_, rfl⟩
  rw [hB] at hwhat hBl hBb S2
  clear ho2 g2 k1 B1 hB hRb hRl
  obtain ⟨b2, hb2⟩ : ∃ b, Hid (W2.heap.size = b) := ⟨_, rfl⟩
  have OE : Hid (Own8 b2 (W2.alloc (.cells #[] 5)) (.slice (some ⟨W2.heap.size, 0, none⟩) 0 0) []) := by unfold Hid; rw [← hb2.out]; exact own_empty W2
  have gE : Hid (Below b2 W2 (W2.alloc (.cells #[] 5))) := by unfold Hid; rw [← hb2.out]; exact (Below.refl _ _).alloc (Nat.le_refl _) _
  have SE : Hid (SK .u8 (W2.alloc (.cells #[] 5)) (.slice a2 64 c2) B) := S2.out.below (by rw [hb2.out]; exact gE.out)
  have zE : Hid (b2 ≤ (W2.alloc (.cells #[] 5)).heap.size) := by unfold Hid; rw [← hb2.out]; simp
  have hB1 : Hid (B.length ≤ 1000000) := by unfold Hid; rw [hBl.out]; omega
  have hB2 : Hid (B.length + 2 ≤ 1000000) := by unfold Hid; rw [hBl.out]; omega
  go_upto_region 3 with fail
  go_upto_region 4 with (first
    | (at_builtin; refine wpList_app8S rfl _ _ rfl b2 (.slice (some ⟨W2.heap.size, 0, none⟩) 0 0) [] B (.slice a2 64 c2) rfl OE.out rfl SE.out (by simp) hB1.out zE.out ?_; intro x3 W3 hown3 hb3; have O3 : Hid (Own8 b2 W3 x3 B) := (by unfold Hid; simpa using hown3); have F3 : Hid (Below b2 W2 W3) := gE.out.trans hb3; have Z3 : Hid (b2 ≤ W3.heap.size) := Nat.le_trans zE.out hb3.size; obtain ⟨xa3, xn3, xc3, hx3⟩ : ∃ a n c, x3 = .slice a n c := (by obtain ⟨a, c, e⟩ := O3.out.sk.shape; exact ⟨_, _, _, e⟩); subst hx3; clear hown3 hb3 OE)
    | (at_builtin; refine wpList_app8s rfl _ _ rfl b2 (.slice xa3 xn3 xc3) B [1, 0] 2 _ rfl rfl rfl O3.out rfl hB2.out Z3.out ?_; intro x4 W4 hown4 hb4; obtain ⟨xa4, xn4, xc4, hx4⟩ : ∃ a n c, x4 = .slice a n c := (by obtain ⟨a, c, e⟩ := hown4.sk.shape; exact ⟨_, _, _, e⟩); subst hx4))
  have F4 : Hid (Below b2 W2 W4) := F3.out.trans hb4
  have B4 : Hid (Below w.heap.size w W4) := B2.out.trans (F4.out.mono (by rw [← hb2.out]; exact B2.out.size))
  have k4 : Hid (Calls Tryd.prog 12 #[.slice xa4 xn4 xc4] W4 fun e w' => ∃ v', e = .returned v' ∧ Own8 W4.heap.size w' v' (sumB (B ++ [1, 0])) ∧ Below W4.heap.size W4 w') :=
    sum_own _ (hBb.out.app (by
      intro j
      match j with
      | 0 => decide
      | 1 => decide
      | k + 2 => exact (by decide : (0 : Nat) < 256))) (by rw [List.length_append, hBl.out]; simp) _ W4 (HG.out.grown B4.out) hown4.sk
  clear hown4 hb4 O3 F3 Z3 F4
  refine k4.out.mono ?_
  rintro e W5 ⟨v5, rfl, ho5, g5⟩
  rw [← hwhat.out] at ho5
  have B5 : Hid (Below w.heap.size w W5) := B4.out.trans (g5.mono B4.out.size)
  have S5 : Hid (SK .u8 W5 v5 (what [] [] 64)) := ho5.sk
  have hwl : Hid ((what [] [] 64).length = 64) := what_length [] [] 64
  obtain ⟨a5, c5, e5⟩ := ho5.sk.shape
  rw [hwl.out] at e5
  subst e5
  have kX : Hid (Calls Tryd.prog 6 #[.slice none 0 0, .slice none 0 0, .int .i64 64] W5 fun e w' => ∃ v, e = .returned (.tuple #[v, .int .i64 0]) ∧ Own8 W5.heap.size w' v (what [] [] 64) ∧ Below W5.heap.size W5 w') :=
    expand_own [] [] Bb.nil (by simp) Bb.nil (by simp) 64 (by omega) _ _ W5 (HG.out.grown B5.out) (SK.nil _ _) (SK.nil _ _)
  clear ho5 g5 k4 B4
  go_wp2_with fail
  refine kX.out.mono ?_
  rintro e W6 ⟨v6, rfl, ho6, g6⟩
  have B6 : Hid (Below w.heap.size w W6) := B5.out.trans (g6.mono B5.out.size)
  have S56 : Hid (SK .u8 W6 (.slice a5 64 c5) (what [] [] 64)) := S5.out.below g6
  obtain ⟨a6, c6, e6⟩ := ho6.sk.shape
  rw [hwl.out] at e6
  subst e6
  have k6 : Hid (Calls Tryd.prog 7 #[.slice a6 64 c6, .slice a5 64 c5] W6 fun e w' => e = .returned (.bool true) ∧ Below W6.heap.size W6 w') := same_sk (what [] [] 64) (by rw [hwl.out]; omega) _ _ W6 ho6.sk S56.out
  clear ho6 g6 kX S5 B5 S56
  go_wp2_with fail
  refine k6.out.mono ?_
  rintro e W7 ⟨rfl, g7⟩
  have B7 : Hid (Below w.heap.size w W7) := B6.out.trans (g7.mono B6.out.size)
  clear g7 k6
  go_wp2_with fail
  go_ret
  exact ⟨rfl, B7.out⟩
end Go.Proofs.YtkkhpjcfojgggaaDoor.Br.Ex
