/-
  The contract of nat's Cmp: the order of two naturals. Conditions: as the theorem says.
-/
import Derived.Test.YtdlocljnmaeikaaNatL
import Derived.Test.YtdlocljnmaeikaaRefG
namespace Go.Proofs.Ytdlocljnmaeikaa
open Go.RowKit Go.Shelf
set_option linter.unusedVariables false
attribute [local go_sem] Oper.semAt_some

theorem kpB_b {n₀ Bs : Nat} {w0 : World} (hn : n₀ ≤ w0.heap.size) (hB : Bs < w0.heap.size) (W : World) (l : Nat) (o o' : Obj) (hl : w0.heap.size ≤ l) (h : W.heap[l]? = some o) (hc : o.isCells = false) (hk : o.isWalk = false) : KpB n₀ Bs W (W.putObj l o') :=
  ⟨belowK_b hn W l o o' hl h hc hk, World.cell?_of_block (World.putObj_heap_other (show Bs ≠ l by omega))⟩

theorem cmpW_lt (la lb : List Nat) (hl : la.length = lb.length) (hwa : Ww la) (k : Nat) (h : ∀ j, k + 1 ≤ j → la.getD j 0 = lb.getD j 0) (hk : la.getD k 0 < lb.getD k 0) : valW la < valW lb := by
  rw [valW_split la (k + 1), valW_split lb (k + 1), drop_eq_of la lb hl (k + 1) h, valW_take, valW_take]
  have h1 := valW_take_lt la hwa k
  have h2 : 18446744073709551616 ^ k * (la.getD k 0 + 1) ≤ 18446744073709551616 ^ k * lb.getD k 0 := Nat.mul_le_mul_left _ (by omega)
  rw [Nat.mul_add, Nat.mul_one] at h2
  omega
theorem ordW (la lb : List Nat) (hl : la.length = lb.length) (hwa : Ww la) (hwb : Ww lb) (k : Nat) (h : ∀ j, k + 1 ≤ j → la.getD j 0 = lb.getD j 0) (hk : la.getD k 0 ≠ lb.getD k 0) : ord (valW la : Int) (valW lb : Int) = ord (la.getD k 0 : Int) (lb.getD k 0 : Int) := by
  rcases Nat.lt_or_gt_of_ne hk with h1 | h1
  · have := cmpW_lt la lb hl hwa k h h1
    rw [ord_lt (by omega), ord_lt (by omega)]
  · have := cmpW_lt lb la hl.symm hwb k (fun j hj => (h j hj).symm) h1
    rw [ord_gt (by omega), ord_gt (by omega)]
/-- Lists whose first k pairs from above agree. -/
theorem agree_of (ua ub : List Nat) (k : Nat) (hk : k ≤ ua.length) (hl : ua.length = ub.length) (h : ∀ p ∈ pairsB ua k, p.2 = ub.getD p.1 0) : ∀ j, ua.length - k ≤ j → ua.getD j 0 = ub.getD j 0 := by
  intro j hj
  by_cases hj2 : j < ua.length
  · have := h (j, ua.getD j 0) (by
      unfold pairsB
      rw [List.mem_map]
      refine ⟨ua.length - 1 - j, by rw [List.mem_range]; omega, ?_⟩
      rw [show ua.length - 1 - (ua.length - 1 - j) = j by omega])
    exact this
  · rw [getD_ge _ _ (by omega), getD_ge _ _ (by omega)]
theorem list_eq_of (l m : List Nat) (hl : l.length = m.length) (h : ∀ j, l.getD j 0 = m.getD j 0) : l = m := by
  apply List.ext_getElem?
  intro j
  by_cases hj : j < l.length
  · have := h j
    rw [List.getD_eq_getElem?_getD, List.getD_eq_getElem?_getD] at this
    rw [List.getElem?_eq_getElem hj, List.getElem?_eq_getElem (show j < m.length by omega)] at this ⊢
    simpa using this
  · rw [List.getElem?_eq_none (by omega), List.getElem?_eq_none (by omega)]
theorem lenW_lt (la lb : List Nat) (hwa : Ww la) (hz : Nzw lb) (h : la.length < lb.length) : valW la < valW lb := by
  have h1 := valW_lt la hwa
  rcases hz with e | e
  · rw [e] at h; simp at h
  · have ht := valW_take lb (lb.length - 1)
    rw [show lb.length - 1 + 1 = lb.length by omega, List.take_length] at ht
    have hp : 18446744073709551616 ^ la.length ≤ 18446744073709551616 ^ (lb.length - 1) := Nat.pow_le_pow_right (by omega) (by omega)
    have hm : 18446744073709551616 ^ (lb.length - 1) * 1 ≤ 18446744073709551616 ^ (lb.length - 1) * lb.getD (lb.length - 1) 0 := Nat.mul_le_mul_left _ (by omega)
    generalize 18446744073709551616 ^ (lb.length - 1) = P at *
    omega

set_option maxRecDepth 100000 in
set_option maxHeartbeats 4000000 in
theorem cmpN_same (la lb ua ub : List Nat) (a b : Option Addr) (ca cb : Nat) (w : World) (ha : SK .u64 w (.slice a la.length ca) la) (hb : SK .u64 w (.slice b lb.length cb) lb) (hla : la.length ≤ 1000000) (hlb : lb.length ≤ 1000000)
    (hua : ua = cutL la) (hub : ub = cutL lb) (hwa : Ww ua) (hwb : Ww ub) (Sa : SK .u64 w (.slice a ua.length ua.length) ua) (Sb : SK .u64 w (.slice b ub.length ub.length) ub) (he : ub.length = ua.length) :
    Calls Try.prog 17 #[.slice a la.length ca, .slice b lb.length cb] w fun e w' => e = .returned (.int .i64 (ord (valW ua : Int) (valW ub : Int))) ∧ Below w.heap.size w w' := by
  obtain ⟨W1, hW1⟩ : ∃ W1, Hid (((w.alloc (.cells #[.slice b lb.length cb] 22)).alloc (.cells #[.int .i64 0] 3)).drew = W1) := ⟨_, rfl⟩
  have b1 : Below w.heap.size w W1 := by rw [← hW1.out]; exact (((Below.refl _ w).alloc (Nat.le_refl _) _).alloc (by simp) _).drew
  have cA : Hid (CallsIn Fence.wide 4 Try.prog 39 #[.slice a la.length ca] W1 fun e w' => e = .returned (.slice a ua.length ua.length) ∧ w' = W1) := by rw [hua]; exact callsIn_wide.2 (cut_det la a ca W1 (ha.below b1) hla)
  have cB : Hid (CallsIn Fence.wide 4 Try.prog 39 #[.slice b lb.length cb] W1 fun e w' => e = .returned (.slice b ua.length ua.length) ∧ w' = W1) := by rw [← he, hub]; exact callsIn_wide.2 (cut_det lb b cb W1 (hb.below b1) hlb)
  rw [← hW1.out] at cA cB
  have hul : ua.length ≤ 1000000 := by rw [hua, cutL_length]; have := cutN_le la la.length; omega
  obtain ⟨B0, hB0⟩ : ∃ B0, Hid ((((w.alloc (.cells #[.slice b ua.length ua.length] 22)).alloc (.cells #[.int .i64 0] 3)).alloc (.cells #[.slice a ua.length ua.length] 22)).drew = B0) := ⟨_, rfl⟩
  have HSz : Hid (B0.heap.size = w.heap.size + 3) := by unfold Hid; rw [← hB0.out]; simp
  have HBel : Hid (Below w.heap.size w B0) := by unfold Hid; rw [← hB0.out]; exact ((((Below.refl _ w).alloc (Nat.le_refl _) _).alloc (by simp) _).alloc (by simp; omega) _).drew
  have HC1 : Hid (B0.cell? ⟨w.heap.size, 0, none⟩ = some (.slice b ua.length ua.length)) := by unfold Hid; rw [← hB0.out]; simp [go_sem, World.cell?_alloc_past]
  have HC2 : Hid (B0.cell? ⟨w.heap.size + 1, 0, none⟩ = some (.int .i64 0)) := by unfold Hid; rw [← hB0.out]; simp [go_sem, World.cell?_alloc_past]
  have HC3 : Hid (B0.cell? ⟨w.heap.size + 1 + 1, 0, none⟩ = some (.slice a ua.length ua.length)) := by unfold Hid; rw [← hB0.out]; simp [go_sem]
  have HF2 : Hid (B0.frozen? ⟨w.heap.size + 1, 0, none⟩ = false) := by unfold Hid; rw [← hB0.out]; simp [go_sem]
  have HSa : Hid (∀ j, j < ua.length → ∃ bb o, a = some ⟨bb, o, none⟩ ∧ bb < w.heap.size ∧ w.cell? ⟨bb, o + j, none⟩ = some (.int .u64 (ua.getD j 0 : Int))) := by
    obtain ⟨a', c', e, -, -, h⟩ := Sa
    simp only [Value.slice.injEq] at e
    obtain ⟨rfl, -, -⟩ := e
    exact h
  have HSb : Hid (∀ j, j < ua.length → ∃ bb o, b = some ⟨bb, o, none⟩ ∧ bb < w.heap.size ∧ w.cell? ⟨bb, o + j, none⟩ = some (.int .u64 (ub.getD j 0 : Int))) := by
    obtain ⟨a', c', e, -, -, h⟩ := Sb
    simp only [Value.slice.injEq] at e
    obtain ⟨rfl, -, -⟩ := e
    rw [he] at h
    exact h
  have Hwa : Hid (Ww ua) := hwa
  have Hwb : Hid (Ww ub) := hwb
  have He : Hid (ub.length = ua.length) := he
  obtain ⟨R, hR⟩ : ∃ R, Hid (ord (valW ua : Int) (valW ub : Int) = R) := ⟨_, rfl⟩
  rw [hR.out]
  clear ha hb Sa Sb hwa hwb he hua hub b1
  refine (callsIn_wide (n := 5)).1 ?_
  refine callsIn_of_wp_marks Try.func17 rfl trivial ?_ rfl
  simp only [Try.ntmps17, List.size_toArray, List.length_cons, List.length_nil, Nat.reduceAdd, Nat.reduceSub, Array.replicate_succ, Array.replicate_zero, List.push_toArray, List.append_toArray, List.nil_append, List.cons_append]
  have hmx : Try.prog.follows .mixedOrders = true := by kernel_rfl
  gi_wp2_with fail
  first
  | gi_region_with_o (first
    | (refine ⟨trivial, ?_⟩; (with_reducible refine cA.out.mono ?_); rintro e w' ⟨rfl, hw'⟩; rw [hw']; clear hw' w')
    | (refine ⟨trivial, ?_⟩; (with_reducible refine cB.out.mono ?_); rintro e w' ⟨rfl, hw'⟩; rw [hw']; clear hw' w'))
  | fail
  all_goals
    clear cA cB hW1 W1
    gi_wp2_with (refine ⟨trivial, ?_⟩; gi_at_call 42; refine (back_in Fence.wide _ trivial rfl _ _ _ _).mono ?_; rintro e w' ⟨rfl, hw'⟩; rw [hw']; clear hw' w')
    rw [hB0.out]
    refine wpIn_rangeFunc_ownF (w := B0) rfl (by omega) (gf := 57) (lb := #[.pointer (some ⟨w.heap.size + 1 + 1, 0, none⟩)]) rfl trivial (enters_of Try.func57 (by kernel_rfl) rfl)
      (back_stops Fence.wide _ trivial rfl (by omega) (w.heap.size + 1 + 1) w.heap.size ua.length a ua Hwa.out hul B0 (by rw [HSz.out]; omega) (by rw [HSz.out]; omega) HC3.out (fun j hj => by
        obtain ⟨bb, o, e, h1, h2⟩ := HSa.out j hj
        exact ⟨bb, o, e, h1, (HBel.out.cell (p := ⟨bb, o + j, none⟩) h1).trans h2⟩))
      (fun h h' => h.trans h') (kpB_b (by rw [HSz.out]; omega) (by rw [HSz.out]; omega)) (Below.refl _ _) (fun _ => rfl)
      (fun pre W => ((∀ p ∈ pre, p.1.2 = ub.getD p.1.1 0) ∧ W.cell? ⟨w.heap.size, 0, none⟩ = some (.slice b ua.length ua.length) ∧ W.cell? ⟨w.heap.size + 1, 0, none⟩ = some (.int .i64 0) ∧ W.frozen? ⟨w.heap.size + 1, 0, none⟩ = false) ∧ Below w.heap.size w W)
      (fun c pre W => (c = .ret ∧ ∃ ini last, pre = ini ++ [last] ∧ (∀ p ∈ ini, p.1.2 = ub.getD p.1.1 0) ∧ last.1.2 ≠ ub.getD last.1.1 0 ∧ W.cell? ⟨w.heap.size + 1, 0, none⟩ = some (.int .i64 (ord (last.1.2 : Int) (ub.getD last.1.1 0 : Int)))) ∧ Below w.heap.size w W)
      (OwnFrom.and (_root_.Go.Own.from (fun s A B row hs hg hr => ⟨hs.1, cell_kept hs.2.1 hg hr, cell_kept hs.2.2.1 hg hr, (frozen_kept hs.2.2.1 hg hr).trans hs.2.2.2⟩) _) (ownFrom_below (Nat.le_refl _) (by rw [HSz.out]; omega)))
      (fun c => OwnFrom.and (_root_.Go.Own.from (fun s A B row hs hg hr => by obtain ⟨hc, ini, last, e1, e2, e3, e4⟩ := hs; exact ⟨hc, ini, last, e1, e2, e3, cell_kept e4 hg hr⟩) _) (ownFrom_below (Nat.le_refl _) (by rw [HSz.out]; omega)))
      ⟨⟨by simp, HC1.out, HC2.out, HF2.out⟩, HBel.out⟩
      (fun x => { tmps := #[.slice a ua.length ua.length, .slice b lb.length cb, undef, .pointer (some ⟨w.heap.size, 0, none⟩), .pointer (some ⟨w.heap.size + 1, 0, none⟩), .int .i64 (x.1.1 : Int), .int .u64 (x.1.2 : Int), .slice a la.length ca,
        .slice a ua.length ua.length, .slice b lb.length cb, .slice b ua.length ua.length, .slice a ua.length ua.length, .int .i64 (ua.length : Int), .slice b ua.length ua.length, .int .i64 (ua.length : Int), .bool false, undef, undef, undef, undef, undef, .slice a ua.length ua.length,
        .func (.func 57) #[] #[.pointer (some ⟨w.heap.size + 1 + 1, 0, none⟩)], .int .i64 (x.1.1 : Int), .int .u64 (x.1.2 : Int), undef, undef, undef, undef, undef, undef, undef, undef, undef, undef, undef, undef], defers := [] }) ?assign ?body ?done ?stop
    case assign =>
      intro l x W K hK
      gi_wp2
      exact hK
    case body =>
      rintro l pre ⟨⟨i, z⟩, hi, hz⟩ W ⟨⟨hp, hcb, hcr, hfr⟩, hB⟩ _
      dsimp only at hi hz ⊢
      obtain ⟨bb, o, rfl, hbb, hcell⟩ := HSb.out i hi
      obtain ⟨y, hy⟩ : ∃ y, Hid (ub.getD i 0 = y) := ⟨_, rfl⟩
      rw [hy.out] at hcell
      have hy1 : y < 18446744073709551616 := by rw [← hy.out]; exact Hwb.out i
      have hcy : W.cell? ⟨bb, o + i, none⟩ = some (.int .u64 (y : Int)) := (hB.cell (p := ⟨bb, o + i, none⟩) hbb).trans hcell
      have hi' : (i : Int) < ua.length := by omega
      have Hp : Hid (∀ p ∈ pre, p.1.2 = ub.getD p.1.1 0) := hp
      have HB' : Hid (Below w.heap.size w W) := hB
      clear hcell hp hB HC1 HC2 HC3 HF2 HBel hB0
      by_cases hzy : z = y
      · have hne : ((z : Int) != (y : Int)) = false := by rw [hzy]; simp
        gi_wp2
        refine ⟨KeepsOthers.refl _, KpB.refl _ _ _, ⟨fun p hp' => (List.mem_append.1 hp').elim (Hp.out p) (fun e => ?_), hcb, hcr, hfr⟩, HB'.out⟩
        simp only [List.mem_singleton] at e
        subst e
        dsimp only
        rw [hy.out, hzy]
      · have hne : ((z : Int) != (y : Int)) = true := by rw [bne_iff_ne]; omega
        gi_wp2_with (refine ⟨trivial, ?_⟩; gi_at_call 43; refine (CallsIn.inRound l (callsIn_wide.2 (compare_any (z : Int) (y : Int) ⟨by omega, by omega⟩ ⟨by omega, by omega⟩ _))).mono ?_; rintro e w' ⟨rfl, hw'⟩; rw [hw']; clear hw' w')
        exact ⟨KeepsOthers.setCell _ _ _, ⟨rfl, pre, ⟨(i, z), hi, hz⟩, rfl, Hp.out, by dsimp only; rw [hy.out]; exact hzy, by dsimp only; rw [hy.out]; exact World.cell?_setCell_same' _ _ _ (by rw [hcr]; rfl)⟩, HB'.out.setCell (p := ⟨w.heap.size + 1, 0, none⟩) (by simp) _⟩
    case done =>
      rintro D ys W hD hys ⟨⟨hne, hcb, hcr, hfr⟩, hB⟩ hK
      have hR0 : R = 0 := by
        rw [← hR.out]
        refine ord_eq ?_
        have hag := agree_of ua ub ua.length (Nat.le_refl _) He.out.symm (fun p hp => by
          rw [← hys, List.mem_map] at hp
          obtain ⟨q, hq, rfl⟩ := hp
          exact hne q hq)
        rw [list_eq_of ua ub He.out.symm (fun j => hag j (by omega))]
      subst hR0
      have hD' : w.heap.size + 3 ≤ D := by rw [← HSz.out]; exact hD
      clear hne hys HC1 HC2 HC3 HF2 HBel hB0 hcb
      gi_wp2
      have hK' := (KeepsOthers.setCell W ⟨w.heap.size + 1, 0, none⟩ (.int .i64 0)).same D _ hK rfl
      refine ⟨by simp, .inl ⟨_, _, rfl, run_takeDeferred hK', ?_⟩⟩
      have hc5 := cell_kept (World.cell?_setCell_same' W ⟨w.heap.size + 1, 0, none⟩ (.int .i64 0) (by rw [hcr]; rfl)) (grownBy_putObj' _ D (.deferred none)) (fun r e => by cases e; exact ⟨_, hK', rfl⟩)
      refine ⟨.int .i64 0, ?_, rfl, (hB.setCell (p := ⟨w.heap.size + 1, 0, none⟩) (by simp) _).trans (belowK_b (w := w) (Nat.le_refl _) _ D _ _ (by omega) hK' rfl rfl)⟩
      simp [results, Try.f17, go_sem, hc5]
    case stop =>
      rintro D c pre W hD ⟨k, hk, hpre⟩ ⟨⟨rfl, ini, last, e1, e2, e3, hcr⟩, hB⟩ hK
      have hR0 : R = ord (last.1.2 : Int) (ub.getD last.1.1 0 : Int) := by
        rw [← hR.out]
        subst e1
        obtain ⟨k', rfl⟩ : ∃ k', k = k' + 1 := by
          cases k with
          | zero => simp [pairsB] at hpre
          | succ k' => exact ⟨k', rfl⟩
        rw [List.map_append, pairsB_succ] at hpre
        obtain ⟨e4, e5⟩ := List.append_inj' hpre rfl
        simp only [List.map_cons, List.map_nil, List.cons.injEq, and_true] at e5
        have hag := agree_of ua ub k' (by omega) He.out.symm (fun p hp => by
          rw [← e4, List.mem_map] at hp
          obtain ⟨q, hq, rfl⟩ := hp
          exact e2 q hq)
        rw [e5] at e3 ⊢
        dsimp only at e3 ⊢
        exact ordW ua ub He.out.symm Hwa.out Hwb.out (ua.length - 1 - k') (fun j hj => hag j (by omega)) e3
      rw [← hR0] at hcr
      have hD' : w.heap.size + 3 ≤ D := by rw [← HSz.out]; exact hD
      clear hpre e1 e2 e3 hR0 HC1 HC2 HC3 HF2 HBel hB0
      gi_wp2
      refine ⟨by simp, .inl ⟨_, _, rfl, run_takeDeferred hK, ?_⟩⟩
      have hc5 := cell_kept hcr (grownBy_putObj' _ D (.deferred none)) (fun r e => by cases e; exact ⟨_, hK, rfl⟩)
      refine ⟨.int .i64 R, ?_, rfl, hB.trans (belowK_b (w := w) (Nat.le_refl _) W D _ _ (by omega) hK rfl rfl)⟩
      simp [results, Try.f17, go_sem, hc5]

end Go.Proofs.Ytdlocljnmaeikaa
