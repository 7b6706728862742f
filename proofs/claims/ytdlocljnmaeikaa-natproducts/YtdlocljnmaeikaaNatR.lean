/-
  The contract of nat's DivWord: quotient and rest by a word, or why there are none. Conditions: as each theorem says.
-/
import Derived.Test.YtdlocljnmaeikaaNatQ
namespace Go.Proofs.Ytdlocljnmaeikaa
open Go.RowKit Go.Shelf
set_option linter.unusedVariables false
attribute [local go_sem] Oper.semAt_some

set_option maxHeartbeats 1000000 in
theorem divWord_zero (la : List Nat) (va : Value) (w : World) (ha : SK .u64 w va la) :
    Calls Try.prog 21 #[va, .int .u64 0] w fun e w' => e = .returned (.tuple #[.slice none 0 0, .int .u64 0, .int .i64 4]) ∧ Below w.heap.size w w' := by
  obtain ⟨a, ca, rfl⟩ := ha.shape
  clear ha
  refine (callsIn_wide (n := 5)).1 ?_
  refine callsIn_of_wp_marks Try.func21 rfl trivial ?_ rfl
  simp only [Try.ntmps21, List.size_toArray, List.length_cons, List.length_nil, Nat.reduceAdd, Nat.reduceSub, Array.replicate_succ, Array.replicate_zero, List.push_toArray, List.append_toArray, List.nil_append, List.cons_append]
  gi_wp2
  refine ⟨.tuple #[.slice none 0 0, .int .u64 0, .int .i64 4], ?_, rfl, (Below.refl _ w).alloc (Nat.le_refl _) _⟩
  simp [results, Try.f21, go_sem]

set_option maxRecDepth 100000 in
set_option maxHeartbeats 4000000 in
theorem divWord_any (la : List Nat) (va : Value) (m : Nat) (w : World) (ha : SK .u64 w va la) (hwa : Ww la) (hla : la.length ≤ 1000000) (hm0 : 0 < m) (hm : m < 18446744073709551616) :
    Calls Try.prog 21 #[va, .int .u64 (m : Int)] w fun e w' => ∃ v, e = .returned (.tuple #[v, .int .u64 ((valW la % m : Nat) : Int), .int .i64 0]) ∧ Can w' v (valW la / m) ∧ Below w.heap.size w w' := by
  have HSa0 := ha
  obtain ⟨a, ca, rfl⟩ := ha.shape
  have HSa : Hid (∀ j, j < la.length → ∃ bb o, a = some ⟨bb, o, none⟩ ∧ bb < w.heap.size ∧ w.cell? ⟨bb, o + j, none⟩ = some (.int .u64 (la.getD j 0 : Int))) := by
    obtain ⟨a', c', e, -, -, h⟩ := ha
    simp only [Value.slice.injEq] at e
    obtain ⟨rfl, -, -⟩ := e
    exact h
  have Hwa : Hid (Ww la) := hwa
  have hm1 : ((m : Int) == 0) = false := beq_eq_false_iff_ne.2 (by omega)
  have hla' : (la.length : Int) ≤ 1000000 := by omega
  have hmk := fun w => make_words la.length (by omega) w
  clear ha HSa0 hwa
  obtain ⟨B0, hB0⟩ : ∃ B0, Hid (((((w.alloc (.cells #[.int .u64 (m : Int)] 37)).alloc (.cells (madeCells #[.int .u64 0] la.length) 37)).alloc (.cells #[.slice (some ⟨w.heap.size + 1, 0, none⟩) la.length la.length] 22)).alloc (.cells #[.int .u64 0] 37)).alloc (.cells #[.slice a la.length ca] 22) = B0) := ⟨_, rfl⟩
  have HSz : Hid (B0.heap.size = w.heap.size + 5) := by unfold Hid; rw [← hB0.out]; simp
  have HBel : Hid (Below w.heap.size w B0) := by
    unfold Hid; rw [← hB0.out]
    exact (((((Below.refl _ w).alloc (Nat.le_refl _) _).alloc (by simp) _).alloc (by simp; omega) _).alloc (by simp; omega) _).alloc (by simp; omega) _
  have HC0 : Hid (B0.cell? ⟨w.heap.size, 0, none⟩ = some (.int .u64 (m : Int))) := by unfold Hid; rw [← hB0.out]; simp [go_sem, World.cell?_alloc_past]
  have HR1 : Hid (RowC (w.heap.size + 1) (List.replicate la.length 0) B0) := by
    unfold Hid; rw [← hB0.out]
    have h := ((((Row.made (k := .u64) (w.alloc (.cells #[.int .u64 (m : Int)] 37)) la.length 37).alloc (.cells #[.slice (some ⟨w.heap.size + 1, 0, none⟩) la.length la.length] 22)).alloc (.cells #[.int .u64 0] 37)).alloc (.cells #[.slice a la.length ca] 22)).rowC
    rw [World.size_alloc] at h
    exact h
  have HC2 : Hid (B0.cell? ⟨w.heap.size + 1 + 1, 0, none⟩ = some (.slice (some ⟨w.heap.size + 1, 0, none⟩) la.length la.length)) := by unfold Hid; rw [← hB0.out]; simp [go_sem, World.cell?_alloc_past]
  have HC3 : Hid (B0.cell? ⟨w.heap.size + 1 + 1 + 1, 0, none⟩ = some (.int .u64 0)) := by unfold Hid; rw [← hB0.out]; simp [go_sem, World.cell?_alloc_past]
  have HF3 : Hid (B0.frozen? ⟨w.heap.size + 1 + 1 + 1, 0, none⟩ = false) := by unfold Hid; rw [← hB0.out]; simp [go_sem]
  have HC4 : Hid (B0.cell? ⟨w.heap.size + 1 + 1 + 1 + 1, 0, none⟩ = some (.slice a la.length ca)) := by unfold Hid; rw [← hB0.out]; simp [go_sem]
  obtain ⟨Qv, hQv⟩ : ∃ Qv, Hid (valW la / m = Qv) := ⟨_, rfl⟩
  obtain ⟨Rv, hRv⟩ : ∃ Rv, Hid (valW la % m = Rv) := ⟨_, rfl⟩
  rw [hQv.out, hRv.out]
  refine (callsIn_wide (n := 5)).1 ?_
  refine callsIn_of_wp_marks Try.func21 rfl trivial ?_ rfl
  simp only [Try.ntmps21, List.size_toArray, List.length_cons, List.length_nil, Nat.reduceAdd, Nat.reduceSub, Array.replicate_succ, Array.replicate_zero, List.push_toArray, List.append_toArray, List.nil_append, List.cons_append]
  have hmx : Try.prog.follows .mixedOrders = true := by kernel_rfl
  gi_wp2_with (refine ⟨trivial, ?_⟩; gi_at_call 42; refine (back_in Fence.wide _ trivial rfl _ _ _ _).mono ?_; rintro e w' ⟨rfl, hw'⟩; rw [hw']; clear hw' w')
  rw [hB0.out]
  clear hmk
  refine wpIn_rangeFunc_ownF (w := B0) rfl (by omega) (gf := 57) (lb := #[.pointer (some ⟨w.heap.size + 1 + 1 + 1 + 1, 0, none⟩)]) rfl trivial (enters_of Try.func57 (by kernel_rfl) rfl)
    (back_stops Fence.wide _ trivial rfl (by omega) (w.heap.size + 1 + 1 + 1 + 1) w.heap.size ca a la Hwa.out hla B0 (by rw [HSz.out]; omega) (by rw [HSz.out]; omega) HC4.out (fun j hj => by
      obtain ⟨bb, o, e, h1, h2⟩ := HSa.out j hj
      exact ⟨bb, o, e, h1, (HBel.out.cell (p := ⟨bb, o + j, none⟩) h1).trans h2⟩))
    (fun h h' => h.trans h') (kpB_b (by rw [HSz.out]; omega) (by rw [HSz.out]; omega)) (Below.refl _ _) (fun _ => rfl)
    (fun pre W => (RowC (w.heap.size + 1) (stQ la.length m (pre.map (·.1))).1 W ∧ W.cell? ⟨w.heap.size, 0, none⟩ = some (.int .u64 (m : Int)) ∧ W.cell? ⟨w.heap.size + 1 + 1, 0, none⟩ = some (.slice (some ⟨w.heap.size + 1, 0, none⟩) la.length la.length) ∧
      W.cell? ⟨w.heap.size + 1 + 1 + 1, 0, none⟩ = some (.int .u64 ((stQ la.length m (pre.map (·.1))).2 : Int)) ∧ W.frozen? ⟨w.heap.size + 1 + 1 + 1, 0, none⟩ = false) ∧ Below w.heap.size w W)
    (fun _ _ _ => False)
    (OwnFrom.and (_root_.Go.Own.from (fun s A B row hs hg hr => ⟨hs.1.kept hg hr, cell_kept hs.2.1 hg hr, cell_kept hs.2.2.1 hg hr, cell_kept hs.2.2.2.1 hg hr, (frozen_kept hs.2.2.2.1 hg hr).trans hs.2.2.2.2⟩) _) (ownFrom_below (Nat.le_refl _) (by rw [HSz.out]; omega)))
    (fun _ _ _ _ _ hs _ _ => hs)
    ⟨⟨HR1.out, HC0.out, HC2.out, HC3.out, HF3.out⟩, HBel.out⟩
    (fun x => { tmps := #[.slice a la.length ca, .int .u64 (m : Int), undef, .pointer (some ⟨w.heap.size, 0, none⟩), .slice none 0 0, .int .u64 0, .int .i64 0, .pointer (some ⟨w.heap.size + 1 + 1, 0, none⟩), .pointer (some ⟨w.heap.size + 1 + 1 + 1, 0, none⟩),
      .int .i64 (x.1.1 : Int), .int .u64 (x.1.2 : Int), .int .u64 (m : Int), .bool false, .slice a la.length ca, .int .i64 (la.length : Int), .slice (some ⟨w.heap.size + 1, 0, none⟩) la.length la.length, .slice a la.length ca,
      .func (.func 57) #[] #[.pointer (some ⟨w.heap.size + 1 + 1 + 1 + 1, 0, none⟩)], .int .i64 (x.1.1 : Int), .int .u64 (x.1.2 : Int), undef, undef, undef, undef, undef, undef, undef, undef, undef, undef, undef, undef, undef], defers := [] }) ?assign ?body ?done ?stop
  case assign =>
    intro l x W K hK
    gi_wp2
    exact hK
  case body =>
    rintro l pre ⟨⟨i, z⟩, hi, hz⟩ W ⟨⟨hrow, hc0, hc2, hc3, hf3⟩, hB⟩ _
    dsimp only at hi hz ⊢
    have hol := stQ_length la.length m (pre.map (·.1))
    have hlm := stQ_lt la.length m hm0 (pre.map (·.1))
    have hsn := stQ_snoc la.length m (pre.map (·.1)) (i, z)
    obtain ⟨o, hO⟩ : ∃ o, (stQ la.length m (pre.map (·.1))).1 = o := ⟨_, rfl⟩
    obtain ⟨f, hF⟩ : ∃ f, (stQ la.length m (pre.map (·.1))).2 = f := ⟨_, rfl⟩
    unfold stepQ at hsn
    rw [hO, hF] at hsn
    rw [hO] at hol hrow
    rw [hF] at hlm hc3
    dsimp only at hsn
    have cD : Hid (∀ W, Calls Try.prog 46 #[.int .u64 (f : Int), .int .u64 (z : Int), .int .u64 (m : Int)] W fun e w' => e = .returned (.tuple #[.int .u64 (((f * 18446744073709551616 + z) / m : Nat) : Int), .int .u64 (((f * 18446744073709551616 + z) % m : Nat) : Int)]) ∧ ∃ n, w' = W.drewN n) := fun W => div64_any f z m W hz hm hlm
    obtain ⟨q, hq⟩ : ∃ q, (f * 18446744073709551616 + z) / m = q := ⟨_, rfl⟩
    obtain ⟨r, hr⟩ : ∃ r, (f * 18446744073709551616 + z) % m = r := ⟨_, rfl⟩
    rw [hq, hr] at hsn
    rw [hq, hr] at cD
    have Hsn : Hid (stQ la.length m (pre.map (·.1) ++ [(i, z)]) = (o.set i q, r)) := hsn
    have hi' : (i : Int) < la.length := by omega
    have co := hrow.cell i (by omega)
    have fo := hrow.free i (by omega)
    obtain ⟨y, hy⟩ : ∃ y, Hid (o.getD i 0 = y) := ⟨_, rfl⟩
    rw [hy.out] at co
    have Hrow : Hid (RowC (w.heap.size + 1) o W) := hrow
    have HB' : Hid (Below w.heap.size w W) := hB
    have Hol : Hid (o.length = la.length) := hol
    clear hrow hB hsn hO hF hq hr HC0 HR1 HC2 HC3 HF3 HC4 HBel hB0 hol
    have fin : ∀ k, KeepsOthers W (((W.drewN (1 + k)).setCell ⟨w.heap.size + 1, i, none⟩ (.int .u64 (q : Int))).setCell ⟨w.heap.size + 1 + 1 + 1, 0, none⟩ (.int .u64 (r : Int))) ∧
        KpB w.heap.size (w.heap.size + 1 + 1 + 1 + 1) W (((W.drewN (1 + k)).setCell ⟨w.heap.size + 1, i, none⟩ (.int .u64 (q : Int))).setCell ⟨w.heap.size + 1 + 1 + 1, 0, none⟩ (.int .u64 (r : Int))) ∧
        ((RowC (w.heap.size + 1) (stQ la.length m ((pre ++ [(⟨(i, z), hi, hz⟩ : PW la.length)]).map (·.1))).1 (((W.drewN (1 + k)).setCell ⟨w.heap.size + 1, i, none⟩ (.int .u64 (q : Int))).setCell ⟨w.heap.size + 1 + 1 + 1, 0, none⟩ (.int .u64 (r : Int))) ∧
          (((W.drewN (1 + k)).setCell ⟨w.heap.size + 1, i, none⟩ (.int .u64 (q : Int))).setCell ⟨w.heap.size + 1 + 1 + 1, 0, none⟩ (.int .u64 (r : Int))).cell? ⟨w.heap.size, 0, none⟩ = some (.int .u64 (m : Int)) ∧
          (((W.drewN (1 + k)).setCell ⟨w.heap.size + 1, i, none⟩ (.int .u64 (q : Int))).setCell ⟨w.heap.size + 1 + 1 + 1, 0, none⟩ (.int .u64 (r : Int))).cell? ⟨w.heap.size + 1 + 1, 0, none⟩ = some (.slice (some ⟨w.heap.size + 1, 0, none⟩) la.length la.length) ∧
          (((W.drewN (1 + k)).setCell ⟨w.heap.size + 1, i, none⟩ (.int .u64 (q : Int))).setCell ⟨w.heap.size + 1 + 1 + 1, 0, none⟩ (.int .u64 (r : Int))).cell? ⟨w.heap.size + 1 + 1 + 1, 0, none⟩ = some (.int .u64 ((stQ la.length m ((pre ++ [(⟨(i, z), hi, hz⟩ : PW la.length)]).map (·.1))).2 : Int)) ∧
          (((W.drewN (1 + k)).setCell ⟨w.heap.size + 1, i, none⟩ (.int .u64 (q : Int))).setCell ⟨w.heap.size + 1 + 1 + 1, 0, none⟩ (.int .u64 (r : Int))).frozen? ⟨w.heap.size + 1 + 1 + 1, 0, none⟩ = false) ∧
          Below w.heap.size w (((W.drewN (1 + k)).setCell ⟨w.heap.size + 1, i, none⟩ (.int .u64 (q : Int))).setCell ⟨w.heap.size + 1 + 1 + 1, 0, none⟩ (.int .u64 (r : Int)))) := by
      intro k
      have e : stQ la.length m ((pre ++ [(⟨(i, z), hi, hz⟩ : PW la.length)]).map (·.1)) = (o.set i q, r) := by rw [List.map_append]; exact Hsn.out
      rw [e]
      dsimp only
      have far : ∀ (b j : Nat) (v1 v2 : Value), b ≠ w.heap.size + 1 → b ≠ w.heap.size + 1 + 1 + 1 → (((W.drewN (1 + k)).setCell ⟨w.heap.size + 1, i, none⟩ v1).setCell ⟨w.heap.size + 1 + 1 + 1, 0, none⟩ v2).cell? ⟨b, j, none⟩ = W.cell? ⟨b, j, none⟩ := by
        intro b j v1 v2 h1 h2
        rw [World.cell?_setCell_other _ _ _ _ (fun q => h2 (by simpa using (congrArg Addr.block q).symm)), World.cell?_setCell_other _ _ _ _ (fun q => h1 (by simpa using (congrArg Addr.block q).symm))]
        rfl
      have hd : RowC (w.heap.size + 1) o (W.drewN (1 + k)) := ⟨Hrow.out.cell, Hrow.out.free, Hrow.out.lt⟩
      refine ⟨?_, ⟨?_, ?_⟩, ⟨?_, ?_, ?_, ?_, ?_⟩, ?_⟩
      · exact ((⟨Nat.le_refl _, fun _ _ h _ => h⟩ : KeepsOthers W (W.drewN (1 + k))).trans (KeepsOthers.setCell _ _ _)).trans (KeepsOthers.setCell _ _ _)
      · exact ((Joins_draws (Below.refl w.heap.size W) (1 + k)).setCell (p := ⟨w.heap.size + 1, i, none⟩) (by simp) _).setCell (p := ⟨w.heap.size + 1 + 1 + 1, 0, none⟩) (by simp; omega) _
      · exact far _ _ _ _ (by omega) (by omega)
      · exact (hd.set i q (by rw [Hol.out]; exact hi)).other _ _ _ (by omega)
      · rw [far _ _ _ _ (by omega) (by omega)]; exact hc0
      · rw [far _ _ _ _ (by omega) (by omega)]; exact hc2
      · refine World.cell?_setCell_same' _ _ _ ?_
        rw [World.cell?_setCell_other _ _ _ _ (fun q => by simpa using congrArg Addr.block q)]
        show (W.cell? ⟨w.heap.size + 1 + 1 + 1, 0, none⟩).isSome = true
        rw [hc3]; rfl
      · rw [World.frozen?_setCell, World.frozen?_setCell]; exact hf3
      · exact ((Joins_draws HB'.out (1 + k)).setCell (p := ⟨w.heap.size + 1, i, none⟩) (by simp) _).setCell (p := ⟨w.heap.size + 1 + 1 + 1, 0, none⟩) (by simp; omega) _
    have Fin : Hid _ := fin
    clear fin
    gi_wp2
    refine wpIn_region_round (by assumption) (nodefer_of (by simp)) ?_
    refine wpAnyIn_take (i := 1) (v := .int .i64 (i : Int)) rfl rfl (by kernel_rfl) (by kernel_rfl) (by kernel_rfl) (fun _ _ _ h => h) ⟨Or.inl ⟨by rfl, fun w => by go_simp⟩, fun _ => rfl⟩ ?_
    refine wpAnyIn_take (i := 3) (v := .int .u64 (z : Int)) rfl rfl (by kernel_rfl) (by kernel_rfl) (by kernel_rfl) (fun _ _ _ h => h) ⟨Or.inl ⟨by rfl, fun w => by go_simp⟩, fun _ => rfl⟩ ?_
    refine wpAnyIn_ready (rs := [0, 2, 4]) (by kernel_rfl) (by simp) ?_
    refine AllReadyIn.cons rfl (fun K hK => ?_) ?_
    · go_simp
      refine hK _ _ ?_
      clear hK K
      refine wpAnyIn_ready (rs := [2, 4]) (by kernel_rfl) (by simp) ?_
      refine AllReadyIn.cons rfl (fun K hK => ?_) ?_
      · go_simp
        refine hK _ _ ?_
        clear hK K
        refine wpAnyIn_ready (rs := [4]) (by kernel_rfl) (by simp) ?_
        refine AllReadyIn.cons rfl (fun K hK => ?_) ?_
        · go_simp
          refine hK _ _ ?_
          clear hK K
          refine wpAnyIn_ready (rs := [5]) (by kernel_rfl) (by simp) ?_
          refine AllReadyIn.cons rfl (fun K hK => ?_) ?_
          · go_simp
            gi_wp2_with (refine ⟨trivial, ?_⟩; gi_at_call 46; refine (callsIn_wide.2 (cD.out _)).mono ?_; rintro e w1 ⟨rfl, k, hw1⟩; rw [hw1]; clear hw1 w1)
            refine wpAnyIn_take (i := 6) (v := .tuple #[.int .u64 (q : Int), .int .u64 (r : Int)]) rfl rfl (by kernel_rfl) (by kernel_rfl) (by kernel_rfl) (fun _ _ _ h => h) ⟨Or.inl ⟨by rfl, fun w => by go_simp⟩, fun _ => rfl⟩ ?_
            refine wpAnyIn_take (i := 7) (v := .int .u64 (q : Int)) rfl rfl (by kernel_rfl) (by kernel_rfl) (by kernel_rfl) (fun _ _ _ h => h) ⟨Or.inl ⟨by rfl, fun w => by go_simp⟩, fun _ => rfl⟩ ?_
            refine wpAnyIn_take (i := 8) (v := .int .u64 (r : Int)) rfl rfl (by kernel_rfl) (by kernel_rfl) (by kernel_rfl) (fun _ _ _ h => h) ⟨Or.inl ⟨by rfl, fun w => by go_simp⟩, fun _ => rfl⟩ ?_
            refine wpAnyIn_take (i := 9) (v := .pointer (some ⟨w.heap.size + 1, i, none⟩)) rfl rfl (by kernel_rfl) (by kernel_rfl) (by kernel_rfl) (fun _ _ _ h => h) ⟨Or.inl ⟨by rfl, fun w => by go_simp⟩, fun _ => rfl⟩ ?_
            refine wpAnyIn_ready (rs := [10]) (by kernel_rfl) (by simp) ?_
            refine AllReadyIn.cons rfl (fun K hK => ?_) ?_
            · go_simp
              refine hK _ _ ?_
              clear hK K
              refine wpAnyIn_ready (rs := [11]) (by kernel_rfl) (by simp) ?_
              refine AllReadyIn.cons rfl (fun K hK => ?_) ?_
              · go_simp
                refine hK _ _ ?_
                clear hK K
                refine wpAnyIn_done (by kernel_rfl) ?_ _
                simp only [noPanic]
                gi_wp2
                exact Fin.out _
              exact AllReadyIn.nil
            exact AllReadyIn.nil
          exact AllReadyIn.nil
        exact AllReadyIn.nil
      refine AllReadyIn.cons rfl (fun K hK => ?_) ?_
      · go_simp
        refine hK _ _ ?_
        clear hK K
        refine wpAnyIn_ready (rs := [2]) (by kernel_rfl) (by simp) ?_
        refine AllReadyIn.cons rfl (fun K hK => ?_) ?_
        · go_simp
          refine hK _ _ ?_
          clear hK K
          refine wpAnyIn_ready (rs := [5]) (by kernel_rfl) (by simp) ?_
          refine AllReadyIn.cons rfl (fun K hK => ?_) ?_
          · go_simp
            gi_wp2_with (refine ⟨trivial, ?_⟩; gi_at_call 46; refine (callsIn_wide.2 (cD.out _)).mono ?_; rintro e w1 ⟨rfl, k, hw1⟩; rw [hw1]; clear hw1 w1)
            refine wpAnyIn_take (i := 6) (v := .tuple #[.int .u64 (q : Int), .int .u64 (r : Int)]) rfl rfl (by kernel_rfl) (by kernel_rfl) (by kernel_rfl) (fun _ _ _ h => h) ⟨Or.inl ⟨by rfl, fun w => by go_simp⟩, fun _ => rfl⟩ ?_
            refine wpAnyIn_take (i := 7) (v := .int .u64 (q : Int)) rfl rfl (by kernel_rfl) (by kernel_rfl) (by kernel_rfl) (fun _ _ _ h => h) ⟨Or.inl ⟨by rfl, fun w => by go_simp⟩, fun _ => rfl⟩ ?_
            refine wpAnyIn_take (i := 8) (v := .int .u64 (r : Int)) rfl rfl (by kernel_rfl) (by kernel_rfl) (by kernel_rfl) (fun _ _ _ h => h) ⟨Or.inl ⟨by rfl, fun w => by go_simp⟩, fun _ => rfl⟩ ?_
            refine wpAnyIn_take (i := 9) (v := .pointer (some ⟨w.heap.size + 1, i, none⟩)) rfl rfl (by kernel_rfl) (by kernel_rfl) (by kernel_rfl) (fun _ _ _ h => h) ⟨Or.inl ⟨by rfl, fun w => by go_simp⟩, fun _ => rfl⟩ ?_
            refine wpAnyIn_ready (rs := [10]) (by kernel_rfl) (by simp) ?_
            refine AllReadyIn.cons rfl (fun K hK => ?_) ?_
            · go_simp
              refine hK _ _ ?_
              clear hK K
              refine wpAnyIn_ready (rs := [11]) (by kernel_rfl) (by simp) ?_
              refine AllReadyIn.cons rfl (fun K hK => ?_) ?_
              · go_simp
                refine hK _ _ ?_
                clear hK K
                refine wpAnyIn_done (by kernel_rfl) ?_ _
                simp only [noPanic]
                gi_wp2
                exact Fin.out _
              exact AllReadyIn.nil
            exact AllReadyIn.nil
          exact AllReadyIn.nil
        exact AllReadyIn.nil
      exact AllReadyIn.nil
    refine AllReadyIn.cons rfl (fun K hK => ?_) ?_
    · go_simp
      refine hK _ _ ?_
      clear hK K
      refine wpAnyIn_ready (rs := [0, 4]) (by kernel_rfl) (by simp) ?_
      refine AllReadyIn.cons rfl (fun K hK => ?_) ?_
      · go_simp
        refine hK _ _ ?_
        clear hK K
        refine wpAnyIn_ready (rs := [4]) (by kernel_rfl) (by simp) ?_
        refine AllReadyIn.cons rfl (fun K hK => ?_) ?_
        · go_simp
          refine hK _ _ ?_
          clear hK K
          refine wpAnyIn_ready (rs := [5]) (by kernel_rfl) (by simp) ?_
          refine AllReadyIn.cons rfl (fun K hK => ?_) ?_
          · go_simp
            gi_wp2_with (refine ⟨trivial, ?_⟩; gi_at_call 46; refine (callsIn_wide.2 (cD.out _)).mono ?_; rintro e w1 ⟨rfl, k, hw1⟩; rw [hw1]; clear hw1 w1)
            refine wpAnyIn_take (i := 6) (v := .tuple #[.int .u64 (q : Int), .int .u64 (r : Int)]) rfl rfl (by kernel_rfl) (by kernel_rfl) (by kernel_rfl) (fun _ _ _ h => h) ⟨Or.inl ⟨by rfl, fun w => by go_simp⟩, fun _ => rfl⟩ ?_
            refine wpAnyIn_take (i := 7) (v := .int .u64 (q : Int)) rfl rfl (by kernel_rfl) (by kernel_rfl) (by kernel_rfl) (fun _ _ _ h => h) ⟨Or.inl ⟨by rfl, fun w => by go_simp⟩, fun _ => rfl⟩ ?_
            refine wpAnyIn_take (i := 8) (v := .int .u64 (r : Int)) rfl rfl (by kernel_rfl) (by kernel_rfl) (by kernel_rfl) (fun _ _ _ h => h) ⟨Or.inl ⟨by rfl, fun w => by go_simp⟩, fun _ => rfl⟩ ?_
            refine wpAnyIn_take (i := 9) (v := .pointer (some ⟨w.heap.size + 1, i, none⟩)) rfl rfl (by kernel_rfl) (by kernel_rfl) (by kernel_rfl) (fun _ _ _ h => h) ⟨Or.inl ⟨by rfl, fun w => by go_simp⟩, fun _ => rfl⟩ ?_
            refine wpAnyIn_ready (rs := [10]) (by kernel_rfl) (by simp) ?_
            refine AllReadyIn.cons rfl (fun K hK => ?_) ?_
            · go_simp
              refine hK _ _ ?_
              clear hK K
              refine wpAnyIn_ready (rs := [11]) (by kernel_rfl) (by simp) ?_
              refine AllReadyIn.cons rfl (fun K hK => ?_) ?_
              · go_simp
                refine hK _ _ ?_
                clear hK K
                refine wpAnyIn_done (by kernel_rfl) ?_ _
                simp only [noPanic]
                gi_wp2
                exact Fin.out _
              exact AllReadyIn.nil
            exact AllReadyIn.nil
          exact AllReadyIn.nil
        exact AllReadyIn.nil
      refine AllReadyIn.cons rfl (fun K hK => ?_) ?_
      · go_simp
        refine hK _ _ ?_
        clear hK K
        refine wpAnyIn_ready (rs := [0, 5]) (by kernel_rfl) (by simp) ?_
        refine AllReadyIn.cons rfl (fun K hK => ?_) ?_
        · go_simp
          refine hK _ _ ?_
          clear hK K
          refine wpAnyIn_ready (rs := [5]) (by kernel_rfl) (by simp) ?_
          refine AllReadyIn.cons rfl (fun K hK => ?_) ?_
          · go_simp
            gi_wp2_with (refine ⟨trivial, ?_⟩; gi_at_call 46; refine (callsIn_wide.2 (cD.out _)).mono ?_; rintro e w1 ⟨rfl, k, hw1⟩; rw [hw1]; clear hw1 w1)
            refine wpAnyIn_take (i := 6) (v := .tuple #[.int .u64 (q : Int), .int .u64 (r : Int)]) rfl rfl (by kernel_rfl) (by kernel_rfl) (by kernel_rfl) (fun _ _ _ h => h) ⟨Or.inl ⟨by rfl, fun w => by go_simp⟩, fun _ => rfl⟩ ?_
            refine wpAnyIn_take (i := 7) (v := .int .u64 (q : Int)) rfl rfl (by kernel_rfl) (by kernel_rfl) (by kernel_rfl) (fun _ _ _ h => h) ⟨Or.inl ⟨by rfl, fun w => by go_simp⟩, fun _ => rfl⟩ ?_
            refine wpAnyIn_take (i := 8) (v := .int .u64 (r : Int)) rfl rfl (by kernel_rfl) (by kernel_rfl) (by kernel_rfl) (fun _ _ _ h => h) ⟨Or.inl ⟨by rfl, fun w => by go_simp⟩, fun _ => rfl⟩ ?_
            refine wpAnyIn_take (i := 9) (v := .pointer (some ⟨w.heap.size + 1, i, none⟩)) rfl rfl (by kernel_rfl) (by kernel_rfl) (by kernel_rfl) (fun _ _ _ h => h) ⟨Or.inl ⟨by rfl, fun w => by go_simp⟩, fun _ => rfl⟩ ?_
            refine wpAnyIn_ready (rs := [10]) (by kernel_rfl) (by simp) ?_
            refine AllReadyIn.cons rfl (fun K hK => ?_) ?_
            · go_simp
              refine hK _ _ ?_
              clear hK K
              refine wpAnyIn_ready (rs := [11]) (by kernel_rfl) (by simp) ?_
              refine AllReadyIn.cons rfl (fun K hK => ?_) ?_
              · go_simp
                refine hK _ _ ?_
                clear hK K
                refine wpAnyIn_done (by kernel_rfl) ?_ _
                simp only [noPanic]
                gi_wp2
                exact Fin.out _
              exact AllReadyIn.nil
            exact AllReadyIn.nil
          exact AllReadyIn.nil
        refine AllReadyIn.cons rfl (fun K hK => ?_) ?_
        · go_simp
          gi_wp2_with (refine ⟨trivial, ?_⟩; gi_at_call 46; refine (callsIn_wide.2 (cD.out _)).mono ?_; rintro e w1 ⟨rfl, k, hw1⟩; rw [hw1]; clear hw1 w1)
          refine wpAnyIn_take (i := 6) (v := .tuple #[.int .u64 (q : Int), .int .u64 (r : Int)]) rfl rfl (by kernel_rfl) (by kernel_rfl) (by kernel_rfl) (fun _ _ _ h => h) ⟨Or.inl ⟨by rfl, fun w => by go_simp⟩, fun _ => rfl⟩ ?_
          refine wpAnyIn_take (i := 7) (v := .int .u64 (q : Int)) rfl rfl (by kernel_rfl) (by kernel_rfl) (by kernel_rfl) (fun _ _ _ h => h) ⟨Or.inl ⟨by rfl, fun w => by go_simp⟩, fun _ => rfl⟩ ?_
          refine wpAnyIn_take (i := 8) (v := .int .u64 (r : Int)) rfl rfl (by kernel_rfl) (by kernel_rfl) (by kernel_rfl) (fun _ _ _ h => h) ⟨Or.inl ⟨by rfl, fun w => by go_simp⟩, fun _ => rfl⟩ ?_
          refine wpAnyIn_ready (rs := [0]) (by kernel_rfl) (by simp) ?_
          refine AllReadyIn.cons rfl (fun K hK => ?_) ?_
          · go_simp
            refine hK _ _ ?_
            clear hK K
            refine wpAnyIn_take (i := 9) (v := .pointer (some ⟨w.heap.size + 1, i, none⟩)) rfl rfl (by kernel_rfl) (by kernel_rfl) (by kernel_rfl) (fun _ _ _ h => h) ⟨Or.inl ⟨by rfl, fun w => by go_simp⟩, fun _ => rfl⟩ ?_
            refine wpAnyIn_ready (rs := [10]) (by kernel_rfl) (by simp) ?_
            refine AllReadyIn.cons rfl (fun K hK => ?_) ?_
            · go_simp
              refine hK _ _ ?_
              clear hK K
              refine wpAnyIn_ready (rs := [11]) (by kernel_rfl) (by simp) ?_
              refine AllReadyIn.cons rfl (fun K hK => ?_) ?_
              · go_simp
                refine hK _ _ ?_
                clear hK K
                refine wpAnyIn_done (by kernel_rfl) ?_ _
                simp only [noPanic]
                gi_wp2
                exact Fin.out _
              exact AllReadyIn.nil
            exact AllReadyIn.nil
          exact AllReadyIn.nil
        exact AllReadyIn.nil
      exact AllReadyIn.nil
    refine AllReadyIn.cons rfl (fun K hK => ?_) ?_
    · go_simp
      refine hK _ _ ?_
      clear hK K
      refine wpAnyIn_ready (rs := [0, 2]) (by kernel_rfl) (by simp) ?_
      refine AllReadyIn.cons rfl (fun K hK => ?_) ?_
      · go_simp
        refine hK _ _ ?_
        clear hK K
        refine wpAnyIn_ready (rs := [2]) (by kernel_rfl) (by simp) ?_
        refine AllReadyIn.cons rfl (fun K hK => ?_) ?_
        · go_simp
          refine hK _ _ ?_
          clear hK K
          refine wpAnyIn_ready (rs := [5]) (by kernel_rfl) (by simp) ?_
          refine AllReadyIn.cons rfl (fun K hK => ?_) ?_
          · go_simp
            gi_wp2_with (refine ⟨trivial, ?_⟩; gi_at_call 46; refine (callsIn_wide.2 (cD.out _)).mono ?_; rintro e w1 ⟨rfl, k, hw1⟩; rw [hw1]; clear hw1 w1)
            refine wpAnyIn_take (i := 6) (v := .tuple #[.int .u64 (q : Int), .int .u64 (r : Int)]) rfl rfl (by kernel_rfl) (by kernel_rfl) (by kernel_rfl) (fun _ _ _ h => h) ⟨Or.inl ⟨by rfl, fun w => by go_simp⟩, fun _ => rfl⟩ ?_
            refine wpAnyIn_take (i := 7) (v := .int .u64 (q : Int)) rfl rfl (by kernel_rfl) (by kernel_rfl) (by kernel_rfl) (fun _ _ _ h => h) ⟨Or.inl ⟨by rfl, fun w => by go_simp⟩, fun _ => rfl⟩ ?_
            refine wpAnyIn_take (i := 8) (v := .int .u64 (r : Int)) rfl rfl (by kernel_rfl) (by kernel_rfl) (by kernel_rfl) (fun _ _ _ h => h) ⟨Or.inl ⟨by rfl, fun w => by go_simp⟩, fun _ => rfl⟩ ?_
            refine wpAnyIn_take (i := 9) (v := .pointer (some ⟨w.heap.size + 1, i, none⟩)) rfl rfl (by kernel_rfl) (by kernel_rfl) (by kernel_rfl) (fun _ _ _ h => h) ⟨Or.inl ⟨by rfl, fun w => by go_simp⟩, fun _ => rfl⟩ ?_
            refine wpAnyIn_ready (rs := [10]) (by kernel_rfl) (by simp) ?_
            refine AllReadyIn.cons rfl (fun K hK => ?_) ?_
            · go_simp
              refine hK _ _ ?_
              clear hK K
              refine wpAnyIn_ready (rs := [11]) (by kernel_rfl) (by simp) ?_
              refine AllReadyIn.cons rfl (fun K hK => ?_) ?_
              · go_simp
                refine hK _ _ ?_
                clear hK K
                refine wpAnyIn_done (by kernel_rfl) ?_ _
                simp only [noPanic]
                gi_wp2
                exact Fin.out _
              exact AllReadyIn.nil
            exact AllReadyIn.nil
          exact AllReadyIn.nil
        exact AllReadyIn.nil
      refine AllReadyIn.cons rfl (fun K hK => ?_) ?_
      · go_simp
        refine hK _ _ ?_
        clear hK K
        refine wpAnyIn_ready (rs := [0, 5]) (by kernel_rfl) (by simp) ?_
        refine AllReadyIn.cons rfl (fun K hK => ?_) ?_
        · go_simp
          refine hK _ _ ?_
          clear hK K
          refine wpAnyIn_ready (rs := [5]) (by kernel_rfl) (by simp) ?_
          refine AllReadyIn.cons rfl (fun K hK => ?_) ?_
          · go_simp
            gi_wp2_with (refine ⟨trivial, ?_⟩; gi_at_call 46; refine (callsIn_wide.2 (cD.out _)).mono ?_; rintro e w1 ⟨rfl, k, hw1⟩; rw [hw1]; clear hw1 w1)
            refine wpAnyIn_take (i := 6) (v := .tuple #[.int .u64 (q : Int), .int .u64 (r : Int)]) rfl rfl (by kernel_rfl) (by kernel_rfl) (by kernel_rfl) (fun _ _ _ h => h) ⟨Or.inl ⟨by rfl, fun w => by go_simp⟩, fun _ => rfl⟩ ?_
            refine wpAnyIn_take (i := 7) (v := .int .u64 (q : Int)) rfl rfl (by kernel_rfl) (by kernel_rfl) (by kernel_rfl) (fun _ _ _ h => h) ⟨Or.inl ⟨by rfl, fun w => by go_simp⟩, fun _ => rfl⟩ ?_
            refine wpAnyIn_take (i := 8) (v := .int .u64 (r : Int)) rfl rfl (by kernel_rfl) (by kernel_rfl) (by kernel_rfl) (fun _ _ _ h => h) ⟨Or.inl ⟨by rfl, fun w => by go_simp⟩, fun _ => rfl⟩ ?_
            refine wpAnyIn_take (i := 9) (v := .pointer (some ⟨w.heap.size + 1, i, none⟩)) rfl rfl (by kernel_rfl) (by kernel_rfl) (by kernel_rfl) (fun _ _ _ h => h) ⟨Or.inl ⟨by rfl, fun w => by go_simp⟩, fun _ => rfl⟩ ?_
            refine wpAnyIn_ready (rs := [10]) (by kernel_rfl) (by simp) ?_
            refine AllReadyIn.cons rfl (fun K hK => ?_) ?_
            · go_simp
              refine hK _ _ ?_
              clear hK K
              refine wpAnyIn_ready (rs := [11]) (by kernel_rfl) (by simp) ?_
              refine AllReadyIn.cons rfl (fun K hK => ?_) ?_
              · go_simp
                refine hK _ _ ?_
                clear hK K
                refine wpAnyIn_done (by kernel_rfl) ?_ _
                simp only [noPanic]
                gi_wp2
                exact Fin.out _
              exact AllReadyIn.nil
            exact AllReadyIn.nil
          exact AllReadyIn.nil
        refine AllReadyIn.cons rfl (fun K hK => ?_) ?_
        · go_simp
          gi_wp2_with (refine ⟨trivial, ?_⟩; gi_at_call 46; refine (callsIn_wide.2 (cD.out _)).mono ?_; rintro e w1 ⟨rfl, k, hw1⟩; rw [hw1]; clear hw1 w1)
          refine wpAnyIn_take (i := 6) (v := .tuple #[.int .u64 (q : Int), .int .u64 (r : Int)]) rfl rfl (by kernel_rfl) (by kernel_rfl) (by kernel_rfl) (fun _ _ _ h => h) ⟨Or.inl ⟨by rfl, fun w => by go_simp⟩, fun _ => rfl⟩ ?_
          refine wpAnyIn_take (i := 7) (v := .int .u64 (q : Int)) rfl rfl (by kernel_rfl) (by kernel_rfl) (by kernel_rfl) (fun _ _ _ h => h) ⟨Or.inl ⟨by rfl, fun w => by go_simp⟩, fun _ => rfl⟩ ?_
          refine wpAnyIn_take (i := 8) (v := .int .u64 (r : Int)) rfl rfl (by kernel_rfl) (by kernel_rfl) (by kernel_rfl) (fun _ _ _ h => h) ⟨Or.inl ⟨by rfl, fun w => by go_simp⟩, fun _ => rfl⟩ ?_
          refine wpAnyIn_ready (rs := [0]) (by kernel_rfl) (by simp) ?_
          refine AllReadyIn.cons rfl (fun K hK => ?_) ?_
          · go_simp
            refine hK _ _ ?_
            clear hK K
            refine wpAnyIn_take (i := 9) (v := .pointer (some ⟨w.heap.size + 1, i, none⟩)) rfl rfl (by kernel_rfl) (by kernel_rfl) (by kernel_rfl) (fun _ _ _ h => h) ⟨Or.inl ⟨by rfl, fun w => by go_simp⟩, fun _ => rfl⟩ ?_
            refine wpAnyIn_ready (rs := [10]) (by kernel_rfl) (by simp) ?_
            refine AllReadyIn.cons rfl (fun K hK => ?_) ?_
            · go_simp
              refine hK _ _ ?_
              clear hK K
              refine wpAnyIn_ready (rs := [11]) (by kernel_rfl) (by simp) ?_
              refine AllReadyIn.cons rfl (fun K hK => ?_) ?_
              · go_simp
                refine hK _ _ ?_
                clear hK K
                refine wpAnyIn_done (by kernel_rfl) ?_ _
                simp only [noPanic]
                gi_wp2
                exact Fin.out _
              exact AllReadyIn.nil
            exact AllReadyIn.nil
          exact AllReadyIn.nil
        exact AllReadyIn.nil
      exact AllReadyIn.nil
    exact AllReadyIn.nil
  case done =>
    rintro D ys W hD hys ⟨⟨hrow, hc0, hc2, hc3, hf3⟩, hB⟩ hK
    rw [hys] at hrow hc3
    obtain ⟨ho1, ho2, ho3⟩ := stQ_done la Hwa.out m hm0
    have hol := stQ_length la.length m (pairsB la la.length)
    generalize (stQ la.length m (pairsB la la.length)).1 = o at *
    generalize (stQ la.length m (pairsB la la.length)).2 = r at *
    rw [hQv.out] at ho2
    rw [hRv.out] at ho3
    subst ho3
    have hD' : w.heap.size + 5 ≤ D := by rw [← HSz.out]; exact hD
    have hrd : RowC (w.heap.size + 1) o W.drew := ⟨hrow.cell, hrow.free, hrow.lt⟩
    have hsk := hrd.sk
    rw [hol] at hsk
    have cC : Hid (CallsIn Fence.wide 4 Try.prog 39 #[.slice (some ⟨w.heap.size + 1, 0, none⟩) la.length la.length] W.drew fun e w' => e = .returned (.slice (some ⟨w.heap.size + 1, 0, none⟩) (cutL o).length (cutL o).length) ∧ w' = W.drew) := by
      have := cut_det o (some ⟨w.heap.size + 1, 0, none⟩) la.length W.drew (by rw [hol]; exact hsk) (by rw [hol]; exact hla)
      rw [hol] at this
      exact callsIn_wide.2 this
    have hK' := (KeepsOthers.drew W).same D _ hK rfl
    have hrf := hrd.kept (grownBy_putObj' _ D (.deferred none)) (fun r e => by cases e; exact ⟨_, hK', rfl⟩)
    have HCan : Hid (Can (W.drew.putObj D (.deferred none)) (.slice (some ⟨w.heap.size + 1, 0, none⟩) (cutL o).length (cutL o).length) Qv) :=
      ⟨cutL o, cutL_sk hrf.sk, cutL_ww ho1, cutL_nz o, by rw [cutL_val]; exact ho2⟩
    have HBf : Hid (Below w.heap.size w (W.drew.putObj D (.deferred none))) := hB.drew.trans (belowK_b (w := w) (Nat.le_refl _) _ D _ _ (by omega) hK' rfl rfl)
    have HK' : Hid _ := hK'
    clear hys hrow hrd hsk hrf hB hK hK' ho1 ho2 hol HC0 HR1 HC2 HC3 HF3 HC4 HBel hB0 hD hc0 hf3
    gi_wp2
    refine wpIn_noPanic ?_
    first
    | gi_region_with_o (refine ⟨trivial, ?_⟩; (with_reducible refine cC.out.mono ?_); rintro e w' ⟨rfl, hw'⟩; rw [hw']; clear hw' w')
    | fail
    all_goals
      simp only [noPanic]
      gi_wp2
      refine ⟨by simp, .inl ⟨_, _, rfl, run_takeDeferred HK'.out, ?_⟩⟩
      refine ⟨.tuple #[.slice (some ⟨w.heap.size + 1, 0, none⟩) (cutL o).length (cutL o).length, .int .u64 (r : Int), .int .i64 0], ?_, _, rfl, HCan.out, HBf.out⟩
      simp [results, Try.f21, go_sem]
  case stop =>
    rintro D c pre W _ _ h _
    exact h.elim

end Go.Proofs.Ytdlocljnmaeikaa
