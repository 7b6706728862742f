/-
  The contract of nat's Cmp, whole. Conditions: as the theorem says.
-/
import Derived.Test.YtdlocljnmaeikaaNatM
namespace Go.Proofs.Ytdlocljnmaeikaa
open Go.RowKit Go.Shelf
set_option linter.unusedVariables false

set_option maxRecDepth 100000 in
set_option maxHeartbeats 4000000 in
theorem cmpN_other (la lb ua ub : List Nat) (a b : Option Addr) (ca cb : Nat) (w : World) (ha : SK .u64 w (.slice a la.length ca) la) (hb : SK .u64 w (.slice b lb.length cb) lb) (hla : la.length ≤ 1000000) (hlb : lb.length ≤ 1000000)
    (hua : ua = cutL la) (hub : ub = cutL lb) (he : ua.length ≠ ub.length) :
    Calls Try.prog 17 #[.slice a la.length ca, .slice b lb.length cb] w fun e w' => e = .returned (.int .i64 (ord (ua.length : Int) (ub.length : Int))) ∧ Below w.heap.size w w' := by
  obtain ⟨W1, hW1⟩ : ∃ W1, Hid (((w.alloc (.cells #[.slice b lb.length cb] 22)).alloc (.cells #[.int .i64 0] 3)).drew = W1) := ⟨_, rfl⟩
  have b1 : Below w.heap.size w W1 := by rw [← hW1.out]; exact (((Below.refl _ w).alloc (Nat.le_refl _) _).alloc (by simp) _).drew
  have cA : Hid (CallsIn Fence.wide 4 Try.prog 39 #[.slice a la.length ca] W1 fun e w' => e = .returned (.slice a ua.length ua.length) ∧ w' = W1) := by rw [hua]; exact callsIn_wide.2 (cut_det la a ca W1 (ha.below b1) hla)
  have cB : Hid (CallsIn Fence.wide 4 Try.prog 39 #[.slice b lb.length cb] W1 fun e w' => e = .returned (.slice b ub.length ub.length) ∧ w' = W1) := by rw [hub]; exact callsIn_wide.2 (cut_det lb b cb W1 (hb.below b1) hlb)
  rw [← hW1.out] at cA cB
  have hne : ((ua.length : Int) != (ub.length : Int)) = true := by rw [bne_iff_ne]; omega
  clear ha hb he hua hub b1
  refine (callsIn_wide (n := 5)).1 ?_
  refine callsIn_of_wp_marks Try.func17 rfl trivial ?_ rfl
  simp only [Try.ntmps17, List.size_toArray, List.length_cons, List.length_nil, Nat.reduceAdd, Nat.reduceSub, Array.replicate_succ, Array.replicate_zero, List.push_toArray, List.append_toArray, List.nil_append, List.cons_append]
  have hmx : Try.prog.follows .mixedOrders = true := by kernel_rfl
  gi_wp2_with fail
  first
  | gi_region_with_o (first
    | (refine ⟨trivial, ?_⟩; (with_reducible refine cA.out.mono ?_); rintro e w' ⟨rfl, hw'⟩; rw [hw']; clear hw' w')
    | (refine ⟨trivial, ?_⟩; (with_reducible refine cB.out.mono ?_); rintro e w' ⟨rfl, hw'⟩; rw [hw']; clear hw' w'))
  | fail
  all_goals
    clear cA cB hW1 W1
    gi_wp2_with (refine ⟨trivial, ?_⟩; gi_at_call 41; refine (callsIn_wide.2 (compareI_any (ua.length : Int) (ub.length : Int) _)).mono ?_; rintro e w' ⟨rfl, hw'⟩; rw [hw']; clear hw' w')
    refine ⟨.int .i64 (ord (ua.length : Int) (ub.length : Int)), ?_, rfl, (((Below.refl _ w).alloc (Nat.le_refl _) _).alloc (by simp) _).drew⟩
    simp [results, Try.f17, go_sem]

theorem cmpN_any (la lb : List Nat) (va vb : Value) (w : World) (ha : SK .u64 w va la) (hb : SK .u64 w vb lb) (hwa : Ww la) (hwb : Ww lb) (hla : la.length ≤ 1000000) (hlb : lb.length ≤ 1000000) :
    Calls Try.prog 17 #[va, vb] w fun e w' => e = .returned (.int .i64 (ord (valW la : Int) (valW lb : Int))) ∧ Below w.heap.size w w' := by
  obtain ⟨a, ca, rfl⟩ := ha.shape
  obtain ⟨b, cb, rfl⟩ := hb.shape
  by_cases he : (cutL lb).length = (cutL la).length
  · have := cmpN_same la lb (cutL la) (cutL lb) a b ca cb w ha hb hla hlb rfl rfl (cutL_ww hwa) (cutL_ww hwb) (cutL_sk ha) (cutL_sk hb) he
    rwa [cutL_val, cutL_val] at this
  · have := cmpN_other la lb (cutL la) (cutL lb) a b ca cb w ha hb hla hlb rfl rfl (fun h => he h.symm)
    have e : ord ((cutL la).length : Int) ((cutL lb).length : Int) = ord (valW la : Int) (valW lb : Int) := by
      rcases Nat.lt_or_gt_of_ne he with h | h
      · have h2 := lenW_lt _ _ (cutL_ww hwb) (cutL_nz la) h
        rw [cutL_val, cutL_val] at h2
        rw [ord_gt (by omega), ord_gt (by omega)]
      · have h2 := lenW_lt _ _ (cutL_ww hwa) (cutL_nz lb) h
        rw [cutL_val, cutL_val] at h2
        rw [ord_lt (by omega), ord_lt (by omega)]
    rwa [e] at this

end Go.Proofs.Ytdlocljnmaeikaa
