/-
  The contract of the library's slices.Backward at words: the places and the words, the last first, or a part of them. Conditions: as each theorem says.
-/
import Derived.RangeFuncNested
import Derived.RangeFuncBound
import Derived.RangeFuncCalls
import Derived.RangeFuncLeaves
import Derived.RangeFuncFrom
import Derived.Shelf.Abstract
import Derived.Shelf.RegionOpen
import Derived.WalkKit
import Derived.OwnWalkIn
import Derived.TacticsInMore
import Derived.LoopNIn
import Derived.LoopIn
import Derived.Test.YtdlocljnmaeikaaNatA
namespace Go.Proofs.Ytdlocljnmaeikaa
open Go.RowKit Go.Shelf
set_option linter.unusedVariables false
attribute [local go_sem] Oper.semAt_some

/-- What has come when k rounds are over: the places and the words, the last first. -/
def pairsB (l : List Nat) (k : Nat) : List (Nat × Nat) := (List.range k).map fun j => (l.length - 1 - j, l.getD (l.length - 1 - j) 0)
theorem pairsB_succ (l : List Nat) (k : Nat) : pairsB l (k + 1) = pairsB l k ++ [(l.length - 1 - k, l.getD (l.length - 1 - k) 0)] := by simp [pairsB, List.range_succ]
theorem pairsB_length (l : List Nat) (k : Nat) : (pairsB l k).length = k := by simp [pairsB]

/-- A place below n, and a word. -/
abbrev PW (n : Nat) := { p : Nat × Nat // p.1 < n ∧ p.2 < 18446744073709551616 }

/-- What lay below n₀ lies as it lay, and so does the cell B. -/
def KpB (n₀ B : Nat) (W W' : World) : Prop := Below n₀ W W' ∧ W'.cell? ⟨B, 0, none⟩ = W.cell? ⟨B, 0, none⟩
theorem KpB.refl (n₀ B : Nat) (W : World) : KpB n₀ B W W := ⟨Below.refl _ _, rfl⟩
theorem KpB.trans {n₀ B : Nat} {W W' W'' : World} (h : KpB n₀ B W W') (h' : KpB n₀ B W' W'') : KpB n₀ B W W'' := ⟨h.1.trans h'.1, h'.2.trans h.2⟩

set_option maxRecDepth 100000 in
set_option maxHeartbeats 2000000 in
theorem back1_in (F : Fence) (n : Nat) (h7 : F.fn 57) (hro : F.round = none) (hn : 1 ≤ n) (l Bs n₀ cap : Nat) (a : Option Addr) (zs : List Nat) (hw : Ww zs) (hl : zs.length ≤ 1000000) (J Jx : List (PW zs.length) → World → Prop)
    (hY : ∀ pre x W, J pre W → pre.length < zs.length → YieldAt F (n - 1) Try.prog l #[.int .i64 (x.1.1 : Int), .int .u64 (x.1.2 : Int)] W fun e W' =>
      (e = .returned (.bool true) ∧ J (pre ++ [x]) W' ∧ KpB n₀ Bs W W') ∨ (e = .returned (.bool false) ∧ Jx (pre ++ [x]) W'))
    (W : World) (hBs : W.cell? ⟨Bs, 0, none⟩ = some (.slice a zs.length cap)) (hc : ∀ j, j < zs.length → ∃ b o, a = some ⟨b, o, none⟩ ∧ b < n₀ ∧ W.cell? ⟨b, o + j, none⟩ = some (.int .u64 (zs.getD j 0 : Int))) (h0 : J [] W) :
    CallsIn F n Try.prog 57 #[.func (.yield l) #[] #[], .pointer (some ⟨Bs, 0, none⟩)] W fun e W' => (∃ v, e = .returned v) ∧
      ((∃ ys, ys.map (·.1) = pairsB zs zs.length ∧ J ys W') ∨ (∃ pre, (∃ k, k ≤ zs.length ∧ pre.map (·.1) = pairsB zs k) ∧ Jx pre W')) := by
  have hl' : (zs.length : Int) ≤ 1000000 := by omega
  have Hc : Hid (∀ j, j < zs.length → ∃ b o, a = some ⟨b, o, none⟩ ∧ b < n₀ ∧ W.cell? ⟨b, o + j, none⟩ = some (.int .u64 (zs.getD j 0 : Int))) := hc
  have Hw : Hid (Ww zs) := hw
  clear hc hw
  refine callsIn_of_wp Try.func57 rfl h7 ?_ hro
  simp only [Try.ntmps57, List.size_toArray, List.length_cons, List.length_nil, Nat.reduceAdd, Nat.reduceSub, Array.replicate_succ, Array.replicate_zero, List.push_toArray, List.append_toArray, List.nil_append, List.cons_append]
  gi_wp2
  gi_loopw [3] (fun i wr => ∃ (k : Nat) (ys : List (PW zs.length)), k ≤ zs.length ∧ i = .int .i64 ((zs.length : Int) - 1 - (k : Int)) ∧ Hid (ys.map (·.1) = pairsB zs k) ∧ J ys wr ∧ KpB n₀ Bs W wr)
    (fun i _ => (intOf i + 1).toNat)
  case atStart => exact ⟨0, [], Nat.zero_le _, by go_num, rfl, h0, KpB.refl _ _ _⟩
  case round =>
    obtain ⟨k, ys, hk, rfl, hys, hJs, hnx⟩ := hrel
    have hbx : wr.cell? ⟨Bs, 0, none⟩ = some (.slice a zs.length cap) := hnx.2.trans hBs
    by_cases hlt : k < zs.length
    · obtain ⟨i, hi⟩ : ∃ i : Nat, (zs.length : Int) - 1 - (k : Int) = (i : Int) := ⟨zs.length - 1 - k, by omega⟩
      have hi2 : Hid (zs.length - 1 - k = i) := by unfold Hid; omega
      have hin : i < zs.length := by omega
      obtain ⟨b, o, rfl, hb, hcell⟩ := Hc.out i hin
      obtain ⟨z, hz⟩ : ∃ z, Hid (zs.getD i 0 = z) := ⟨_, rfl⟩
      rw [hz.out] at hcell
      have hz1 : z < 18446744073709551616 := by rw [← hz.out]; exact Hw.out i
      have hcx : wr.cell? ⟨b, o + i, none⟩ = some (.int .u64 (z : Int)) := (hnx.1.cell (p := ⟨b, o + i, none⟩) hb).trans hcell
      have hyl : ys.length < zs.length := by
        have := congrArg List.length hys.out
        rw [List.length_map, pairsB_length] at this
        omega
      obtain ⟨fn, tmps, assign, body, hy, hR⟩ := hY ys ⟨(i, z), hin, hz1⟩ wr hJs hyl
      dsimp only at hy
      have hil : (i : Int) < zs.length := by omega
      have hi0 : (0 : Int) ≤ (i : Int) := by omega
      have hys2 : Hid ((ys ++ [(⟨(i, z), hin, hz1⟩ : PW zs.length)]).map (·.1) = pairsB zs (k + 1)) := by
        unfold Hid
        rw [List.map_append, hys.out, pairsB_succ, hi2.out, hz.out]
        rfl
      have Hi : Hid ((zs.length : Int) - 1 - (k : Int) = (i : Int)) := hi
      have Hnx : Hid (KpB n₀ Bs W wr) := hnx
      have HJs : Hid (J ys wr) := hJs
      rw [hi]
      clear hcell hnx hJs hi hys hyl
      gi_wp2
      refine hR.mono ?_
      rintro e W3 (⟨rfl, hJ3, hk3⟩ | ⟨rfl, hJx3⟩)
      · gi_wp2
        go_roundw
        case rel => exact ⟨k + 1, _, by omega, by have := Hi.out; go_num, hys2, hJ3, Hnx.out.trans hk3⟩
        case measure => simp [intOf]
      · gi_wp2
        refine bodyPost_ret (results_none rfl _ _ _) rfl ?_
        exact ⟨⟨_, rfl⟩, .inr ⟨_, ⟨k + 1, by omega, hys2.out⟩, hJx3⟩⟩
    · obtain rfl : k = zs.length := by omega
      have hm1 : (zs.length : Int) - 1 - (zs.length : Int) = -1 := by omega
      rw [hm1]
      gi_wp2
      go_end0
      exact ⟨⟨_, rfl⟩, .inl ⟨_, hys.out, hJs⟩⟩

set_option maxHeartbeats 1000000 in
theorem back_in (F : Fence) (n : Nat) (h5 : F.fn 42) (hro : F.round = none) (a : Option Addr) (len cap : Nat) (w : World) :
    CallsIn F n Try.prog 42 #[.slice a len cap] w fun e w' => e = .returned (.func (.func 57) #[] #[.pointer (some ⟨w.heap.size, 0, none⟩)]) ∧ w' = w.alloc (.cells #[.slice a len cap] 22) := by
  refine callsIn_of_wp Try.func42 rfl h5 ?_ hro
  simp only [Try.ntmps42, List.size_toArray, List.length_cons, List.length_nil, Nat.reduceAdd, Nat.reduceSub, Array.replicate_succ, Array.replicate_zero, List.push_toArray, List.append_toArray, List.nil_append, List.cons_append]
  gi_wp2
  go_ret
  exact ⟨rfl, rfl⟩

theorem back_stops (F : Fence) (n : Nat) (h8 : F.fn 57) (hro : F.round = none) (hn : 1 ≤ n) (Bs n₀ cap : Nat) (a : Option Addr) (zs : List Nat) (hw : Ww zs) (hl : zs.length ≤ 1000000) (w : World) (hBs : Bs < w.heap.size) (hn₀ : n₀ ≤ w.heap.size)
    (hcB : w.cell? ⟨Bs, 0, none⟩ = some (.slice a zs.length cap)) (hc : ∀ j, j < zs.length → ∃ b o, a = some ⟨b, o, none⟩ ∧ b < n₀ ∧ w.cell? ⟨b, o + j, none⟩ = some (.int .u64 (zs.getD j 0 : Int))) :
    SeqStopsK F n Try.prog 57 #[.pointer (some ⟨Bs, 0, none⟩)] (fun x : PW zs.length => #[Value.int .i64 (x.1.1 : Int), Value.int .u64 (x.1.2 : Int)]) (KpB n₀ Bs) (fun ys => ys.map (·.1) = pairsB zs zs.length)
      (fun pre => ∃ k, k ≤ zs.length ∧ pre.map (·.1) = pairsB zs k) zs.length w := fun l J Jx W hW _ _ hY h0 =>
  back1_in F n h8 hro hn l Bs n₀ cap a zs hw hl J Jx hY W ((hW.cell (p := ⟨Bs, 0, none⟩) hBs).trans hcB) (fun j hj => by
    obtain ⟨b, o, e, hb, hcell⟩ := hc j hj
    exact ⟨b, o, e, hb, (hW.cell (p := ⟨b, o + j, none⟩) (Nat.lt_of_lt_of_le hb hn₀)).trans hcell⟩) h0

end Go.Proofs.Ytdlocljnmaeikaa
