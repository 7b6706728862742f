/-
  The contracts of ring's bitsOf and of what it returns: a number's bits, the highest first. Conditions: as each theorem says.
-/
import Derived.RangeFuncNested
import Derived.RangeFuncBound
import Derived.RangeFuncCalls
import Derived.RangeFuncLeaves
import Derived.RangeFuncFrom
import Derived.Shelf.Abstract
import Derived.Shelf.RegionOpen
import Derived.WalkKit
import Derived.OwnWalkIn
import Derived.TacticsInMore
import Derived.LoopNIn
import Derived.LoopIn
import Derived.Test.YtkaekgjpjnnjpaaRingB
import Derived.Test.YtkaekgjpjnnjpaaLimbSel
namespace Go.Proofs.Ytkaekgjpjnnjpaa
open Go.RowKit Go.Shelf
set_option linter.unusedVariables false
attribute [local go_sem] Oper.semAt_some

theorem wN_div (x n : Nat) (hx : x < M4) : wN x ((n / 64 : Nat) : Int) / 2 ^ (n % 64) % 2 = x / 2 ^ n % 2 := by
  have h := wN_bit x hx ((n / 64 : Nat) : Int) (n % 64)
  rw [← Nat.toNat_testBit, ← Nat.toNat_testBit, h]
  have e : 64 * (((n / 64 : Nat) : Int)).toNat + n % 64 = n := by omega
  have e2 : (0 : Int) ≤ ((n / 64 : Nat) : Int) := by omega
  have e3 : n % 64 < 64 := by omega
  have e4 : (0 : Int) ≤ (n : Int) / 64 := by omega
  rw [e]
  simp [e3, e4]
theorem bit_any (x n : Nat) (hx : x < M4) (h1 : n ≤ 9223372036854775807) (w : World) :
    Calls Try.prog 64 #[four x, .int .i64 (n : Int)] w fun e w' => e = .returned (.int .u64 ((x / 2 ^ n % 2 : Nat) : Int)) ∧ Below w.heap.size w w' := by
  have := bit_raw x n hx h1 w
  rwa [wN_div x n hx] at this

/-- A bit. -/
abbrev Bt := { z : Nat // z ≤ 1 }
/-- What has come when k rounds are over: the bits, the highest first. -/
def bitsB (x : Nat) (k : Nat) : List Nat := (List.range k).map fun j => x / 2 ^ (nbits x - 1 - j) % 2
theorem bitsB_succ (x : Nat) (k : Nat) : bitsB x (k + 1) = bitsB x k ++ [x / 2 ^ (nbits x - 1 - k) % 2] := by simp [bitsB, List.range_succ]
theorem bitsB_length (x : Nat) (k : Nat) : (bitsB x k).length = k := by simp [bitsB]

/-- What lay below n₀ lies as it lay, and so does the block B. -/
def Kp4 (n₀ B : Nat) (W W' : World) : Prop := Below n₀ W W' ∧ (W.heap.size ≤ W'.heap.size ∧ W'.heap[B]? = W.heap[B]?)
theorem Kp4.refl (n₀ B : Nat) (W : World) : Kp4 n₀ B W W := ⟨Below.refl _ _, Nat.le_refl _, rfl⟩
theorem Kp4.trans {n₀ B : Nat} {W W' W'' : World} (h : Kp4 n₀ B W W') (h' : Kp4 n₀ B W' W'') : Kp4 n₀ B W W'' := ⟨h.1.trans h'.1, Nat.le_trans h.2.1 h'.2.1, h'.2.2.trans h.2.2⟩
theorem Kp4.box {n₀ B : Nat} {W W' : World} {v0 v1 v2 v3 : Int} (h : Box W B v0 v1 v2 v3) (k : Kp4 n₀ B W W') : Box W' B v0 v1 v2 v3 :=
  ⟨Nat.lt_of_lt_of_le h.lt k.2.1, (World.cell?_of_block (a := ⟨B, 0, none⟩) k.2.2).trans h.c0, (World.cell?_of_block (a := ⟨B, 1, none⟩) k.2.2).trans h.c1, (World.cell?_of_block (a := ⟨B, 2, none⟩) k.2.2).trans h.c2, (World.cell?_of_block (a := ⟨B, 3, none⟩) k.2.2).trans h.c3⟩
theorem grown_of_below {W W' : World} (h : Below W.heap.size W W') : W.grownBy W' none := ⟨h.os, h.tape, h.output, h.size, fun k hk _ => h.block k hk⟩
theorem abides_up {β : Type} {B : Nat} {J : β → World → Prop} (h : AbidesFrom B J) {s : β} {W W' : World} (hs : J s W) (hb : Below W.heap.size W W') : J s W' := h s W W' none hs (grown_of_below hb) (fun r e => by cases e)

set_option maxRecDepth 100000 in
set_option maxHeartbeats 2000000 in
theorem bits1_in (n : Nat) (hn : 1 ≤ n) (l Bs n₀ x : Nat) (hx : x < M4) (e0 e1 e2 e3 : Int) (ex : four x = .agg #[.int .u64 e0, .int .u64 e1, .int .u64 e2, .int .u64 e3]) (J Jx : List Bt → World → Prop) (B : Nat) (hJ : AbidesFrom B J)
    (hY : ∀ pre z W, J pre W → pre.length < nbits x → YieldAt Fence.wide (n - 1) Try.prog l #[.int .u64 (z.1 : Int)] W fun e W' =>
      (e = .returned (.bool true) ∧ J (pre ++ [z]) W' ∧ Kp4 n₀ Bs W W') ∨ (e = .returned (.bool false) ∧ Jx (pre ++ [z]) W'))
    (W : World) (hBs : Box W Bs e0 e1 e2 e3) (h0 : J [] W) :
    CallsIn Fence.wide n Try.prog 63 #[.func (.yield l) #[] #[], .pointer (some ⟨Bs, 0, none⟩)] W fun e W' => (∃ v, e = .returned v) ∧
      ((∃ ys, ys.map (·.1) = bitsB x (nbits x) ∧ J ys W') ∨ (∃ pre : List Bt, True ∧ Jx pre W')) := by
  have hnb : nbits x ≤ 256 := nbits_le x 256 (by rw [← M4_pow]; exact hx)
  have cB : Hid (∀ w, Calls Try.prog 50 #[.agg #[.int .u64 e0, .int .u64 e1, .int .u64 e2, .int .u64 e3]] w fun e w' => e = .returned (.int .i64 (nbits x : Int)) ∧ Below w.heap.size w w') := by
    intro w; have := bits_any x hx w; rwa [ex] at this
  have cI : Hid (∀ (i : Nat) w, i ≤ 256 → Calls Try.prog 64 #[.agg #[.int .u64 e0, .int .u64 e1, .int .u64 e2, .int .u64 e3], .int .i64 (i : Int)] w fun e w' => e = .returned (.int .u64 ((x / 2 ^ i % 2 : Nat) : Int)) ∧ Below w.heap.size w w') := by
    intro i w hi; have := bit_any x i hx (by omega) w; rwa [ex] at this
  obtain ⟨nb, hNB⟩ : ∃ nb, nbits x = nb := ⟨_, rfl⟩
  rw [hNB] at cB hnb
  have HY : Hid (∀ pre (z : Bt) W, J pre W → pre.length < nb → YieldAt Fence.wide (n - 1) Try.prog l #[.int .u64 (z.1 : Int)] W fun e W' =>
      (e = .returned (.bool true) ∧ J (pre ++ [z]) W' ∧ Kp4 n₀ Bs W W') ∨ (e = .returned (.bool false) ∧ Jx (pre ++ [z]) W')) := by rw [← hNB]; exact hY
  have HNB : Hid (nbits x = nb) := hNB
  have HJ : Hid (AbidesFrom B J) := hJ
  have HB0 : Hid (Box W Bs e0 e1 e2 e3) := hBs
  have HJ0 : Hid (J [] W) := h0
  obtain ⟨lb, c0, c1, c2, c3⟩ := hBs
  have hnb' : (nb : Int) ≤ 256 := by omega
  clear hY hNB ex hJ h0 hx
  refine callsIn_of_wp Try.func63 rfl trivial ?_ rfl
  simp only [Try.ntmps63, List.size_toArray, List.length_cons, List.length_nil, Nat.reduceAdd, Nat.reduceSub, Array.replicate_succ, Array.replicate_zero, List.push_toArray, List.append_toArray, List.nil_append, List.cons_append]
  gi_wp2_with fail
  refine ⟨trivial, ?_⟩
  refine (callsIn_wide.2 (cB.out _)).mono ?_
  rintro e w1 ⟨rfl, g1⟩
  have HB1 : Hid (Box w1 Bs e0 e1 e2 e3) := HB0.out.below g1
  have HJ1 : Hid (J [] w1) := abides_up HJ.out HJ0.out g1
  clear g1 HJ0 HB0 lb c0 c1 c2 c3
  gi_wp2_with fail
  gi_loopw [3] (fun i wr => ∃ (k : Nat) (ys : List Bt), k ≤ nb ∧ i = .int .i64 ((nb : Int) - 1 - (k : Int)) ∧ Hid (ys.map (·.1) = bitsB x k) ∧ Hid (J ys wr) ∧ Hid (Box wr Bs e0 e1 e2 e3))
    (fun i _ => (intOf i + 1).toNat)
  case atStart => exact ⟨0, [], Nat.zero_le _, by go_num, rfl, HJ1, HB1⟩
  case round =>
    obtain ⟨k, ys, hk, rfl, hys, hJs, hbx⟩ := hrel
    clear HJ1 HB1
    by_cases hlt : k < nb
    · obtain ⟨i, hi⟩ : ∃ i : Nat, (nb : Int) - 1 - (k : Int) = (i : Int) := ⟨nb - 1 - k, by omega⟩
      have hi2 : Hid (nb - 1 - k = i) := by unfold Hid; omega
      have hi3 : i ≤ 256 := by omega
      obtain ⟨z, hz⟩ : ∃ z, Hid (x / 2 ^ i % 2 = z) := ⟨_, rfl⟩
      have hz1 : z ≤ 1 := by rw [← hz.out]; omega
      have cI' : Hid (∀ w, Calls Try.prog 64 #[.agg #[.int .u64 e0, .int .u64 e1, .int .u64 e2, .int .u64 e3], .int .i64 (i : Int)] w fun e w' => e = .returned (.int .u64 (z : Int)) ∧ Below w.heap.size w w') := by
        intro w; have := cI.out i w hi3; rwa [hz.out] at this
      have hyl : ys.length < nb := by
        have := congrArg List.length hys.out
        rw [List.length_map, bitsB_length] at this
        omega
      have hys2 : Hid ((ys ++ [(⟨z, hz1⟩ : Bt)]).map (·.1) = bitsB x (k + 1)) := by
        unfold Hid
        rw [List.map_append, hys.out, bitsB_succ, HNB.out, hi2.out, hz.out]
        rfl
      have Hi : Hid ((nb : Int) - 1 - (k : Int) = (i : Int)) := hi
      rw [hi]
      have hi0 : (0 : Int) ≤ (i : Int) := by omega
      obtain ⟨lb, c0, c1, c2, c3⟩ := hbx.out
      clear hi hys hz hi2
      gi_wp2_with fail
      refine ⟨trivial, ?_⟩
      refine (callsIn_wide.2 (cI'.out _)).mono ?_
      rintro e w2 ⟨rfl, g2⟩
      have HB2 : Hid (Box w2 Bs e0 e1 e2 e3) := hbx.out.below g2
      obtain ⟨fn, tmps, assign, body, hy, hR⟩ := HY.out ys ⟨z, hz1⟩ w2 (abides_up HJ.out hJs.out g2) hyl
      dsimp only at hy
      clear g2 lb c0 c1 c2 c3 hJs hbx hyl
      gi_wp2
      refine hR.mono ?_
      rintro e W3 (⟨rfl, hJ3, hk3⟩ | ⟨rfl, hJx3⟩)
      · have HJ3 : Hid (J (ys ++ [⟨z, hz1⟩]) W3) := hJ3
        have HB3 : Hid (Box W3 Bs e0 e1 e2 e3) := Kp4.box HB2.out hk3
        clear hJ3 hk3 hR
        gi_wp2
        go_roundw
        case rel => exact ⟨k + 1, _, by omega, by have := Hi.out; go_num, hys2, HJ3, HB3⟩
        case measure => simp [intOf]
      · gi_wp2
        refine bodyPost_ret (results_none rfl _ _ _) rfl ?_
        exact ⟨⟨_, rfl⟩, .inr ⟨_, trivial, hJx3⟩⟩
    · obtain rfl : k = nb := by omega
      have hm1 : (k : Int) - 1 - (k : Int) = -1 := by omega
      rw [hm1]
      gi_wp2
      go_end0
      exact ⟨⟨_, rfl⟩, .inl ⟨_, by rw [HNB.out]; exact hys.out, hJs.out⟩⟩

set_option maxHeartbeats 1000000 in
theorem bits_in (n : Nat) (x : Nat) (e0 e1 e2 e3 : Int) (w : World) :
    CallsIn Fence.wide n Try.prog 46 #[.agg #[.int .u64 e0, .int .u64 e1, .int .u64 e2, .int .u64 e3]] w fun e w' => e = .returned (.func (.func 63) #[] #[.pointer (some ⟨w.heap.size, 0, none⟩)]) ∧ w' = w.alloc (.cells #[.int .u64 e0, .int .u64 e1, .int .u64 e2, .int .u64 e3] 24) := by
  refine callsIn_of_wp Try.func46 rfl trivial ?_ rfl
  simp only [Try.ntmps46, List.size_toArray, List.length_cons, List.length_nil, Nat.reduceAdd, Nat.reduceSub, Array.replicate_succ, Array.replicate_zero, List.push_toArray, List.append_toArray, List.nil_append, List.cons_append]
  gi_wp2
  go_ret
  exact ⟨rfl, rfl⟩

theorem bits_stops (n : Nat) (hn : 1 ≤ n) (Bs n₀ x : Nat) (hx : x < M4) (e0 e1 e2 e3 : Int) (ex : four x = .agg #[.int .u64 e0, .int .u64 e1, .int .u64 e2, .int .u64 e3]) (w : World) (hB : Box w Bs e0 e1 e2 e3) :
    SeqStopsK Fence.wide n Try.prog 63 #[.pointer (some ⟨Bs, 0, none⟩)] (fun z : Bt => #[Value.int .u64 (z.1 : Int)]) (Kp4 n₀ Bs) (fun ys => ys.map (·.1) = bitsB x (nbits x)) (fun _ => True) (nbits x) w := fun l J Jx W hW hJ _ hY h0 =>
  bits1_in n hn l Bs n₀ x hx e0 e1 e2 e3 ex J Jx W.heap.size hJ hY W (hB.below hW) h0

end Go.Proofs.Ytkaekgjpjnnjpaa
