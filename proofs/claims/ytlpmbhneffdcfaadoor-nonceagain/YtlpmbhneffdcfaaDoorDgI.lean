/-
  The contracts of the digest's add, whatever waits, and of its end: the mark, noughts, and how many bits there were. Conditions: as each theorem says.
-/
import Derived.Test.YtlpmbhneffdcfaaDoorDgF
import Derived.Deep.WholeRow
namespace Go.Proofs.YtlpmbhneffdcfaaDoor
open Go.RowKit
set_option linter.unusedVariables false
set_option linter.unusedSimpArgs false

theorem dadd_any (m p : List Nat) (hm : Bb m) (hp : Bb p) (hlen : m.length + p.length ≤ 1000000000) (v : Value) (w : World) (hg : Gl5 w) (b : Nat) (hb : 2 < b) (hH : HH w b m) (hs : SK .u8 w v p) (hv : Off b v) :
    Calls Tryd.prog 31 #[.pointer (some ⟨b, 0, none⟩), v] w fun e w' => e = .returned (.tuple #[]) ∧ HH w' b (m ++ p) ∧ Oth b w w' := by
  by_cases h0 : m.length % 64 = 0
  · exact add_none m p hm hp hlen v w hg b hb hH hs hv h0
  · by_cases h1 : m.length % 64 + p.length < 64
    · exact add_wait m p hm hp hlen v w hg b hb hH hs hv _ rfl (by omega) h1
    · exact add_fill m p hm hp hlen v w hg b hb hH hs hv _ (64 - m.length % 64) rfl (by omega) (by omega) (by omega)

/-- How many noughts come behind the mark. -/
def noughts (n : Nat) : Nat := (119 - n % 64) % 64
/-- The bytes that end the blocks. -/
def ends (n : Nat) : List Nat := 128 :: (List.replicate (noughts n) 0 ++ beB (8 * n) 8)
def pad (m : List Nat) : List Nat := m ++ ends m.length
theorem ends_length (n : Nat) : (ends n).length = noughts n + 9 := by simp [ends, beB_length]
theorem ends_get (n j : Nat) : (ends n).getD j 0 = if j = 0 then 128 else if 1 + noughts n ≤ j then (beB (8 * n) 8).getD (j - 1 - noughts n) 0 else 0 := by
  unfold ends
  cases j with
  | zero => simp
  | succ j =>
    rw [if_neg (by omega)]
    simp only [List.getD_eq_getElem?_getD, List.getElem?_cons_succ]
    by_cases h : j < noughts n
    · rw [if_neg (by omega), List.getElem?_append_left (by simp; omega), List.getElem?_replicate, if_pos h]; rfl
    · rw [if_pos (by omega), List.getElem?_append_right (by simp; omega)]
      simp only [List.length_replicate]
      rw [show j + 1 - 1 - noughts n = j - noughts n by omega]
theorem ends_bb (n : Nat) : Bb (ends n) := fun j => by
  rw [ends_get]
  split
  · omega
  · split
    · exact beB_bb _ _ _
    · omega

set_option maxRecDepth 100000 in
set_option maxHeartbeats 2000000 in
theorem end_any (m : List Nat) (hm : Bb m) (hlen : m.length ≤ 100000000) (w : World) (hg : Gl5 w) (b : Nat) (hb : 2 < b) (hH : HH w b m) :
    Calls Tryd.prog 32 #[.pointer (some ⟨b, 0, none⟩)] w fun e w' => e = .returned (.tuple #[]) ∧ HH w' b (pad m) ∧ Oth b w w' := by
  have HH0 : Hid (HH w b m) := hH
  have hblt := hH.lt
  obtain ⟨r0, hr0, hw0, hA0⟩ := hH
  have c72 := hA0.cell 72
  rw [hc_len _ _ _ hr0] at c72
  have HM : Hid (Bb m) := hm
  have HG : Hid (Gl5 w) := hg
  clear hA0 hw0 hm hg
  unfold pad
  obtain ⟨N, hN⟩ : ∃ N, Hid (m.length = N) := ⟨_, rfl⟩
  rw [hN.out] at c72 hlen ⊢
  have hN2 : (N : Int) ≤ 100000000 := by omega
  obtain ⟨z, hz⟩ : ∃ z, Hid (noughts N = z) := ⟨_, rfl⟩
  have hz1 : (119 - (N : Int) % 64) % 64 = (z : Int) := by have := hz.out; unfold noughts at this; omega
  have hz2 : (z : Int) < 64 := by omega
  have hzv : ∀ w, (zeroValue 96).run Tryd.prog w = .ok (.agg (Array.replicate 72 (.int .u8 0))) w := (zero_of_info (by kernel_rfl : (Tryd.prog.info? 96).map (fun i => (i.zero, i.size)) = some (some (.agg (Array.replicate 72 (.int .u8 0))), 72))).1
  go_enter Tryd.func32, Tryd.ntmps32
  go_upto_region 2 with fail
  refine wp_cut (fun W => Row .u8 w.heap.size w.heap.size ((List.replicate 72 0).set 0 128) W ∧ Below w.heap.size w W) ⟨Row.newA w _ _ _ rfl, (Below.refl _ _).alloc (Nat.le_refl _) _⟩ ?_
  rintro W1 ⟨hR1, hB1⟩
  have HR1 : Hid (Row .u8 w.heap.size w.heap.size ((List.replicate 72 0).set 0 128) W1) := hR1
  have HB1 : Hid (Below w.heap.size w W1) := hB1
  have d72 : W1.cell? ⟨b, 72, none⟩ = some (.int .i64 (N : Int)) := (hB1.cell (p := ⟨b, 72, none⟩) hblt).trans c72
  clear hR1 hB1 c72 hzv
  go_wp2_with fail
  go_loopw [20] (fun y W => ∃ (i : Nat) (o : List Nat), i ≤ 8 ∧ y = .int .i64 i ∧ Row .u8 w.heap.size w.heap.size o W ∧ Below w.heap.size w W ∧ Hid (o.length = 72 ∧ ∀ j, o.getD j 0 = if j = 0 then 128 else if 1 + z ≤ j ∧ j < 1 + z + i then (beB (8 * N) 8).getD (j - 1 - z) 0 else 0)) (fun y _ => 8 - (intOf y).toNat)
  case atStart =>
    refine ⟨0, _, by omega, rfl, HR1.out, HB1.out, by simp, fun j => ?_⟩
    rw [getD_set _ _ _ _ (by simp)]
    by_cases hj : j = 0
    · rw [if_pos hj, if_pos hj]
    · rw [if_neg hj, if_neg hj, if_neg (by omega), List.getD_eq_getElem?_getD, List.getElem?_replicate]
      split <;> rfl
  case round =>
    clear HR1 HB1 d72
    obtain ⟨i, o, hi, rfl, hR, hB, H⟩ := hrel
    have HR : Hid (Row .u8 w.heap.size w.heap.size o wr) := hR
    have HB : Hid (Below w.heap.size w wr) := hB
    by_cases hlt : i < 8
    · have hlt' : (i : Int) < 8 := by omega
      have hc := hR.cell (1 + z + i) (by rw [H.out.1]; omega)
      rw [H.out.2, if_neg (by omega), if_neg (by omega)] at hc
      have hf := hR.free (1 + z + i)
      clear hR hB
      go_wp2_with fail
      go_roundw
      case rel =>
        have ev : (N : Int) * 8 / 2 ^ (8 * (7 - i)) % 256 = ((8 * N / 2 ^ (8 * (7 - i)) % 256 : Nat) : Int) := by rw [Nat.mul_comm 8 N]; simp
        have eb : (beB (8 * N) 8).getD i 0 = 8 * N / 2 ^ (8 * (7 - i)) % 256 := beB_get _ _ _ hlt
        refine ⟨i + 1, o.set (1 + z + i) (8 * N / 2 ^ (8 * (7 - i)) % 256), by omega, by go_num, ?_, HB.out.setCell (Nat.le_refl _) _, by rw [List.length_set]; exact H.out.1, fun j => ?_⟩
        · rw [ev]; exact HR.out.set _ _ (by rw [H.out.1]; omega)
        · rw [getD_set _ _ _ _ (by rw [H.out.1]; omega), H.out.2]
          by_cases h1 : j = 1 + z + i
          · rw [if_pos h1, if_neg (by omega), if_pos (by omega), ← eb, show j - 1 - z = i by omega]
          · rw [if_neg h1]
            by_cases h2 : j = 0
            · rw [if_pos h2, if_pos h2]
            · rw [if_neg h2, if_neg h2]
              by_cases h3 : 1 + z ≤ j ∧ j < 1 + z + i
              · rw [if_pos h3, if_pos (by omega)]
              · rw [if_neg h3, if_neg (by omega)]
      case measure => simp [intOf] <;> omega
    · obtain rfl : i = 8 := by omega
      rw [show ((8 : Nat) : Int) = 8 from rfl]
      have hsl : ∀ W, (Instr.sliceAt 96 (.pointer (some ⟨w.heap.size, 0, none⟩)) none (some (.int .i64 (1 + (z : Int) + 8))) none).run Tryd.prog W = .ok (.slice (some ⟨w.heap.size, 0, none⟩) (z + 9) 72) W := by
        intro W
        have h1 : 1 + (z : Int) + 8 ≤ 72 := by omega
        have h0 : 0 ≤ 1 + (z : Int) + 8 := by omega
        have h2 : (1 + (z : Int) + 8).toNat = z + 9 := by omega
        simp [Instr.sliceAt, Instr.sureAddr, run_underlying Tryd.underlying96, Instr.sliceBounds, run_sliceBound, h0, h1, h2, go_sem]
      have hS : Hid (SK .u8 wr (.slice (some ⟨w.heap.size, 0, none⟩) (z + 9) 72) (ends N)) := by
        refine ⟨some ⟨w.heap.size, 0, none⟩, 72, by rw [ends_length, hz.out], by rw [ends_length, hz.out]; omega, fun e => by simp at e, fun j hj => ⟨w.heap.size, 0, rfl, hR.lt, ?_⟩⟩
        rw [ends_length, hz.out] at hj
        rw [Nat.zero_add, hR.cell j (by rw [H.out.1]; omega), H.out.2, ends_get, hz.out]
        by_cases h2 : j = 0
        · rw [if_pos h2, if_pos h2]
        · rw [if_neg h2, if_neg h2]
          by_cases h3 : 1 + z ≤ j
          · rw [if_pos ⟨h3, by omega⟩, if_pos h3]
          · rw [if_neg (by omega), if_neg h3]
      have hl2 : (ends N).length ≤ 72 := by rw [ends_length, hz.out]; omega
      have kA : Hid (Calls Tryd.prog 31 #[.pointer (some ⟨b, 0, none⟩), .slice (some ⟨w.heap.size, 0, none⟩) (z + 9) 72] wr fun e w' => e = .returned (.tuple #[]) ∧ HH w' b (m ++ ends N) ∧ Oth b wr w') :=
        dadd_any m (ends N) HM.out (ends_bb N) (by rw [hN.out]; omega) _ wr (HG.out.below hB HG.out.lt) b hb (HH0.out.below hB) hS.out (fun a n c e _ x hx => by simp only [Value.slice.injEq] at e; obtain ⟨rfl, -, -⟩ := e; cases hx; show w.heap.size ≠ b; omega)
      clear hR hS HR H
      have HO : Hid (Oth b w wr) := oth_of hB b
      clear hB HB hl2
      go_wp2_with fail
      refine kA.out.mono ?_
      rintro e w1 ⟨rfl, hH1, hO1⟩
      have HH1 : Hid (HH w1 b (m ++ ends N)) := hH1
      have HO1 : Hid (Oth b w w1) := HO.out.trans hO1
      clear hH1 hO1
      go_wp2_with fail
      go_end0
      exact ⟨rfl, HH1.out, HO1.out⟩
end Go.Proofs.YtlpmbhneffdcfaaDoor
