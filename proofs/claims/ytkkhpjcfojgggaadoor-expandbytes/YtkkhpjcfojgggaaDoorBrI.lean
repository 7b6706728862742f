/-
  The contracts of the broad's add, whatever waits, and of its end: the mark, noughts, and how many bits there were. Conditions: as each theorem says.
-/
import Derived.Test.YtkkhpjcfojgggaaDoorBrF
import Derived.Deep.WholeRow
namespace Go.Proofs.YtkkhpjcfojgggaaDoor.Br
open Go.RowKit
set_option linter.unusedVariables false
set_option linter.unusedSimpArgs false

theorem add_any (m p : List Nat) (hm : Bb m) (hp : Bb p) (hlen : m.length + p.length ≤ 1000000000) (v : Value) (w : World) (hg : Gl6 w) (b : Nat) (hb : 1 < b) (hH : HH w b m) (hs : SK .u8 w v p) (hv : Off b v) :
    Calls Tryd.prog 21 #[.pointer (some ⟨b, 0, none⟩), v] w fun e w' => e = .returned (.tuple #[]) ∧ HH w' b (m ++ p) ∧ Oth b w w' := by
  by_cases h0 : m.length % 128 = 0
  · exact add_none m p hm hp hlen v w hg b hb hH hs hv h0
  · by_cases h1 : m.length % 128 + p.length < 128
    · exact add_wait m p hm hp hlen v w hg b hb hH hs hv _ rfl (by omega) h1
    · exact add_fill m p hm hp hlen v w hg b hb hH hs hv _ (128 - m.length % 128) rfl (by omega) (by omega) (by omega)

/-- How many noughts come behind the mark. -/
def noughts (n : Nat) : Nat := (239 - n % 128) % 128
/-- The bytes that end the blocks. -/
def ends (n : Nat) : List Nat := 128 :: (List.replicate (noughts n) 0 ++ beB (8 * n) 16)
def pad (m : List Nat) : List Nat := m ++ ends m.length
theorem ends_length (n : Nat) : (ends n).length = noughts n + 17 := by simp [ends, beB_length]
theorem ends_get (n j : Nat) : (ends n).getD j 0 = if j = 0 then 128 else if 1 + noughts n ≤ j then (beB (8 * n) 16).getD (j - 1 - noughts n) 0 else 0 := by
  unfold ends
  cases j with
  | zero => simp
  | succ j =>
    rw [if_neg (by omega)]
    simp only [List.getD_eq_getElem?_getD, List.getElem?_cons_succ]
    by_cases h : j < noughts n
    · rw [if_neg (by omega), List.getElem?_append_left (by simp; omega), List.getElem?_replicate, if_pos h]; rfl
    · rw [if_pos (by omega), List.getElem?_append_right (by simp; omega)]
      simp only [List.length_replicate]
      rw [show j + 1 - 1 - noughts n = j - noughts n by omega]
theorem ends_bb (n : Nat) : Bb (ends n) := fun j => by
  rw [ends_get]
  split
  · omega
  · split
    · exact beB_bb _ _ _
    · omega

theorem beB_sixteen (x : Nat) (h : x < 18446744073709551616) : beB x 16 = by8 0 ++ by8 x := by
  refine list_of_getD _ _ (by rw [beB_length, List.length_append, by8_length, by8_length]) (fun j hj => ?_)
  rw [beB_length] at hj
  rw [beB_get _ _ _ hj]
  simp only [List.getD_eq_getElem?_getD]
  by_cases hlt : j < 8
  · rw [List.getElem?_append_left (by rw [by8_length]; exact hlt), ← List.getD_eq_getElem?_getD, by8, beB_get _ _ _ hlt]
    have : 2 ^ 64 ≤ 2 ^ (8 * (16 - 1 - j)) := Nat.pow_le_pow_right (by omega) (by omega)
    rw [Nat.div_eq_of_lt (by omega)]
    simp
  · rw [List.getElem?_append_right (by rw [by8_length]; omega), by8_length, ← List.getD_eq_getElem?_getD, by8, beB_get _ _ _ (by omega), show 8 * (16 - 1 - j) = 8 * (8 - 1 - (j - 8)) by omega]
/-- The bytes that end the blocks, and noughts behind them. -/
theorem ends_tail (N z : Nat) (hN : 8 * N < 18446744073709551616) (hz : noughts N = z) (hz2 : z < 128) :
    splice (splice (bv8 (128 :: List.replicate 143 0)) (1 + z) (bv8 (by8 0))) (1 + z + 8) (bv8 (by8 (8 * N))) = bv8 (ends N ++ List.replicate (127 - z) 0) := by
  have e0 : 128 :: List.replicate 143 0 = (128 :: List.replicate z 0) ++ List.replicate ((by8 0).length + (135 - z)) 0 := by
    rw [by8_length, List.cons_append, List.replicate_append_replicate, show z + (8 + (135 - z)) = 143 by omega]
  have e1 := splice_mid (128 :: List.replicate z 0) (by8 0) (135 - z)
  rw [← e0, show (128 :: List.replicate z 0).length = 1 + z by simp; omega] at e1
  have e2 := splice_mid (128 :: List.replicate z 0 ++ by8 0) (by8 (8 * N)) (127 - z)
  have e3 : ((128 : Nat) :: List.replicate z 0 ++ by8 0 : List Nat).length = 1 + z + 8 := by rw [List.length_append, by8_length]; simp; omega
  rw [by8_length, e3, show 8 + (127 - z) = 135 - z by omega] at e2
  rw [e1, e2]
  unfold ends
  rw [beB_sixteen _ hN, hz]
  simp only [List.cons_append, List.append_assoc]

set_option maxRecDepth 100000 in
set_option maxHeartbeats 2000000 in
theorem end_any (m : List Nat) (hm : Bb m) (hlen : m.length ≤ 100000000) (w : World) (hg : Gl6 w) (b : Nat) (hb : 1 < b) (hH : HH w b m) :
    Calls Tryd.prog 22 #[.pointer (some ⟨b, 0, none⟩)] w fun e w' => e = .returned (.tuple #[]) ∧ HH w' b (pad m) ∧ Oth b w w' := by
  have HH0 : Hid (HH w b m) := hH
  have hblt := hH.lt
  obtain ⟨r0, hr0, hw0, hA0⟩ := hH
  have c72 := hA0.cell 136
  rw [hc_len _ _ _ hr0] at c72
  have HM : Hid (Bb m) := hm
  have HG : Hid (Gl6 w) := hg
  clear hA0 hw0 hm hg
  unfold pad
  obtain ⟨N, hN⟩ : ∃ N, Hid (m.length = N) := ⟨_, rfl⟩
  rw [hN.out] at c72 hlen ⊢
  have hN2 : (N : Int) ≤ 100000000 := by omega
  obtain ⟨z, hz⟩ : ∃ z, Hid (noughts N = z) := ⟨_, rfl⟩
  have hz1 : (239 - (N : Int) % 128) % 128 = (z : Int) := by have := hz.out; unfold noughts at this; omega
  have hz2 : (z : Int) < 128 := by omega
  have hzv : ∀ w, (zeroValue 62).run Tryd.prog w = .ok (.agg (Array.replicate 144 (.int .u8 0))) w := (zero_of_info (by kernel_rfl : (Tryd.prog.info? 62).map (fun i => (i.zero, i.size)) = some (some (.agg (Array.replicate 144 (.int .u8 0))), 144))).1
  have kM : Hid (∀ w, Calls Tryd.prog 34 #[.int .u64 (N : Int), .int .u64 8] w fun e w' => e = .returned (.tuple #[.int .u64 ((0 : Nat) : Int), .int .u64 ((8 * N : Nat) : Int)]) ∧ w' = w) := by
    intro w
    have := mul64_any N 8 (by omega) (by omega) w
    rw [show N * 8 / 18446744073709551616 = 0 by omega, show N * 8 % 18446744073709551616 = 8 * N by omega] at this
    exact this
  go_enter Tryd.func22, Tryd.ntmps22
  go_wp2_with fail
  refine (kM.out _).mono ?_
  rintro e w1 ⟨rfl, hw1⟩
  rw [hw1]
  clear hw1 w1 kM
  go_upto_region 3 with fail
  refine wp_cut (fun W => At 62 W w.heap.size (bv8 (128 :: List.replicate 143 0)) ∧ Below w.heap.size w W) ⟨at_new _ w (bv8 (128 :: List.replicate 143 0)), (Below.refl _ _).alloc (Nat.le_refl _) _⟩ ?_
  rintro W1 ⟨hA1, hB1⟩
  have HA1 : Hid (At 62 W1 w.heap.size (bv8 (128 :: List.replicate 143 0))) := hA1
  have HB1 : Hid (Below w.heap.size w W1) := hB1
  have d72 : W1.cell? ⟨b, 136, none⟩ = some (.int .i64 (N : Int)) := (hB1.cell (p := ⟨b, 136, none⟩) hblt).trans c72
  have hsl : ∀ W, (Instr.sliceAt 62 (.pointer (some ⟨w.heap.size, 0, none⟩)) none (some (.int .i64 (1 + (z : Int)))) none).run Tryd.prog W = .ok (.slice (some ⟨w.heap.size, 0, none⟩) (1 + z) 144) W := by
    intro W
    have h1 : 1 + (z : Int) ≤ 144 := by omega
    have h0 : 0 ≤ 1 + (z : Int) := by omega
    have h2 : (1 + (z : Int)).toNat = 1 + z := by omega
    simp [Instr.sliceAt, Instr.sureAddr, run_underlying Tryd.underlying62, Instr.sliceBounds, run_sliceBound, h0, h1, h2, go_sem]
  have k1 : Hid (Calls Tryd.prog 35 #[.slice (some ⟨w.heap.size, 0, none⟩) (1 + z) 144, .int .u64 ((0 : Nat) : Int)] W1 fun e w' => e = .returned (.slice (some ⟨w.heap.size, 0, none⟩) (1 + z + 8) 144) ∧ At 62 w' w.heap.size (splice (bv8 (128 :: List.replicate 143 0)) (1 + z) (bv8 (by8 0))) ∧ Oth w.heap.size W1 w') :=
    appended_any 0 (by omega) 62 w.heap.size (1 + z) 144 _ W1 hA1 (by omega) (by rw [bv8_length]; simp; omega) (by omega)
  clear hA1 hB1 c72 hzv
  go_wp2_with fail
  refine k1.out.mono ?_
  rintro e W2 ⟨rfl, hA2, hO2⟩
  have B2 : Hid (Below w.heap.size w W2) := Oth.bel HB1.out hO2 (Nat.le_refl _)
  have k2 : Hid (Calls Tryd.prog 35 #[.slice (some ⟨w.heap.size, 0, none⟩) (1 + z + 8) 144, .int .u64 ((8 * N : Nat) : Int)] W2 fun e w' => e = .returned (.slice (some ⟨w.heap.size, 0, none⟩) (1 + z + 8 + 8) 144) ∧ At 62 w' w.heap.size (bv8 (ends N ++ List.replicate (127 - z) 0)) ∧ Oth w.heap.size W2 w') := by
    rw [← ends_tail N z (by omega) hz.out (by omega)]
    exact appended_any (8 * N) (by omega) 62 w.heap.size (1 + z + 8) 144 _ W2 hA2 (by omega) (by rw [length_splice _ _ _ (by rw [bv8_length, bv8_length, by8_length]; simp; omega), bv8_length]; simp; omega) (by omega)
  clear hA2 hO2 k1 HA1 HB1 d72 hsl
  go_wp2_with fail
  refine k2.out.mono ?_
  rintro e W3 ⟨rfl, hA3, hO3⟩
  have B3 : Hid (Below w.heap.size w W3) := Oth.bel B2.out hO3 (Nat.le_refl _)
  have hel : (ends N).length = 1 + z + 8 + 8 := by rw [ends_length, hz.out]; omega
  have hS : SK .u8 W3 (.slice (some ⟨w.heap.size, 0, none⟩) (1 + z + 8 + 8) 144) (ends N) := by
    have := at_bytes hA3 (1 + z + 8 + 8) 144 (by rw [List.length_append, hel]; omega) (by omega)
    rwa [List.take_left' hel] at this
  have kA : Hid (Calls Tryd.prog 21 #[.pointer (some ⟨b, 0, none⟩), .slice (some ⟨w.heap.size, 0, none⟩) (1 + z + 8 + 8) 144] W3 fun e w' => e = .returned (.tuple #[]) ∧ HH w' b (m ++ ends N) ∧ Oth b W3 w') :=
    add_any m (ends N) HM.out (ends_bb N) (by rw [hN.out, hel]; omega) _ W3 (HG.out.below B3.out HG.out.lt) b hb (HH0.out.below B3.out) hS (fun a n c e _ x hx => by simp only [Value.slice.injEq] at e; obtain ⟨rfl, -, -⟩ := e; cases hx; show w.heap.size ≠ b; omega)
  have HO : Hid (Oth b w W3) := oth_of B3.out b
  clear hA3 hO3 k2 B2 hS hel
  go_wp2_with fail
  refine kA.out.mono ?_
  rintro e W4 ⟨rfl, hH1, hO1⟩
  have HH1 : Hid (HH W4 b (m ++ ends N)) := hH1
  have HO1 : Hid (Oth b w W4) := HO.out.trans hO1
  clear hH1 hO1
  go_wp2_with fail
  go_end0
  exact ⟨rfl, HH1.out, HO1.out⟩
end Go.Proofs.YtkkhpjcfojgggaaDoor.Br
