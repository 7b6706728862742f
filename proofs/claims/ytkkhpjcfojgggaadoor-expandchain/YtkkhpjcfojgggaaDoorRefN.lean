/-
  The contracts of the document's own Mul and Small over digits of 24 bits: the digits of the product. Conditions: as each theorem says.
-/
import Derived.Test.YtkkhpjcfojgggaaDoorRefM
namespace Go.Proofs.YtkkhpjcfojgggaaDoor
open Go.RowKit
set_option linter.unusedVariables false

theorem make_ints (n : Nat) (hn : n ≤ 1000000) (z : Int) (hz : z = (n : Int)) (w : World) : (Instr.makeSlice 43 (.int .i64 z) (.int .i64 z)).run Tryd.prog w = .ok (.slice (some ⟨w.heap.size, 0, none⟩) n n) (w.alloc (.cells (madeCells #[.int .i64 0] n) 3)) := by
  subst hz
  obtain ⟨i0, hi, hz0, hz1, hz2⟩ := info_parts info_int
  have h := run_make (P := Tryd.prog) w 43 3 i0 (.int .i64 0) Tryd.underlying43 hi hz0 .i64 .i64 n n (by omega) (by omega) (by rw [hz2]; omega) (by omega)
  rw [h, hz1]
  simp [Value.cells]

set_option maxHeartbeats 4000000 in
theorem mulR_any (la lb : List Nat) (va vb : Value) (w : World) (ha : Sl w va la) (hb : Sl w vb lb) (hda : Dg la) (hdb : Dg lb) (hla : la.length ≤ 100000) (hlb : lb.length ≤ 100000) :
    Calls Tryd.prog 47 #[va, vb] w fun e w' => ∃ v, e = .returned v ∧ Num w' v (valD la * valD lb) ∧ Below w.heap.size w w' := by
  obtain ⟨a, capa, rfl, hcapa, hnila, hca⟩ := ha
  obtain ⟨b, capb, rfl, hcapb, hnilb, hcb⟩ := hb
  have Hca : Hid _ := hca
  have Hcb : Hid _ := hcb
  have Hda : Hid (Dg la) := hda
  have Hdb : Hid (Dg lb) := hdb
  clear hca hcb hda hdb hnila hnilb
  have hla' : (la.length : Int) ≤ 100000 := by omega
  have hlb' : (lb.length : Int) ≤ 100000 := by omega
  obtain ⟨n, hn⟩ : ∃ n, Hid (n = la.length + lb.length + 1) := ⟨_, rfl⟩
  have hn1 : (n : Int) = la.length + lb.length + 1 := by have := hn.out; omega
  have hn2 : n ≤ 1000000 := by omega
  have hmk := fun w => make_ints n hn2 ((la.length : Int) + (lb.length : Int) + 1) (by omega) w
  have Hn1 : Hid _ := hn1
  clear hn1
  go_enter Tryd.func47, Tryd.ntmps47
  go_wp2
  clear hmk
  have hnl : (la.length : Int) + (lb.length : Int) < (n : Int) := by have := Hn1.out; omega
  go_loopw [6] (fun y W => ∃ (i : Nat) (o : List Nat), y = .int .i64 i ∧ i ≤ la.length ∧ Row .i64 w.heap.size w.heap.size o W ∧ Below w.heap.size w W ∧ Hid (MulAt la lb i 0 0 o)) (fun y _ => la.length - (intOf y).toNat)
  case atStart =>
    refine ⟨0, _, rfl, Nat.zero_le _, Row.made w n _, (Below.refl _ _).alloc (Nat.le_refl _) _, ?_⟩
    rw [hn.out]; exact MulAt.start la lb
  case round =>
    obtain ⟨i, o, rfl, hi, hrow, hbel, H⟩ := hrel
    have hol : o.length = n := by rw [H.out.1, hn.out]
    have Hol : Hid (o.length = n) := hol
    by_cases hlt : i < la.length
    · have hlt' : (i : Int) < la.length := by omega
      have Hr : Hid (Row .i64 w.heap.size w.heap.size o wr) := hrow
      have Hb : Hid (Below w.heap.size w wr) := hbel
      clear hrow hbel hol
      go_wp2
      go_loopw [7, 8] (fun z y W => ∃ (j c : Nat) (o : List Nat), y = .int .i64 j ∧ z = .int .i64 c ∧ j ≤ lb.length ∧ Row .i64 w.heap.size w.heap.size o W ∧ Below w.heap.size w W ∧ Hid (MulAt la lb i j c o)) (fun _ y _ => lb.length - (intOf y).toNat)
      case atStart => exact ⟨0, 0, o, rfl, rfl, Nat.zero_le _, Hr.out, Hb.out, H⟩
      case round =>
        clear H Hr Hb Hol
        obtain ⟨j, c, o, rfl, rfl, hj, hrow, hbel, H⟩ := hrel
        have hol : o.length = n := by rw [H.out.1, hn.out]
        have hc1 : (c : Int) ≤ 16777215 := by have := H.out.2.2.1; omega
        by_cases hjl : j < lb.length
        · have hjl' : (j : Int) < lb.length := by omega
          obtain ⟨ba, oa, rfl, hba, hcella⟩ := Hca.out i hlt
          obtain ⟨bb, ob, rfl, hbb, hcellb⟩ := Hcb.out j hjl
          obtain ⟨x, hx⟩ : ∃ x, Hid (la.getD i 0 = x) := ⟨_, rfl⟩
          obtain ⟨y, hy⟩ : ∃ y, Hid (lb.getD j 0 = y) := ⟨_, rfl⟩
          obtain ⟨q, hq⟩ : ∃ q, Hid (o.getD (i + j) 0 = q) := ⟨_, rfl⟩
          have hx1 : x ≤ 16777215 := by have := Hda.out i; rw [hx.out] at this; omega
          have hy1 : y ≤ 16777215 := by have := Hdb.out j; rw [hy.out] at this; omega
          have hq1 : (q : Int) ≤ 16777215 := by have := H.out.2.1 (i + j); rw [hq.out] at this; omega
          have hxy : (x : Int) * (y : Int) ≤ 281474943156225 := by have := Nat.mul_le_mul hx1 hy1; rw [← Int.natCast_mul]; omega
          have hxy0 : 0 ≤ (x : Int) * (y : Int) := Int.mul_nonneg (by omega) (by omega)
          rw [hx.out] at hcella
          rw [hy.out] at hcellb
          have ca : wr.cell? ⟨ba, oa + i, none⟩ = some (.int .i64 (x : Int)) := (hbel.cell (p := ⟨ba, oa + i, none⟩) hba).trans hcella
          have cb : wr.cell? ⟨bb, ob + j, none⟩ = some (.int .i64 (y : Int)) := (hbel.cell (p := ⟨bb, ob + j, none⟩) hbb).trans hcellb
          have co := hrow.cell (i + j) (by omega)
          rw [hq.out] at co
          have fo := hrow.free (i + j)
          have R : Hid _ := H.out.step hlt hjl Hda.out Hdb.out q x y hq.out hx.out hy.out
          have Hr : Hid (Row .i64 w.heap.size w.heap.size o wr) := hrow
          have Hb : Hid (Below w.heap.size w wr) := hbel
          have hij : (i : Int) + (j : Int) < (n : Int) := by omega
          clear hcella hcellb hrow hbel hol
          go_wp2
          go_region
          go_wp2
          go_roundw
          case rel =>
            have ev : (((c + q + x * y) % 16777216 : Nat) : Int) = ((c : Int) + q + x * y) % 16777216 := by simp
            have ew : (((c + q + x * y) / 16777216 : Nat) : Int) = ((c : Int) + q + x * y) / 16777216 := by simp
            refine ⟨j + 1, (c + q + x * y) / 16777216, _, by go_num, by rw [ew], by omega, ?_, ?_, R⟩
            · rw [← ev]; exact (Hr.out.set (i + j) _ (by have := H.out.1; omega)).drew
            · exact (Hb.out.setCell (Nat.le_refl _) _).drew
          case measure => simp [intOf]; omega
        · obtain rfl : j = lb.length := by omega
          obtain ⟨hz, R⟩ := H.out.row hlt
          have R' : Hid _ := R
          have co := hrow.cell (i + lb.length) (by omega)
          rw [hz] at co
          have fo := hrow.free (i + lb.length)
          have Hr : Hid (Row .i64 w.heap.size w.heap.size o wr) := hrow
          have Hb : Hid (Below w.heap.size w wr) := hbel
          have hij : (i : Int) + (lb.length : Int) < (n : Int) := by omega
          clear hrow hbel hol R hz
          go_wp2
          go_roundw
          case rel =>
            refine ⟨i + 1, _, by go_num, by omega, ?_, ?_, R'⟩
            · exact Hr.out.set (i + lb.length) _ (by have := H.out.1; omega)
            · exact Hb.out.setCell (Nat.le_refl _) _
          case measure => simp [intOf]; omega
    · obtain rfl : i = la.length := by omega
      have hv := H.out.done rfl
      have hsl := hrow.sl
      rw [hol] at hsl
      have Hs : Hid (Sl wr (.slice (some ⟨w.heap.size, 0, none⟩) n n) o) := hsl
      have Hv : Hid _ := hv
      have Hd : Hid (Dg o) := H.out.2.1
      clear hv hsl hol hrow
      go_wp2_with (go_at_call 40; refine (trim_any o _ _ Hs.out (by rw [Hol.out]; exact hn2) Hd.out).mono ?_; rintro e w' ⟨v', rfl, hN, rfl⟩)
      go_ret
      exact ⟨_, rfl, by rw [← Hv.out]; exact hN, hbel⟩

set_option maxHeartbeats 1000000 in
theorem small_any (la : List Nat) (va : Value) (n : Nat) (w : World) (ha : Sl w va la) (hda : Dg la) (hla : la.length ≤ 100000) (hn : n ≤ 9223372036854775807) :
    Calls Tryd.prog 43 #[va, .int .i64 (n : Int)] w fun e w' => ∃ v, e = .returned v ∧ Num w' v (valD la * n) ∧ Below w.heap.size w w' := by
  have Ha : Hid (Sl w va la) := ha
  have Hda : Hid (Dg la) := hda
  obtain ⟨a, capa, rfl, -, -, -⟩ := ha
  clear hda
  go_enter Tryd.func43, Tryd.ntmps43
  go_wp2_with fail
  refine (int_any n hn _).mono ?_
  rintro e w1 ⟨v1, rfl, hN, b1⟩
  obtain ⟨l1, s1, d1, z1, rfl⟩ := hN
  have hl1 : l1.length ≤ 100000 := by
    rcases Nat.lt_or_ge l1.length 4 with h | h
    · omega
    · exfalso
      rcases z1 with e | e
      · rw [e] at h; simp at h
      · have := valD_take l1 (l1.length - 1)
        rw [show l1.length - 1 + 1 = l1.length by omega, List.take_length] at this
        have hp : 16777216 ^ 3 ≤ 16777216 ^ (l1.length - 1) := Nat.pow_le_pow_right (by omega) (by omega)
        have hm : 16777216 ^ (l1.length - 1) * 1 ≤ 16777216 ^ (l1.length - 1) * l1.getD (l1.length - 1) 0 := Nat.mul_le_mul_left _ (by omega)
        have h3 : (16777216 : Nat) ^ 3 = 4722366482869645213696 := by decide
        omega
  have S1 : Hid (Sl w1 v1 l1) := s1
  have D1 : Hid (Dg l1) := d1
  have B1 : Hid (Below w.heap.size w w1) := b1
  obtain ⟨a1, cap1, rfl, -, -, -⟩ := s1
  clear d1 z1 b1
  go_wp2_with fail
  refine (mulR_any la l1 _ _ _ (Ha.out.below B1.out) S1.out Hda.out D1.out hla hl1).mono ?_
  rintro e w2 ⟨v2, rfl, hN2, b2⟩
  have Hq : Hid (Num w2 v2 (valD la * valD l1)) := hN2
  have hq : ∃ a c d, v2 = .slice a c d := by obtain ⟨l, ⟨a, c, e, _⟩, _⟩ := hN2; exact ⟨a, _, c, e⟩
  obtain ⟨a, c, d, rfl⟩ := hq
  go_wp2
  go_ret
  exact ⟨_, rfl, Hq.out, B1.out.trans (b2.mono B1.out.size)⟩

end Go.Proofs.YtkkhpjcfojgggaaDoor
