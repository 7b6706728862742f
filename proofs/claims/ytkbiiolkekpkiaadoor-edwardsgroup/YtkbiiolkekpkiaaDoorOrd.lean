/-
  The order of two numbers as -1, 0 or 1, and the contracts of cmp.Compare at words and ints. Conditions: as each theorem says.
-/
import Derived.Test.YtkbiiolkekpkiaaDoorBase
import Derived.Test.YtkbiiolkekpkiaaDoorRefD
namespace Go.Proofs.YtkbiiolkekpkiaaDoor
open Go.RowKit
set_option linter.unusedVariables false

/-- -1, 0 or 1. -/
def ord (x y : Int) : Int := if x < y then -1 else if x = y then 0 else 1
theorem ord_lt {x y : Int} (h : x < y) : ord x y = -1 := by unfold ord; rw [if_pos h]
theorem ord_eq {x y : Int} (h : x = y) : ord x y = 0 := by unfold ord; rw [if_neg (by omega), if_pos h]
theorem ord_gt {x y : Int} (h : y < x) : ord x y = 1 := by unfold ord; rw [if_neg (by omega), if_neg (by omega)]

end Go.Proofs.YtkbiiolkekpkiaaDoor

/-
  The contracts of the document's own Cmp, Sub and Bit over digits of 24 bits: the order of two numbers, their difference, a number's bit. Conditions: as each theorem says.
-/
namespace Go.Proofs.YtkbiiolkekpkiaaDoor
open Go.RowKit
set_option linter.unusedVariables false

theorem valD_split (l : List Nat) (i : Nat) : valD l = valD (l.take i) + 16777216 ^ i * valD (l.drop i) := by
  by_cases hi : i ≤ l.length
  · have := valD_append (l.take i) (l.drop i)
    rw [List.take_append_drop, List.length_take, Nat.min_eq_left hi] at this
    exact this
  · rw [List.take_of_length_le (by omega), List.drop_eq_nil_of_le (by omega)]
    simp [valD]
theorem valD_take_lt (l : List Nat) (hd : Dg l) (i : Nat) : valD (l.take i) < 16777216 ^ i := by
  have h := valD_lt (l.take i) (fun j => by
    rw [List.getD_eq_getElem?_getD, List.getElem?_take]
    split
    · have := hd j; rwa [List.getD_eq_getElem?_getD] at this
    · simp)
  refine Nat.lt_of_lt_of_le h (Nat.pow_le_pow_right (by omega) ?_)
  rw [List.length_take]; omega
theorem drop_eq_of (la lb : List Nat) (hl : la.length = lb.length) (k : Nat) (h : ∀ j, k ≤ j → la.getD j 0 = lb.getD j 0) : la.drop k = lb.drop k := by
  apply List.ext_getElem?
  intro j
  rw [List.getElem?_drop, List.getElem?_drop]
  have := h (k + j) (by omega)
  rw [List.getD_eq_getElem?_getD, List.getD_eq_getElem?_getD] at this
  by_cases hj : k + j < la.length
  · have hj' : k + j < lb.length := by omega
    rw [List.getElem?_eq_getElem hj, List.getElem?_eq_getElem hj'] at this ⊢
    simpa using this
  · rw [List.getElem?_eq_none (by omega), List.getElem?_eq_none (by omega)]
theorem cmpD_lt (la lb : List Nat) (hl : la.length = lb.length) (hda : Dg la) (hdb : Dg lb) (k : Nat) (h : ∀ j, k + 1 ≤ j → la.getD j 0 = lb.getD j 0) (hk : la.getD k 0 < lb.getD k 0) : valD la < valD lb := by
  rw [valD_split la (k + 1), valD_split lb (k + 1), drop_eq_of la lb hl (k + 1) h, valD_take, valD_take]
  have h1 := valD_take_lt la hda k
  have h2 : 16777216 ^ k * (la.getD k 0 + 1) ≤ 16777216 ^ k * lb.getD k 0 := Nat.mul_le_mul_left _ (by omega)
  rw [Nat.mul_add, Nat.mul_one] at h2
  omega
theorem lenD_lt (la lb : List Nat) (hda : Dg la) (hz : Nz lb) (h : la.length < lb.length) : valD la < valD lb := by
  have h1 := valD_lt la hda
  rcases hz with e | e
  · rw [e] at h; simp at h
  · have ht := valD_take lb (lb.length - 1)
    rw [show lb.length - 1 + 1 = lb.length by omega, List.take_length] at ht
    have hp : 16777216 ^ la.length ≤ 16777216 ^ (lb.length - 1) := Nat.pow_le_pow_right (by omega) (by omega)
    have hm : 16777216 ^ (lb.length - 1) * 1 ≤ 16777216 ^ (lb.length - 1) * lb.getD (lb.length - 1) 0 := Nat.mul_le_mul_left _ (by omega)
    generalize 16777216 ^ (lb.length - 1) = P at *
    omega
theorem eqD (la lb : List Nat) (hl : la.length = lb.length) (h : ∀ j, 0 ≤ j → la.getD j 0 = lb.getD j 0) : valD la = valD lb := by
  have := drop_eq_of la lb hl 0 h
  rw [List.drop_zero, List.drop_zero] at this
  rw [this]

set_option maxHeartbeats 2000000 in
theorem cmpR_any (la lb : List Nat) (va vb : Value) (w : World) (ha : Sl w va la) (hb : Sl w vb lb) (hda : Dg la) (hdb : Dg lb) (hza : Nz la) (hzb : Nz lb) (hla : la.length ≤ 100000) (hlb : lb.length ≤ 100000) :
    Calls Tryd.prog 15 #[va, vb] w fun e w' => e = .returned (.int .i64 (ord (valD la : Int) (valD lb : Int))) ∧ Below w.heap.size w w' := by
  obtain ⟨a, capa, rfl, hcapa, hnila, hca⟩ := ha
  obtain ⟨b, capb, rfl, hcapb, hnilb, hcb⟩ := hb
  have Hca : Hid _ := hca
  have Hcb : Hid _ := hcb
  have Hda : Hid (Dg la) := hda
  have Hdb : Hid (Dg lb) := hdb
  have hla' : (la.length : Int) ≤ 100000 := by omega
  have hlb' : (lb.length : Int) ≤ 100000 := by omega
  clear hca hcb hnila hnilb
  rcases Nat.lt_trichotomy la.length lb.length with h | h | h
  · have V : Hid (ord (valD la : Int) (valD lb : Int) = -1) := ord_lt (by have := lenD_lt la lb hda hzb h; omega)
    have h' : (la.length : Int) < lb.length := by omega
    clear hda hdb hza hzb
    go_enter Tryd.func15, Tryd.ntmps15
    go_wp2
    go_ret
    exact ⟨ret_int V.out.symm, Below.refl _ _⟩
  · have h' : (la.length : Int) = lb.length := by omega
    have Hl : Hid (la.length = lb.length) := h
    have h1 : ¬ (la.length : Int) < lb.length := by omega
    have h2 : ¬ (lb.length : Int) < la.length := by omega
    have h3 : (lb.length : Int) ≤ la.length := by omega
    clear hda hdb hza hzb h h'
    go_enter Tryd.func15, Tryd.ntmps15
    go_wp2
    go_loopw [5] (fun z W => ∃ k : Nat, k ≤ la.length ∧ z = .int .i64 ((k : Int) - 1) ∧ Hid (∀ j, k ≤ j → la.getD j 0 = lb.getD j 0) ∧ Hid (Below w.heap.size w W)) (fun z _ => ((intOf z) + 1).toNat)
    case atStart => exact ⟨la.length, Nat.le_refl _, rfl, fun j hj => by rw [getD_ge la j hj, getD_ge lb j (by have := Hl.out; omega)], Below.refl _ _⟩
    case round =>
      obtain ⟨k, hk, rfl, hE, hB⟩ := hrel
      cases k with
      | zero =>
        have V : Hid (ord (valD la : Int) (valD lb : Int) = 0) := ord_eq (by rw [eqD la lb Hl.out hE.out])
        go_wp2
        go_ret
        exact ⟨ret_int V.out.symm, hB.out⟩
      | succ k =>
        obtain ⟨ba, oa, rfl, hba, hcella⟩ := Hca.out k (by omega)
        obtain ⟨bb, ob, rfl, hbb, hcellb⟩ := Hcb.out k (by have := Hl.out; omega)
        obtain ⟨x, hx⟩ : ∃ x, Hid (la.getD k 0 = x) := ⟨_, rfl⟩
        obtain ⟨y, hy⟩ : ∃ y, Hid (lb.getD k 0 = y) := ⟨_, rfl⟩
        rw [hx.out] at hcella
        rw [hy.out] at hcellb
        have ca : wr.cell? ⟨ba, oa + k, none⟩ = some (.int .i64 (x : Int)) := (hB.out.cell (p := ⟨ba, oa + k, none⟩) hba).trans hcella
        have cb : wr.cell? ⟨bb, ob + k, none⟩ = some (.int .i64 (y : Int)) := (hB.out.cell (p := ⟨bb, ob + k, none⟩) hbb).trans hcellb
        have hkl : (k : Int) < la.length := by omega
        have hkb : (k : Int) < lb.length := by omega
        have hk0 : (0 : Int) ≤ (k : Int) := by omega
        clear hcella hcellb
        rcases Nat.lt_trichotomy x y with hxy | hxy | hxy
        · have V : Hid (ord (valD la : Int) (valD lb : Int) = -1) := ord_lt (by have := cmpD_lt la lb Hl.out Hda.out Hdb.out k hE.out (by rw [hx.out, hy.out]; exact hxy); omega)
          have hxy' : (x : Int) < y := by omega
          clear hxy
          go_wp2
          go_region
          go_wp2
          go_ret
          exact ⟨ret_int V.out.symm, hB.out.drew⟩
        · have hE' : Hid (∀ j, k ≤ j → la.getD j 0 = lb.getD j 0) := fun j hj => by
            by_cases e : j = k
            · subst e; rw [hx.out, hy.out, hxy]
            · exact hE.out j (by omega)
          subst hxy
          go_wp2
          go_region
          go_wp2
          go_region
          go_wp2
          go_roundw
          case rel => exact ⟨k, by omega, by go_num, hE', hB.out.drew.drew⟩
          case measure => simp [intOf]
        · have V : Hid (ord (valD la : Int) (valD lb : Int) = 1) := ord_gt (by have := cmpD_lt lb la Hl.out.symm Hdb.out Hda.out k (fun j hj => (hE.out j hj).symm) (by rw [hx.out, hy.out]; exact hxy); omega)
          have hxy' : (y : Int) < x := by omega
          have hxy2 : ¬ (x : Int) < y := by omega
          clear hxy
          go_wp2
          go_region
          go_wp2
          go_region
          go_wp2
          go_ret
          exact ⟨ret_int V.out.symm, hB.out.drew.drew⟩
  · have V : Hid (ord (valD la : Int) (valD lb : Int) = 1) := ord_gt (by have := lenD_lt lb la hdb hza h; omega)
    have h' : (lb.length : Int) < la.length := by omega
    have h'' : ¬ (la.length : Int) < lb.length := by omega
    clear hda hdb hza hzb
    go_enter Tryd.func15, Tryd.ntmps15
    go_wp2
    go_ret
    exact ⟨ret_int V.out.symm, Below.refl _ _⟩

end Go.Proofs.YtkbiiolkekpkiaaDoor
