/-
  The contract of the document's own Add over digits of 24 bits: the digits of the sum. Conditions: as the theorem says.
-/
import Derived.Test.YtkkhpjcfojgggaaDoorRefA
namespace Go.Proofs.YtkkhpjcfojgggaaDoor
open Go.RowKit
set_option linter.unusedVariables false

theorem addD_step (la lb o : List Nat) (i c x y : Nat) (hi : o.length = i) (hx : la.getD i 0 = x) (hy : lb.getD i 0 = y) (h : valD o + 16777216 ^ i * c = valD (la.take i) + valD (lb.take i)) :
    valD (o ++ [(c + x + y) % 16777216]) + 16777216 ^ (i + 1) * ((c + x + y) / 16777216) = valD (la.take (i + 1)) + valD (lb.take (i + 1)) := by
  rw [valD_snoc, valD_take, valD_take, hi, hx, hy, Nat.pow_succ, Nat.mul_assoc, Nat.add_assoc, ← Nat.mul_add, Nat.mod_add_div, Nat.mul_add, Nat.mul_add]
  omega
theorem getD_ge (l : List Nat) (i : Nat) (h : l.length ≤ i) : l.getD i 0 = 0 := by
  rw [List.getD_eq_getElem?_getD, List.getElem?_eq_none h]; rfl

/-- A sum's state behind i rounds. -/
def AddAt (la lb : List Nat) (i c : Nat) (o : List Nat) : Prop :=
  o.length = i ∧ Dg o ∧ c ≤ 1 ∧ i ≤ max la.length lb.length + 1 ∧ valD o + 16777216 ^ i * c = valD (la.take i) + valD (lb.take i)
theorem AddAt.step {la lb : List Nat} {i c : Nat} {o : List Nat} (h : AddAt la lb i c o) (x y : Nat) (hx : la.getD i 0 = x) (hy : lb.getD i 0 = y) (hda : Dg la) (hdb : Dg lb) (hi : i ≤ max la.length lb.length) :
    AddAt la lb (i + 1) ((c + x + y) / 16777216) (o ++ [(c + x + y) % 16777216]) := by
  obtain ⟨h1, h2, h3, h4, h5⟩ := h
  have := hda i
  have := hdb i
  refine ⟨by simp [h1], h2.snoc (Nat.mod_lt _ (by omega)), ?_, by omega, addD_step la lb o i c x y h1 hx hy h5⟩
  omega

set_option maxHeartbeats 4000000 in
theorem addR_any (la lb : List Nat) (va vb : Value) (w : World) (ha : Sl w va la) (hb : Sl w vb lb) (hda : Dg la) (hdb : Dg lb) (hla : la.length ≤ 100000) (hlb : lb.length ≤ 100000) :
    Calls Tryd.prog 39 #[va, vb] w fun e w' => ∃ v, e = .returned v ∧ Num w' v (valD la + valD lb) ∧ Below w.heap.size w w' := by
  obtain ⟨a, capa, rfl, hcapa, hnila, hca⟩ := ha
  obtain ⟨b, capb, rfl, hcapb, hnilb, hcb⟩ := hb
  have Hca : Hid _ := hca
  have Hcb : Hid _ := hcb
  have Hda : Hid (Dg la) := hda
  have Hdb : Hid (Dg lb) := hdb
  clear hca hcb hda hdb hnila hnilb
  have hla' : (la.length : Int) ≤ 100000 := by omega
  have hlb' : (lb.length : Int) ≤ 100000 := by omega
  go_enter Tryd.func39, Tryd.ntmps39
  go_wp2
  go_loopw [5, 6, 7] (fun v x y wr => ∃ (i c : Nat) (o : List Nat), y = .int .i64 i ∧ x = .int .i64 c ∧ Own w.heap.size wr v o ∧ Below w.heap.size w wr ∧ Hid (AddAt la lb i c o)) (fun _ x y _ => 2 * (max la.length lb.length - (intOf y).toNat) + (intOf x).toNat)
  case atStart => exact ⟨0, 0, [], rfl, rfl, Own.nil _ _, Below.refl _ _, rfl, Dg.nil, by omega, by omega, by simp [valD]⟩
  case round =>
    obtain ⟨i, c, o, rfl, rfl, hown, hbel, H⟩ := hrel
    have hol : o.length = i := H.out.1
    have hc1 : (c : Int) ≤ 1 := by have := H.out.2.2.1; omega
    have hi1 : (i : Int) ≤ 100001 := by have := H.out.2.2.2.1; omega
    have hsz := hbel.size
    have Hb : Hid (Below w.heap.size w wr) := hbel
    have Ho : Hid (Own w.heap.size wr u5 o) := hown
    have Hol : Hid (o.length = i) := hol
    have hlen : o.length ≤ 1000000 := by omega
    clear hown hbel hol
    obtain ⟨x, hx⟩ : ∃ x, Hid (la.getD i 0 = x) := ⟨_, rfl⟩
    obtain ⟨y, hy⟩ : ∃ y, Hid (lb.getD i 0 = y) := ⟨_, rfl⟩
    have hx1 : (x : Int) ≤ 16777215 := by have := Hda.out i; rw [hx.out] at this; omega
    have hy1 : (y : Int) ≤ 16777215 := by have := Hdb.out i; rw [hy.out] at this; omega
    by_cases hia : i < la.length
    · have hia' : (i : Int) < la.length := by omega
      have R : Hid _ := H.out.step x y hx.out hy.out Hda.out Hdb.out (by omega)
      obtain ⟨ba, oa, rfl, hba, hcella⟩ := Hca.out i hia
      rw [hx.out] at hcella
      have hcella' : wr.cell? ⟨ba, oa + i, none⟩ = some (.int .i64 (x : Int)) := (Hb.out.cell (p := ⟨ba, oa + i, none⟩) hba).trans hcella
      clear hcella
      by_cases hib : i < lb.length
      · have hib' : (i : Int) < lb.length := by omega
        obtain ⟨bb, ob, rfl, hbb, hcellb⟩ := Hcb.out i hib
        rw [hy.out] at hcellb
        have hcellb' : wr.cell? ⟨bb, ob + i, none⟩ = some (.int .i64 (y : Int)) := (Hb.out.cell (p := ⟨bb, ob + i, none⟩) hbb).trans hcellb
        clear hcellb
        go_wp2_with (at_builtin; refine wpList_app1 rfl _ _ rfl w.heap.size u5 o ((c + x + y) % 16777216) _ (by omega) rfl Ho.out rfl hlen hsz ?_; intro v' w1 hown' hb')
        go_roundw
        case rel => exact ⟨i + 1, (c + x + y) / 16777216, _, by go_num, by go_num, hown', Hb.out.trans hb', R⟩
        case measure => simp [intOf]; omega
      · have hib' : (lb.length : Int) ≤ i := by omega
        have hy0 : y = 0 := by rw [← hy.out]; exact getD_ge lb i (by omega)
        subst hy0
        go_wp2_with (at_builtin; refine wpList_app1 rfl _ _ rfl w.heap.size u5 o ((c + x + 0) % 16777216) _ (by omega) rfl Ho.out rfl hlen hsz ?_; intro v' w1 hown' hb')
        go_roundw
        case rel => exact ⟨i + 1, (c + x + 0) / 16777216, _, by go_num, by go_num, hown', Hb.out.trans hb', R⟩
        case measure => simp [intOf]; omega
    · have hia' : (la.length : Int) ≤ i := by omega
      have hx0 : x = 0 := by rw [← hx.out]; exact getD_ge la i (by omega)
      subst hx0
      by_cases hib : i < lb.length
      · have hib' : (i : Int) < lb.length := by omega
        have R : Hid _ := H.out.step 0 y hx.out hy.out Hda.out Hdb.out (by omega)
        obtain ⟨bb, ob, rfl, hbb, hcellb⟩ := Hcb.out i hib
        rw [hy.out] at hcellb
        have hcellb' : wr.cell? ⟨bb, ob + i, none⟩ = some (.int .i64 (y : Int)) := (Hb.out.cell (p := ⟨bb, ob + i, none⟩) hbb).trans hcellb
        clear hcellb
        go_wp2_with (at_builtin; refine wpList_app1 rfl _ _ rfl w.heap.size u5 o ((c + 0 + y) % 16777216) _ (by omega) rfl Ho.out rfl hlen hsz ?_; intro v' w1 hown' hb')
        go_roundw
        case rel => exact ⟨i + 1, (c + 0 + y) / 16777216, _, by go_num, by go_num, hown', Hb.out.trans hb', R⟩
        case measure => simp [intOf]; omega
      · have hib' : (lb.length : Int) ≤ i := by omega
        have hy0 : y = 0 := by rw [← hy.out]; exact getD_ge lb i (by omega)
        subst hy0
        have hv : c = 0 → valD o = valD la + valD lb := fun e => by
          have := H.out.2.2.2.2
          rw [e, valD_take_all la i (by omega), valD_take_all lb i (by omega)] at this
          simpa using this
        have hdo := H.out.2.1
        by_cases hc0 : c = 0
        · subst hc0
          have hv0 : Hid _ := hv rfl
          have Hdo : Hid _ := hdo
          clear hv hdo
          go_wp2_with (go_at_call 40; refine (trim_any o u5 _ Ho.out.sl hlen Hdo.out).mono ?_; rintro e w' ⟨v', rfl, hN, rfl⟩)
          go_ret
          exact ⟨_, rfl, by rw [← hv0.out]; exact hN, Hb.out⟩
        · have hc2 : c = 1 := by have := H.out.2.2.1; omega
          subst hc2
          have hmx : i ≤ max la.length lb.length := by
            have h5 := H.out.2.2.2.2
            have h4 := H.out.2.2.2.1
            rcases Nat.lt_or_ge (max la.length lb.length) i with h | h
            · exfalso
              have l1 := valD_lt la Hda.out
              have l2 := valD_lt lb Hdb.out
              rw [valD_take_all la i (by omega), valD_take_all lb i (by omega)] at h5
              have e : i = max la.length lb.length + 1 := by omega
              have p1 : 16777216 ^ la.length ≤ 16777216 ^ (max la.length lb.length) := Nat.pow_le_pow_right (by omega) (by omega)
              have p2 : 16777216 ^ lb.length ≤ 16777216 ^ (max la.length lb.length) := Nat.pow_le_pow_right (by omega) (by omega)
              rw [e, Nat.pow_succ] at h5
              omega
            · exact h
          have R : Hid _ := H.out.step 0 0 hx.out hy.out Hda.out Hdb.out hmx
          have Hmx : Hid _ := hmx
          clear hv hdo hc0 hmx
          go_wp2_with (at_builtin; refine wpList_app1 rfl _ _ rfl w.heap.size u5 o ((1 + 0 + 0) % 16777216) _ (by omega) rfl Ho.out rfl hlen hsz ?_; intro v' w1 hown' hb')
          go_roundw
          case rel => exact ⟨i + 1, (1 + 0 + 0) / 16777216, _, by go_num, by go_num, hown', Hb.out.trans hb', R⟩
          case measure => simp [intOf]; omega

end Go.Proofs.YtkkhpjcfojgggaaDoor
