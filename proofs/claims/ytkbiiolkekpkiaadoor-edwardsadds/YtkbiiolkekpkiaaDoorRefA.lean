/-
  The contracts of the document's own Pow2, Trim and Int over digits of 24 bits: powers of two, digits without noughts at the end, the digits of a number. Conditions: as each theorem says.
-/
import Derived.Test.YtkbiiolkekpkiaaDoorNum
namespace Go.Proofs.YtkbiiolkekpkiaaDoor
open Go.RowKit
set_option linter.unusedVariables false

set_option maxHeartbeats 400000 in
theorem pow2_any (n : Nat) (hn : n ≤ 61) (w : World) : Calls Tryd.prog 70 #[.int .i64 (n : Int)] w fun e w' => e = .returned (.int .i64 ((2 ^ n : Nat) : Int)) ∧ w' = w := by
  have hn' : (n : Int) ≤ 61 := by omega
  go_enter Tryd.func70, Tryd.ntmps70
  go_wp2
  go_loop [3, 4] (fun x i => ∃ k : Nat, k ≤ n ∧ i = .int .i64 k ∧ ∃ p : Nat, Hid (p = 2 ^ k) ∧ x = .int .i64 (p : Int)) (fun _ i => n - (intOf i).toNat)
  case atStart => exact ⟨0, Nat.zero_le _, rfl, 1, rfl, rfl⟩
  case round =>
    obtain ⟨k, hk, rfl, p, hp, rfl⟩ := hrel
    by_cases hlt : k < n
    · have hlt' : (k : Int) < n := by omega
      have hb : (p : Int) ≤ 1152921504606846976 := by
        have : p ≤ 2 ^ 60 := by rw [hp.out]; exact Nat.pow_le_pow_right (by omega) (by omega)
        omega
      go_wp2
      go_round
      case rel => exact ⟨k + 1, by omega, by go_num, 2 * p, by unfold Hid at *; rw [hp, Nat.pow_succ, Nat.mul_comm], by go_num⟩
      case measure => simp [intOf]; omega
    · obtain rfl : k = n := by omega
      go_wp2
      go_ret
      exact ⟨ret_int (by rw [hp.out]; simp), rfl⟩

set_option maxHeartbeats 400000 in
theorem trim_any (l : List Nat) (v : Value) (w : World) (h : Sl w v l) (hl : l.length ≤ 1000000) (hd : Dg l) :
    Calls Tryd.prog 71 #[v] w fun e w' => ∃ v', e = .returned v' ∧ Num w v' (valD l) ∧ w' = w := by
  obtain ⟨a, cap, rfl, hcap, hnil, hc⟩ := h
  have Hc : Hid _ := hc
  clear hc
  go_enter Tryd.func71, Tryd.ntmps71
  go_wp2
  go_loop [3] (fun x => ∃ n : Nat, n ≤ l.length ∧ x = .int .i64 n ∧ Hid (valD (l.take n) = valD l)) (fun x => (intOf x).toNat)
  case atStart => exact ⟨l.length, Nat.le_refl _, rfl, by unfold Hid; rw [List.take_length]⟩
  case round =>
    obtain ⟨n, hn, rfl, hv⟩ := hrel
    cases n with
    | zero =>
      have hv' : valD l = 0 := by rw [← hv.out]; rfl
      have H : Hid (Num w (.slice a 0 cap) (valD l)) := ⟨[], ⟨a, cap, rfl, Nat.zero_le _, fun h => ⟨rfl, (hnil h).2⟩, fun j hj => by simp at hj⟩, Dg.nil, Or.inl rfl, hv'.symm⟩
      clear hv'
      go_wp2
      go_ret
      exact ⟨_, rfl, H.out, rfl⟩
    | succ n =>
      obtain ⟨b, o, rfl, hb, hcell⟩ := Hc.out n (by omega)
      obtain ⟨d, hd'⟩ : ∃ d, Hid (l.getD n 0 = d) := ⟨_, rfl⟩
      rw [hd'.out] at hcell
      have hn' : (n : Int) + 1 ≤ l.length := by omega
      by_cases hz : d = 0
      · subst hz
        go_wp2
        go_round
        case rel =>
          refine ⟨n, by omega, by go_num, ?_⟩
          have := valD_take l n
          rw [hd'.out] at this
          unfold Hid at *
          omega
        case measure => simp [intOf]
      · have hz' : ((d : Int) == 0) = false := by simp [hz]
        have H : Hid (Num w (.slice (some ⟨b, o, none⟩) (n + 1) cap) (valD l)) := by
          have e : (l.take (n + 1)).length = n + 1 := by rw [List.length_take]; omega
          have g : ∀ j, j < n + 1 → (l.take (n + 1)).getD j 0 = l.getD j 0 := fun j hj => by
            simp [List.getD_eq_getElem?_getD, hj]
          refine ⟨l.take (n + 1), ⟨some ⟨b, o, none⟩, cap, by rw [e], by omega, fun h => (by simp at h), fun j hj => ?_⟩, fun j => ?_, Or.inr ?_, hv.out⟩
          · obtain ⟨b', o', e1, e2, e3⟩ := Hc.out j (by omega)
            rw [g j (by omega)]
            exact ⟨b', o', e1, e2, e3⟩
          · by_cases hj : j < n + 1
            · rw [g j hj]; exact hd j
            · rw [List.getD_eq_getElem?_getD, List.getElem?_eq_none (by omega)]; decide
          · rw [e, show n + 1 - 1 = n by omega, g n (by omega), hd'.out]; exact hz
        clear hz
        go_wp2
        go_ret
        exact ⟨_, rfl, H.out, rfl⟩

set_option maxHeartbeats 1000000 in
/-- The digits of a number that fits an int. -/
theorem int_any (n : Nat) (hn : n ≤ 9223372036854775807) (w : World) : Calls Tryd.prog 62 #[.int .i64 (n : Int)] w fun e w' => ∃ v, e = .returned v ∧ Num w' v n ∧ Below w.heap.size w w' := by
  go_enter Tryd.func62, Tryd.ntmps62
  go_wp2
  go_loopw [0, 3] (fun x v wr => ∃ (m : Nat) (l : List Nat), x = .int .i64 m ∧ Own w.heap.size wr v l ∧ Below w.heap.size w wr ∧ Hid (Dg l ∧ l.length ≤ 3 ∧ valD l + 16777216 ^ l.length * m = n ∧ (m = 0 → Nz l))) (fun x _ _ => (intOf x).toNat)
  case atStart => exact ⟨n, [], rfl, Own.nil _ _, Below.refl _ _, Dg.nil, by simp, by simp [valD], fun _ => Or.inl rfl⟩
  case round =>
    obtain ⟨m, l, rfl, hown, hbel, h1, h2, h3, h4⟩ := hrel
    have hmn : m ≤ n := by
      have : 1 * m ≤ 16777216 ^ l.length * m := Nat.mul_le_mul_right _ (Nat.pos_of_ne_zero (by simp))
      omega
    have hm' : (m : Int) ≤ 9223372036854775807 := by omega
    by_cases hm : 0 < m
    · have hl : l.length ≤ 2 := by
        rcases Nat.lt_or_ge l.length 3 with h | h
        · omega
        · have e : l.length = 3 := by omega
          rw [e] at h3
          omega
      have hpos : (0 : Int) < m := by omega
      have R : Hid (Dg (l ++ [m % 16777216]) ∧ (l ++ [m % 16777216]).length ≤ 3 ∧ valD (l ++ [m % 16777216]) + 16777216 ^ (l ++ [m % 16777216]).length * (m / 16777216) = n ∧ (m / 16777216 = 0 → Nz (l ++ [m % 16777216]))) := by
        refine ⟨h1.snoc (Nat.mod_lt _ (by omega)), by simp; omega, ?_, fun hz => Nz.snoc (by omega)⟩
        rw [valD_snoc, List.length_append, List.length_singleton, Nat.pow_succ, Nat.mul_assoc, Nat.add_assoc, ← Nat.mul_add, Nat.mod_add_div]
        exact h3
      have hsz := hbel.size
      have Hb : Hid (Below w.heap.size w wr) := hbel
      have Ho : Hid (Own w.heap.size wr u3 l) := hown
      have Hl : Hid _ := hl
      clear h1 h2 h3 h4 hown hbel
      go_wp2_with (at_builtin; refine wpList_app1 rfl _ _ rfl w.heap.size u3 l (m % 16777216) _ (by omega) rfl Ho.out rfl (by omega) hsz ?_; intro v' w1 hown' hb')
      go_roundw
      case rel => exact ⟨m / 16777216, _, by go_num, hown', Hb.out.trans hb', R⟩
      case measure => simp [intOf]; omega
    · obtain rfl : m = 0 := by omega
      have R : Hid _ := (⟨l, hown.sl, h1, h4 rfl, by simpa using h3⟩ : Num wr u3 n)
      clear h1 h2 h3 h4
      go_wp2
      go_ret
      exact ⟨_, rfl, R.out, hbel⟩

end Go.Proofs.YtkbiiolkekpkiaaDoor

/-
  The contract of the document's own Add over digits of 24 bits: the digits of the sum. Conditions: as the theorem says.
-/
namespace Go.Proofs.YtkbiiolkekpkiaaDoor
open Go.RowKit
set_option linter.unusedVariables false

theorem addD_step (la lb o : List Nat) (i c x y : Nat) (hi : o.length = i) (hx : la.getD i 0 = x) (hy : lb.getD i 0 = y) (h : valD o + 16777216 ^ i * c = valD (la.take i) + valD (lb.take i)) :
    valD (o ++ [(c + x + y) % 16777216]) + 16777216 ^ (i + 1) * ((c + x + y) / 16777216) = valD (la.take (i + 1)) + valD (lb.take (i + 1)) := by
  rw [valD_snoc, valD_take, valD_take, hi, hx, hy, Nat.pow_succ, Nat.mul_assoc, Nat.add_assoc, ← Nat.mul_add, Nat.mod_add_div, Nat.mul_add, Nat.mul_add]
  omega
theorem getD_ge (l : List Nat) (i : Nat) (h : l.length ≤ i) : l.getD i 0 = 0 := by
  rw [List.getD_eq_getElem?_getD, List.getElem?_eq_none h]; rfl

/-- A sum's state behind i rounds. -/
def AddAt (la lb : List Nat) (i c : Nat) (o : List Nat) : Prop :=
  o.length = i ∧ Dg o ∧ c ≤ 1 ∧ i ≤ max la.length lb.length + 1 ∧ valD o + 16777216 ^ i * c = valD (la.take i) + valD (lb.take i)
theorem AddAt.step {la lb : List Nat} {i c : Nat} {o : List Nat} (h : AddAt la lb i c o) (x y : Nat) (hx : la.getD i 0 = x) (hy : lb.getD i 0 = y) (hda : Dg la) (hdb : Dg lb) (hi : i ≤ max la.length lb.length) :
    AddAt la lb (i + 1) ((c + x + y) / 16777216) (o ++ [(c + x + y) % 16777216]) := by
  obtain ⟨h1, h2, h3, h4, h5⟩ := h
  have := hda i
  have := hdb i
  refine ⟨by simp [h1], h2.snoc (Nat.mod_lt _ (by omega)), ?_, by omega, addD_step la lb o i c x y h1 hx hy h5⟩
  omega

set_option maxHeartbeats 4000000 in
theorem addR_any (la lb : List Nat) (va vb : Value) (w : World) (ha : Sl w va la) (hb : Sl w vb lb) (hda : Dg la) (hdb : Dg lb) (hla : la.length ≤ 100000) (hlb : lb.length ≤ 100000) :
    Calls Tryd.prog 57 #[va, vb] w fun e w' => ∃ v, e = .returned v ∧ Num w' v (valD la + valD lb) ∧ Below w.heap.size w w' := by
  obtain ⟨a, capa, rfl, hcapa, hnila, hca⟩ := ha
  obtain ⟨b, capb, rfl, hcapb, hnilb, hcb⟩ := hb
  have Hca : Hid _ := hca
  have Hcb : Hid _ := hcb
  have Hda : Hid (Dg la) := hda
  have Hdb : Hid (Dg lb) := hdb
  clear hca hcb hda hdb hnila hnilb
  have hla' : (la.length : Int) ≤ 100000 := by omega
  have hlb' : (lb.length : Int) ≤ 100000 := by omega
  go_enter Tryd.func57, Tryd.ntmps57
  go_wp2
  go_loopw [5, 6, 7] (fun v x y wr => ∃ (i c : Nat) (o : List Nat), y = .int .i64 i ∧ x = .int .i64 c ∧ Own w.heap.size wr v o ∧ Below w.heap.size w wr ∧ Hid (AddAt la lb i c o)) (fun _ x y _ => 2 * (max la.length lb.length - (intOf y).toNat) + (intOf x).toNat)
  case atStart => exact ⟨0, 0, [], rfl, rfl, Own.nil _ _, Below.refl _ _, rfl, Dg.nil, by omega, by omega, by simp [valD]⟩
  case round =>
    obtain ⟨i, c, o, rfl, rfl, hown, hbel, H⟩ := hrel
    have hol : o.length = i := H.out.1
    have hc1 : (c : Int) ≤ 1 := by have := H.out.2.2.1; omega
    have hi1 : (i : Int) ≤ 100001 := by have := H.out.2.2.2.1; omega
    have hsz := hbel.size
    have Hb : Hid (Below w.heap.size w wr) := hbel
    have Ho : Hid (Own w.heap.size wr u5 o) := hown
    have Hol : Hid (o.length = i) := hol
    have hlen : o.length ≤ 1000000 := by omega
    clear hown hbel hol
    obtain ⟨x, hx⟩ : ∃ x, Hid (la.getD i 0 = x) := ⟨_, rfl⟩
    obtain ⟨y, hy⟩ : ∃ y, Hid (lb.getD i 0 = y) := ⟨_, rfl⟩
    have hx1 : (x : Int) ≤ 16777215 := by have := Hda.out i; rw [hx.out] at this; omega
    have hy1 : (y : Int) ≤ 16777215 := by have := Hdb.out i; rw [hy.out] at this; omega
    by_cases hia : i < la.length
    · have hia' : (i : Int) < la.length := by omega
      have R : Hid _ := H.out.step x y hx.out hy.out Hda.out Hdb.out (by omega)
      obtain ⟨ba, oa, rfl, hba, hcella⟩ := Hca.out i hia
      rw [hx.out] at hcella
      have hcella' : wr.cell? ⟨ba, oa + i, none⟩ = some (.int .i64 (x : Int)) := (Hb.out.cell (p := ⟨ba, oa + i, none⟩) hba).trans hcella
      clear hcella
      by_cases hib : i < lb.length
      · have hib' : (i : Int) < lb.length := by omega
        obtain ⟨bb, ob, rfl, hbb, hcellb⟩ := Hcb.out i hib
        rw [hy.out] at hcellb
        have hcellb' : wr.cell? ⟨bb, ob + i, none⟩ = some (.int .i64 (y : Int)) := (Hb.out.cell (p := ⟨bb, ob + i, none⟩) hbb).trans hcellb
        clear hcellb
        go_wp2_with (at_builtin; refine wpList_app1 rfl _ _ rfl w.heap.size u5 o ((c + x + y) % 16777216) _ (by omega) rfl Ho.out rfl hlen hsz ?_; intro v' w1 hown' hb')
        go_roundw
        case rel => exact ⟨i + 1, (c + x + y) / 16777216, _, by go_num, by go_num, hown', Hb.out.trans hb', R⟩
        case measure => simp [intOf]; omega
      · have hib' : (lb.length : Int) ≤ i := by omega
        have hy0 : y = 0 := by rw [← hy.out]; exact getD_ge lb i (by omega)
        subst hy0
        go_wp2_with (at_builtin; refine wpList_app1 rfl _ _ rfl w.heap.size u5 o ((c + x + 0) % 16777216) _ (by omega) rfl Ho.out rfl hlen hsz ?_; intro v' w1 hown' hb')
        go_roundw
        case rel => exact ⟨i + 1, (c + x + 0) / 16777216, _, by go_num, by go_num, hown', Hb.out.trans hb', R⟩
        case measure => simp [intOf]; omega
    · have hia' : (la.length : Int) ≤ i := by omega
      have hx0 : x = 0 := by rw [← hx.out]; exact getD_ge la i (by omega)
      subst hx0
      by_cases hib : i < lb.length
      · have hib' : (i : Int) < lb.length := by omega
        have R : Hid _ := H.out.step 0 y hx.out hy.out Hda.out Hdb.out (by omega)
        obtain ⟨bb, ob, rfl, hbb, hcellb⟩ := Hcb.out i hib
        rw [hy.out] at hcellb
        have hcellb' : wr.cell? ⟨bb, ob + i, none⟩ = some (.int .i64 (y : Int)) := (Hb.out.cell (p := ⟨bb, ob + i, none⟩) hbb).trans hcellb
        clear hcellb
        go_wp2_with (at_builtin; refine wpList_app1 rfl _ _ rfl w.heap.size u5 o ((c + 0 + y) % 16777216) _ (by omega) rfl Ho.out rfl hlen hsz ?_; intro v' w1 hown' hb')
        go_roundw
        case rel => exact ⟨i + 1, (c + 0 + y) / 16777216, _, by go_num, by go_num, hown', Hb.out.trans hb', R⟩
        case measure => simp [intOf]; omega
      · have hib' : (lb.length : Int) ≤ i := by omega
        have hy0 : y = 0 := by rw [← hy.out]; exact getD_ge lb i (by omega)
        subst hy0
        have hv : c = 0 → valD o = valD la + valD lb := fun e => by
          have := H.out.2.2.2.2
          rw [e, valD_take_all la i (by omega), valD_take_all lb i (by omega)] at this
          simpa using this
        have hdo := H.out.2.1
        by_cases hc0 : c = 0
        · subst hc0
          have hv0 : Hid _ := hv rfl
          have Hdo : Hid _ := hdo
          clear hv hdo
          go_wp2_with (go_at_call 71; refine (trim_any o u5 _ Ho.out.sl hlen Hdo.out).mono ?_; rintro e w' ⟨v', rfl, hN, rfl⟩)
          go_ret
          exact ⟨_, rfl, by rw [← hv0.out]; exact hN, Hb.out⟩
        · have hc2 : c = 1 := by have := H.out.2.2.1; omega
          subst hc2
          have hmx : i ≤ max la.length lb.length := by
            have h5 := H.out.2.2.2.2
            have h4 := H.out.2.2.2.1
            rcases Nat.lt_or_ge (max la.length lb.length) i with h | h
            · exfalso
              have l1 := valD_lt la Hda.out
              have l2 := valD_lt lb Hdb.out
              rw [valD_take_all la i (by omega), valD_take_all lb i (by omega)] at h5
              have e : i = max la.length lb.length + 1 := by omega
              have p1 : 16777216 ^ la.length ≤ 16777216 ^ (max la.length lb.length) := Nat.pow_le_pow_right (by omega) (by omega)
              have p2 : 16777216 ^ lb.length ≤ 16777216 ^ (max la.length lb.length) := Nat.pow_le_pow_right (by omega) (by omega)
              rw [e, Nat.pow_succ] at h5
              omega
            · exact h
          have R : Hid _ := H.out.step 0 0 hx.out hy.out Hda.out Hdb.out hmx
          have Hmx : Hid _ := hmx
          clear hv hdo hc0 hmx
          go_wp2_with (at_builtin; refine wpList_app1 rfl _ _ rfl w.heap.size u5 o ((1 + 0 + 0) % 16777216) _ (by omega) rfl Ho.out rfl hlen hsz ?_; intro v' w1 hown' hb')
          go_roundw
          case rel => exact ⟨i + 1, (1 + 0 + 0) / 16777216, _, by go_num, by go_num, hown', Hb.out.trans hb', R⟩
          case measure => simp [intOf]; omega

end Go.Proofs.YtkbiiolkekpkiaaDoor

/-
  A row of memory that a call has made, cell by cell; and the plain arithmetic of the document's own Mul over digits of 24 bits. Conditions: none beyond those written.
-/
namespace Go.Proofs.YtkbiiolkekpkiaaDoor
open Go.RowKit
set_option linter.unusedVariables false

/-- Block g, one of the call's own, holds the numbers l. -/
structure Row (k : IntKind) (base g : Nat) (l : List Nat) (W : World) : Prop where
  cell : ∀ j, j < l.length → W.cell? ⟨g, j, none⟩ = some (.int k (l.getD j 0 : Int))
  free : ∀ j, W.frozen? ⟨g, j, none⟩ = false
  lt : g < W.heap.size
  ge : base ≤ g
theorem Row.drew {k : IntKind} {base g : Nat} {l : List Nat} {W : World} (h : Row k base g l W) : Row k base g l W.drew := ⟨h.cell, h.free, h.lt, h.ge⟩
theorem getD_set (l : List Nat) (i j v : Nat) (hi : i < l.length) : (l.set i v).getD j 0 = if j = i then v else l.getD j 0 := by
  simp only [List.getD_eq_getElem?_getD, List.getElem?_set]
  by_cases e : j = i
  · subst e; simp [hi]
  · rw [if_neg (fun q => e q.symm), if_neg e]
theorem Row.set {k : IntKind} {base g : Nat} {l : List Nat} {W : World} (h : Row k base g l W) (i v : Nat) (hi : i < l.length) : Row k base g (l.set i v) (W.setCell ⟨g, i, none⟩ (.int k (v : Int))) := by
  refine ⟨fun j hj => ?_, fun j => ?_, by simpa using h.lt, h.ge⟩
  · rw [List.length_set] at hj
    rw [getD_set l i j v hi]
    by_cases e : j = i
    · subst e
      rw [World.cell?_setCell_same _ _ _ (h.cell j hj), if_pos rfl]
    · rw [World.cell?_setCell_other _ _ _ _ (fun q => e (by simpa using (congrArg Addr.off q).symm)), h.cell j hj, if_neg e]
  · rw [← h.free j]; simp
theorem Row.below {k : IntKind} {base g : Nat} {l : List Nat} {W W' : World} (h : Row k base g l W) (hb : Below W.heap.size W W') : Row k base g l W' :=
  ⟨fun j hj => (hb.cell (p := ⟨g, j, none⟩) h.lt).trans (h.cell j hj), fun j => (hb.frozen (p := ⟨g, j, none⟩) h.lt).trans (h.free j), Nat.lt_of_lt_of_le h.lt hb.size, h.ge⟩
theorem Row.made {k : IntKind} (W : World) (n : Nat) (t : TypeId) : Row k W.heap.size W.heap.size (List.replicate n 0) (W.alloc (.cells (madeCells #[.int k 0] n) t)) := by
  refine ⟨fun j hj => ?_, fun j => by simp [go_sem], by simp, Nat.le_refl _⟩
  simp at hj
  rw [World.cell?_alloc_at (w := W) _ _ _ _ rfl]
  simp [madeCells, hj, List.getD_eq_getElem?_getD, Nat.mod_one]
theorem Row.sl {base g : Nat} {l : List Nat} {W : World} (h : Row .i64 base g l W) : Sl W (.slice (some ⟨g, 0, none⟩) l.length l.length) l :=
  ⟨some ⟨g, 0, none⟩, l.length, rfl, Nat.le_refl _, fun h => by simp at h, fun j hj => ⟨g, 0, rfl, h.lt, by rw [Nat.zero_add]; exact h.cell j hj⟩⟩

theorem valD_set : ∀ (l : List Nat) (p d : Nat), p < l.length → valD (l.set p d) + 16777216 ^ p * l.getD p 0 = valD l + 16777216 ^ p * d
  | [], p, d, h => by simp at h
  | x :: l, 0, d, h => by simp [valD]; omega
  | x :: l, p + 1, d, h => by
    have ih := valD_set l p d (by simpa using h)
    simp only [List.set_cons_succ, valD, List.getD_cons_succ, Nat.pow_succ]
    rw [Nat.mul_comm (16777216 ^ p) 16777216, Nat.mul_assoc, Nat.mul_assoc]
    omega
theorem valD_zeros : ∀ (n : Nat), valD (List.replicate n 0) = 0
  | 0 => rfl
  | n + 1 => by simp only [List.replicate_succ, valD, valD_zeros n]
theorem Dg.set {l : List Nat} {p d : Nat} (h : Dg l) (hp : p < l.length) (hd : d < 16777216) : Dg (l.set p d) := fun j => by
  rw [getD_set l p j d hp]; split
  · exact hd
  · exact h j

/-- A product's state, i rows and j digits of the next one done, c carried. -/
def MulAt (la lb : List Nat) (i j c : Nat) (o : List Nat) : Prop :=
  o.length = la.length + lb.length + 1 ∧ Dg o ∧ c < 16777216 ∧ (∀ p, i + lb.length ≤ p → o.getD p 0 = 0) ∧
    valD o + 16777216 ^ (i + j) * c = valD (la.take i) * valD lb + 16777216 ^ i * (la.getD i 0 * valD (lb.take j))
theorem MulAt.step {la lb : List Nat} {i j c : Nat} {o : List Nat} (h : MulAt la lb i j c o) (hi : i < la.length) (hj : j < lb.length) (hda : Dg la) (hdb : Dg lb) (q x y : Nat)
    (hq : o.getD (i + j) 0 = q) (hx : la.getD i 0 = x) (hy : lb.getD j 0 = y) :
    MulAt la lb i (j + 1) ((c + q + x * y) / 16777216) (o.set (i + j) ((c + q + x * y) % 16777216)) := by
  obtain ⟨h1, h2, h3, h4, h5⟩ := h
  have hql : q < 16777216 := by rw [← hq]; exact h2 _
  have hxl : x ≤ 16777215 := by rw [← hx]; have := hda i; omega
  have hyl : y ≤ 16777215 := by rw [← hy]; have := hdb j; omega
  have hxy : x * y ≤ 281474943156225 := by have := Nat.mul_le_mul hxl hyl; omega
  refine ⟨by rw [List.length_set]; exact h1, h2.set (by omega) (Nat.mod_lt _ (by omega)), by omega, fun p hp => ?_, ?_⟩
  · rw [getD_set _ _ _ _ (by omega), if_neg (by omega)]; exact h4 p hp
  · have e := valD_set o (i + j) ((c + q + x * y) % 16777216) (by omega)
    rw [hq] at e
    rw [hx] at h5 ⊢
    rw [valD_take lb j, hy, Nat.mul_add x, Nat.mul_add (16777216 ^ i), ← Nat.add_assoc (valD (la.take i) * valD lb), ← h5]
    have e2 : 16777216 ^ i * (x * (16777216 ^ j * y)) = 16777216 ^ (i + j) * (x * y) := by rw [Nat.pow_add, Nat.mul_left_comm x, Nat.mul_assoc]
    rw [e2, ← Nat.add_assoc i j 1, Nat.pow_succ, Nat.mul_assoc]
    generalize 16777216 ^ (i + j) = P at *
    have e3 : P * ((c + q + x * y) % 16777216) + P * (16777216 * ((c + q + x * y) / 16777216)) = P * c + P * q + P * (x * y) := by
      rw [← Nat.mul_add, Nat.mod_add_div, Nat.mul_add, Nat.mul_add]
    omega
theorem MulAt.row {la lb : List Nat} {i c : Nat} {o : List Nat} (h : MulAt la lb i lb.length c o) (hi : i < la.length) : o.getD (i + lb.length) 0 = 0 ∧ MulAt la lb (i + 1) 0 0 (o.set (i + lb.length) c) := by
  obtain ⟨h1, h2, h3, h4, h5⟩ := h
  have hz := h4 (i + lb.length) (Nat.le_refl _)
  refine ⟨hz, by rw [List.length_set]; exact h1, h2.set (by omega) h3, by omega, fun p hp => ?_, ?_⟩
  · rw [getD_set _ _ _ _ (by omega), if_neg (by omega)]; exact h4 p (by omega)
  · have e := valD_set o (i + lb.length) c (by omega)
    rw [hz, Nat.mul_zero, Nat.add_zero] at e
    rw [List.take_length] at h5
    rw [valD_take la i, Nat.add_mul, Nat.mul_assoc, e, h5, Nat.mul_zero, Nat.add_zero, List.take_zero, show valD [] = 0 from rfl, Nat.mul_zero, Nat.mul_zero, Nat.add_zero]
theorem MulAt.start (la lb : List Nat) : MulAt la lb 0 0 0 (List.replicate (la.length + lb.length + 1) 0) := by
  refine ⟨by simp, fun j => ?_, by omega, fun p _ => ?_, by rw [valD_zeros, List.take_zero, List.take_zero, show valD [] = 0 from rfl, Nat.mul_zero, Nat.zero_mul, Nat.mul_zero, Nat.mul_zero]⟩
  · rw [List.getD_eq_getElem?_getD, List.getElem?_replicate]; split <;> simp
  · rw [List.getD_eq_getElem?_getD, List.getElem?_replicate]; split <;> simp
theorem MulAt.done {la lb o : List Nat} {c : Nat} (h : MulAt la lb la.length 0 c o) (hc : c = 0) : valD o = valD la * valD lb := by
  obtain ⟨h1, h2, h3, h4, h5⟩ := h
  subst hc
  rw [List.take_length, List.take_zero, show valD [] = 0 from rfl, Nat.mul_zero, Nat.mul_zero, Nat.mul_zero, Nat.add_zero, Nat.add_zero] at h5
  exact h5

end Go.Proofs.YtkbiiolkekpkiaaDoor

/-
  The contracts of the document's own Mul and Small over digits of 24 bits: the digits of the product. Conditions: as each theorem says.
-/
namespace Go.Proofs.YtkbiiolkekpkiaaDoor
open Go.RowKit
set_option linter.unusedVariables false

theorem make_ints (n : Nat) (hn : n ≤ 1000000) (z : Int) (hz : z = (n : Int)) (w : World) : (Instr.makeSlice 33 (.int .i64 z) (.int .i64 z)).run Tryd.prog w = .ok (.slice (some ⟨w.heap.size, 0, none⟩) n n) (w.alloc (.cells (madeCells #[.int .i64 0] n) 3)) := by
  subst hz
  obtain ⟨i0, hi, hz0, hz1, hz2⟩ := info_parts info_int
  have h := run_make (P := Tryd.prog) w 33 3 i0 (.int .i64 0) Tryd.underlying33 hi hz0 .i64 .i64 n n (by omega) (by omega) (by rw [hz2]; omega) (by omega)
  rw [h, hz1]
  simp [Value.cells]

set_option maxHeartbeats 4000000 in
theorem mulR_any (la lb : List Nat) (va vb : Value) (w : World) (ha : Sl w va la) (hb : Sl w vb lb) (hda : Dg la) (hdb : Dg lb) (hla : la.length ≤ 100000) (hlb : lb.length ≤ 100000) :
    Calls Tryd.prog 72 #[va, vb] w fun e w' => ∃ v, e = .returned v ∧ Num w' v (valD la * valD lb) ∧ Below w.heap.size w w' := by
  obtain ⟨a, capa, rfl, hcapa, hnila, hca⟩ := ha
  obtain ⟨b, capb, rfl, hcapb, hnilb, hcb⟩ := hb
  have Hca : Hid _ := hca
  have Hcb : Hid _ := hcb
  have Hda : Hid (Dg la) := hda
  have Hdb : Hid (Dg lb) := hdb
  clear hca hcb hda hdb hnila hnilb
  have hla' : (la.length : Int) ≤ 100000 := by omega
  have hlb' : (lb.length : Int) ≤ 100000 := by omega
  obtain ⟨n, hn⟩ : ∃ n, Hid (n = la.length + lb.length + 1) := ⟨_, rfl⟩
  have hn1 : (n : Int) = la.length + lb.length + 1 := by have := hn.out; omega
  have hn2 : n ≤ 1000000 := by omega
  have hmk := fun w => make_ints n hn2 ((la.length : Int) + (lb.length : Int) + 1) (by omega) w
  have Hn1 : Hid _ := hn1
  clear hn1
  go_enter Tryd.func72, Tryd.ntmps72
  go_wp2
  clear hmk
  have hnl : (la.length : Int) + (lb.length : Int) < (n : Int) := by have := Hn1.out; omega
  go_loopw [6] (fun y W => ∃ (i : Nat) (o : List Nat), y = .int .i64 i ∧ i ≤ la.length ∧ Row .i64 w.heap.size w.heap.size o W ∧ Below w.heap.size w W ∧ Hid (MulAt la lb i 0 0 o)) (fun y _ => la.length - (intOf y).toNat)
  case atStart =>
    refine ⟨0, _, rfl, Nat.zero_le _, Row.made w n _, (Below.refl _ _).alloc (Nat.le_refl _) _, ?_⟩
    rw [hn.out]; exact MulAt.start la lb
  case round =>
    obtain ⟨i, o, rfl, hi, hrow, hbel, H⟩ := hrel
    have hol : o.length = n := by rw [H.out.1, hn.out]
    have Hol : Hid (o.length = n) := hol
    by_cases hlt : i < la.length
    · have hlt' : (i : Int) < la.length := by omega
      have Hr : Hid (Row .i64 w.heap.size w.heap.size o wr) := hrow
      have Hb : Hid (Below w.heap.size w wr) := hbel
      clear hrow hbel hol
      go_wp2
      go_loopw [7, 8] (fun z y W => ∃ (j c : Nat) (o : List Nat), y = .int .i64 j ∧ z = .int .i64 c ∧ j ≤ lb.length ∧ Row .i64 w.heap.size w.heap.size o W ∧ Below w.heap.size w W ∧ Hid (MulAt la lb i j c o)) (fun _ y _ => lb.length - (intOf y).toNat)
      case atStart => exact ⟨0, 0, o, rfl, rfl, Nat.zero_le _, Hr.out, Hb.out, H⟩
      case round =>
        clear H Hr Hb Hol
        obtain ⟨j, c, o, rfl, rfl, hj, hrow, hbel, H⟩ := hrel
        have hol : o.length = n := by rw [H.out.1, hn.out]
        have hc1 : (c : Int) ≤ 16777215 := by have := H.out.2.2.1; omega
        by_cases hjl : j < lb.length
        · have hjl' : (j : Int) < lb.length := by omega
          obtain ⟨ba, oa, rfl, hba, hcella⟩ := Hca.out i hlt
          obtain ⟨bb, ob, rfl, hbb, hcellb⟩ := Hcb.out j hjl
          obtain ⟨x, hx⟩ : ∃ x, Hid (la.getD i 0 = x) := ⟨_, rfl⟩
          obtain ⟨y, hy⟩ : ∃ y, Hid (lb.getD j 0 = y) := ⟨_, rfl⟩
          obtain ⟨q, hq⟩ : ∃ q, Hid (o.getD (i + j) 0 = q) := ⟨_, rfl⟩
          have hx1 : x ≤ 16777215 := by have := Hda.out i; rw [hx.out] at this; omega
          have hy1 : y ≤ 16777215 := by have := Hdb.out j; rw [hy.out] at this; omega
          have hq1 : (q : Int) ≤ 16777215 := by have := H.out.2.1 (i + j); rw [hq.out] at this; omega
          have hxy : (x : Int) * (y : Int) ≤ 281474943156225 := by have := Nat.mul_le_mul hx1 hy1; rw [← Int.natCast_mul]; omega
          have hxy0 : 0 ≤ (x : Int) * (y : Int) := Int.mul_nonneg (by omega) (by omega)
          rw [hx.out] at hcella
          rw [hy.out] at hcellb
          have ca : wr.cell? ⟨ba, oa + i, none⟩ = some (.int .i64 (x : Int)) := (hbel.cell (p := ⟨ba, oa + i, none⟩) hba).trans hcella
          have cb : wr.cell? ⟨bb, ob + j, none⟩ = some (.int .i64 (y : Int)) := (hbel.cell (p := ⟨bb, ob + j, none⟩) hbb).trans hcellb
          have co := hrow.cell (i + j) (by omega)
          rw [hq.out] at co
          have fo := hrow.free (i + j)
          have R : Hid _ := H.out.step hlt hjl Hda.out Hdb.out q x y hq.out hx.out hy.out
          have Hr : Hid (Row .i64 w.heap.size w.heap.size o wr) := hrow
          have Hb : Hid (Below w.heap.size w wr) := hbel
          have hij : (i : Int) + (j : Int) < (n : Int) := by omega
          clear hcella hcellb hrow hbel hol
          go_wp2
          go_region
          go_wp2
          go_roundw
          case rel =>
            have ev : (((c + q + x * y) % 16777216 : Nat) : Int) = ((c : Int) + q + x * y) % 16777216 := by simp
            have ew : (((c + q + x * y) / 16777216 : Nat) : Int) = ((c : Int) + q + x * y) / 16777216 := by simp
            refine ⟨j + 1, (c + q + x * y) / 16777216, _, by go_num, by rw [ew], by omega, ?_, ?_, R⟩
            · rw [← ev]; exact (Hr.out.set (i + j) _ (by have := H.out.1; omega)).drew
            · exact (Hb.out.setCell (Nat.le_refl _) _).drew
          case measure => simp [intOf]; omega
        · obtain rfl : j = lb.length := by omega
          obtain ⟨hz, R⟩ := H.out.row hlt
          have R' : Hid _ := R
          have co := hrow.cell (i + lb.length) (by omega)
          rw [hz] at co
          have fo := hrow.free (i + lb.length)
          have Hr : Hid (Row .i64 w.heap.size w.heap.size o wr) := hrow
          have Hb : Hid (Below w.heap.size w wr) := hbel
          have hij : (i : Int) + (lb.length : Int) < (n : Int) := by omega
          clear hrow hbel hol R hz
          go_wp2
          go_roundw
          case rel =>
            refine ⟨i + 1, _, by go_num, by omega, ?_, ?_, R'⟩
            · exact Hr.out.set (i + lb.length) _ (by have := H.out.1; omega)
            · exact Hb.out.setCell (Nat.le_refl _) _
          case measure => simp [intOf]; omega
    · obtain rfl : i = la.length := by omega
      have hv := H.out.done rfl
      have hsl := hrow.sl
      rw [hol] at hsl
      have Hs : Hid (Sl wr (.slice (some ⟨w.heap.size, 0, none⟩) n n) o) := hsl
      have Hv : Hid _ := hv
      have Hd : Hid (Dg o) := H.out.2.1
      clear hv hsl hol hrow
      go_wp2_with (go_at_call 71; refine (trim_any o _ _ Hs.out (by rw [Hol.out]; exact hn2) Hd.out).mono ?_; rintro e w' ⟨v', rfl, hN, rfl⟩)
      go_ret
      exact ⟨_, rfl, by rw [← Hv.out]; exact hN, hbel⟩

set_option maxHeartbeats 1000000 in
theorem small_any (la : List Nat) (va : Value) (n : Nat) (w : World) (ha : Sl w va la) (hda : Dg la) (hla : la.length ≤ 100000) (hn : n ≤ 9223372036854775807) :
    Calls Tryd.prog 81 #[va, .int .i64 (n : Int)] w fun e w' => ∃ v, e = .returned v ∧ Num w' v (valD la * n) ∧ Below w.heap.size w w' := by
  have Ha : Hid (Sl w va la) := ha
  have Hda : Hid (Dg la) := hda
  obtain ⟨a, capa, rfl, -, -, -⟩ := ha
  clear hda
  go_enter Tryd.func81, Tryd.ntmps81
  go_wp2_with fail
  refine (int_any n hn _).mono ?_
  rintro e w1 ⟨v1, rfl, hN, b1⟩
  obtain ⟨l1, s1, d1, z1, rfl⟩ := hN
  have hl1 : l1.length ≤ 100000 := by
    rcases Nat.lt_or_ge l1.length 4 with h | h
    · omega
    · exfalso
      rcases z1 with e | e
      · rw [e] at h; simp at h
      · have := valD_take l1 (l1.length - 1)
        rw [show l1.length - 1 + 1 = l1.length by omega, List.take_length] at this
        have hp : 16777216 ^ 3 ≤ 16777216 ^ (l1.length - 1) := Nat.pow_le_pow_right (by omega) (by omega)
        have hm : 16777216 ^ (l1.length - 1) * 1 ≤ 16777216 ^ (l1.length - 1) * l1.getD (l1.length - 1) 0 := Nat.mul_le_mul_left _ (by omega)
        have h3 : (16777216 : Nat) ^ 3 = 4722366482869645213696 := by decide
        omega
  have S1 : Hid (Sl w1 v1 l1) := s1
  have D1 : Hid (Dg l1) := d1
  have B1 : Hid (Below w.heap.size w w1) := b1
  obtain ⟨a1, cap1, rfl, -, -, -⟩ := s1
  clear d1 z1 b1
  go_wp2_with fail
  refine (mulR_any la l1 _ _ _ (Ha.out.below B1.out) S1.out Hda.out D1.out hla hl1).mono ?_
  rintro e w2 ⟨v2, rfl, hN2, b2⟩
  have Hq : Hid (Num w2 v2 (valD la * valD l1)) := hN2
  have hq : ∃ a c d, v2 = .slice a c d := by obtain ⟨l, ⟨a, c, e, _⟩, _⟩ := hN2; exact ⟨a, _, c, e⟩
  obtain ⟨a, c, d, rfl⟩ := hq
  go_wp2
  go_ret
  exact ⟨_, rfl, Hq.out, B1.out.trans (b2.mono B1.out.size)⟩

end Go.Proofs.YtkbiiolkekpkiaaDoor

/-
  The contracts of the document's own Shift and Power over digits of 24 bits: a number times a power of two. Conditions: as each theorem says.
-/
namespace Go.Proofs.YtkbiiolkekpkiaaDoor
open Go.RowKit
set_option linter.unusedVariables false

theorem Own.made (base : Nat) (w : World) (n : Nat) (hb : base ≤ w.heap.size) (hn : n ≤ 1000000) : Own base (w.alloc (.cells (madeCells #[.int .i64 0] n) 3)) (.slice (some ⟨w.heap.size, 0, none⟩) n n) (List.replicate n 0) := by
  refine ⟨by simp [dv], Or.inr ⟨w.heap.size, n, madeCells #[.int .i64 0] n, by simp, hb, ?_, by simp, by unfold maxLen; omega, by simp [madeCells], ?_⟩⟩
  · show (w.heap.push _)[w.heap.size]? = _
    simp
  · apply List.ext_getElem?
    intro j
    simp only [List.length_replicate, Nat.mul_one, dv, List.map_replicate]
    rw [List.getElem?_take, List.getElem?_replicate]
    by_cases hj : j < n
    · rw [if_pos hj, if_pos hj]; simp [madeCells, hj, Nat.mod_one]
    · rw [if_neg hj, if_neg hj]

/-- 'out = append(out, m...)' on the call's own slice, the digits m lying anywhere. -/
theorem wpList_appL {ops : Array Oper} {rest : List Oper} {o : Oper} {a : Act} {Q : Exit → Act → World → Prop} {wr : World} (hgd : o.guard = none) (s x : Operand)
    (ho : o.op = .call { callee := .builtin .append, args := #[s, x], argTypes := #[33, 33] })
    (base : Nat) (v : Value) (l m : List Nat) (b off cap : Nat) (hs : a.eval s = v) (hown : Own base wr v l)
    (hx : a.eval x = .slice (some ⟨b, off, none⟩) m.length cap) (hm : ∀ j, j < m.length → wr.cell? ⟨b, off + j, none⟩ = some (.int .i64 (m.getD j 0 : Int))) (hlen : l.length ≤ 1000000) (hlen2 : m.length ≤ 1000000) (hbase : base ≤ wr.heap.size)
    (h : ∀ v' w', Own base w' v' (l ++ m) → Below base wr w' → wpList Tryd.prog ops Q rest (a.put o.dst v') w') :
    wpList Tryd.prog ops Q (o :: rest) a wr := by
  obtain ⟨i0, hi, hz0, hz1, hz2⟩ := info_parts info_int
  refine wpList_append_own _ hgd s x 33 ho base 3 i0 (.int .i64 0) 1 8 Tryd.underlying33 hi hz0 hz1 hz2 rfl (by decide) v _ _ hs hown ⟨b, off, none⟩ m.length cap (dv m) hx (by simp [dv]) ?_ ?_ ?_ ?_ ?_ ?_
  · intro j u hj
    by_cases hjl : j < m.length
    · rw [dv_get m j hjl] at hj
      rw [← hj]
      have e : Addr.add ⟨b, off, none⟩ j = ⟨b, off + j, none⟩ := by
        unfold Addr.add
        by_cases h0 : j = 0
        · subst h0; simp
        · simp [h0]
      rw [e]; exact hm j hjl
    · rw [List.getElem?_eq_none (by rw [dv_length]; omega)] at hj; cases hj
  · intro u hu; simp [dv] at hu; obtain ⟨d, _, rfl⟩ := hu; rfl
  · unfold maxLen; omega
  · omega
  · exact hbase
  · intro v' w' h1 h2 _
    refine h v' w' ?_ ?_
    · unfold Own
      have e : dv (l ++ m) = dv l ++ dv m := by simp [dv]
      rw [e]
      simpa using h1
    · refine Below.grown (Below.refl _ _) h2 hbase ?_
      intro k hk
      rcases hown.2 with ⟨e, _⟩ | ⟨g, cap, cur, e, hg, _⟩
      · rw [e] at hk; simp [Value.ownBlock] at hk
      · rw [e] at hk; simp [Value.ownBlock] at hk; omega

theorem valD_append : ∀ (l m : List Nat), valD (l ++ m) = valD l + 16777216 ^ l.length * valD m
  | [], m => by simp [valD]
  | d :: l, m => by
    simp only [List.cons_append, valD, valD_append l m, List.length_cons, Nat.pow_succ]
    rw [Nat.mul_add, Nat.add_assoc, Nat.mul_comm (16777216 ^ l.length) 16777216, Nat.mul_assoc]
theorem Dg.zeros (n : Nat) : Dg (List.replicate n 0) := fun j => by
  rw [List.getD_eq_getElem?_getD, List.getElem?_replicate]; split <;> simp
theorem Dg.append {l m : List Nat} (h1 : Dg l) (h2 : Dg m) : Dg (l ++ m) := fun j => by
  rw [List.getD_eq_getElem?_getD, List.getElem?_append]
  split
  · have := h1 j; rwa [List.getD_eq_getElem?_getD] at this
  · have := h2 (j - l.length); rwa [List.getD_eq_getElem?_getD] at this
theorem shift_val (la : List Nat) (n : Nat) : valD (List.replicate (n / 24) 0 ++ la) * 2 ^ (n % 24) = valD la * 2 ^ n := by
  rw [valD_append, valD_zeros, List.length_replicate, Nat.zero_add, show (16777216 : Nat) = 2 ^ 24 from by decide, ← Nat.pow_mul, Nat.mul_comm (2 ^ (24 * (n / 24))), Nat.mul_assoc, ← Nat.pow_add, Nat.div_add_mod]

set_option maxHeartbeats 1000000 in
theorem shift_any (la : List Nat) (va : Value) (n : Nat) (w : World) (ha : Sl w va la) (hda : Dg la) (hla : la.length ≤ 50000) (hn : n ≤ 100000) :
    Calls Tryd.prog 58 #[va, .int .i64 (n : Int)] w fun e w' => ∃ v, e = .returned v ∧ Num w' v (valD la * 2 ^ n) ∧ Below w.heap.size w w' := by
  have Hda : Hid (Dg la) := hda
  obtain ⟨a, capa, rfl, hcap, -, hc⟩ := ha
  have Hc : Hid _ := hc
  clear hda hc
  have hn' : (n : Int) ≤ 100000 := by omega
  by_cases h0 : la.length = 0
  · have e : la = [] := List.eq_nil_of_length_eq_zero h0
    subst e
    go_enter Tryd.func58, Tryd.ntmps58
    go_wp2
    go_ret
    exact ⟨_, rfl, ⟨[], Sl.nil _, Dg.nil, Or.inl rfl, by simp [valD]⟩, Below.refl _ _⟩
  · have hb0 : ((la.length : Int) == 0) = false := beq_eq_false_iff_ne.2 (by omega)
    obtain ⟨b, off, rfl, hb, -⟩ := Hc.out 0 (by omega)
    obtain ⟨q, hq⟩ : ∃ q : Nat, (n : Int) / 24 = (q : Int) := ⟨n / 24, by omega⟩
    obtain ⟨r, hr⟩ : ∃ r : Nat, (n : Int) % 24 = (r : Int) := ⟨n % 24, by omega⟩
    have hq2 : Hid (q = n / 24) := by unfold Hid; omega
    have hr2 : Hid (r = n % 24) := by unfold Hid; omega
    have hmk := fun w => make_ints q (by omega) (q : Int) rfl w
    have hcell : Hid (∀ j, j < la.length → w.cell? ⟨b, off + j, none⟩ = some (.int .i64 (la.getD j 0 : Int))) := by
      intro j hj
      obtain ⟨b', o', e1, -, e3⟩ := Hc.out j hj
      simp only [Option.some.injEq, Addr.mk.injEq, and_true] at e1
      rw [e1.1, e1.2]; exact e3
    go_enter Tryd.func58, Tryd.ntmps58
    go_wp2_with (at_builtin; refine wpList_appL rfl _ _ rfl w.heap.size _ (List.replicate q 0) la b off capa rfl (Own.made _ _ _ (Nat.le_refl _) (by omega)) rfl (fun j hj => by rw [World.cell?_alloc_past (w := w) _ _ _ hb]; exact hcell.out j hj) (by simp; omega) (by omega) (by simp) ?_; intro v1 w1 hown1 hb1)
    have H1 : Hid (Own w.heap.size w1 v1 (List.replicate q 0 ++ la)) := hown1
    have B1 : Hid (Below w.heap.size w w1) := ((Below.refl w.heap.size w).alloc (Nat.le_refl _) _).trans hb1
    clear hown1 hb1 hmk
    refine (pow2_any r (by omega) _).mono ?_
    rintro e w2 ⟨rfl, rfl⟩
    go_wp2_with fail
    have hp : 2 ^ r ≤ 2 ^ 24 := Nat.pow_le_pow_right (by omega) (by omega)
    have e2 : (2 : Int) ^ r = ((2 ^ r : Nat) : Int) := by simp
    try rw [e2]
    refine (small_any (List.replicate q 0 ++ la) _ (2 ^ r) _ H1.out.sl ((Dg.zeros q).append Hda.out) (by simp; omega) (by omega)).mono ?_
    rintro e w3 ⟨v3, rfl, hN, b3⟩
    rw [hr2.out, hq2.out, shift_val] at hN
    have hq : ∃ a c d, v3 = .slice a c d := by obtain ⟨l, ⟨a, c, e, _⟩, _⟩ := hN; exact ⟨a, _, c, e⟩
    have Hq : Hid (Num w3 v3 (valD la * 2 ^ n)) := hN
    obtain ⟨a, c, d, rfl⟩ := hq
    clear hN hp e2
    go_wp2
    go_ret
    exact ⟨_, rfl, Hq.out, B1.out.trans (b3.mono B1.out.size)⟩

theorem Sl.lit1 (w : World) (d : Nat) (z : Int) (hz : z = (d : Int)) : Sl (w.alloc (.cells #[.int .i64 z] 3)) (.slice (some ⟨w.heap.size, 0, none⟩) 1 1) [d] := by
  subst hz
  refine ⟨some ⟨w.heap.size, 0, none⟩, 1, rfl, by simp, fun h => by simp at h, fun j hj => ⟨w.heap.size, 0, rfl, by simp, ?_⟩⟩
  have : j = 0 := by simpa using hj
  subst this
  simp

set_option maxHeartbeats 1000000 in
theorem power_any (n : Nat) (w : World) (hn : n ≤ 100000) :
    Calls Tryd.prog 42 #[.int .i64 (n : Int)] w fun e w' => ∃ v, e = .returned v ∧ Num w' v (2 ^ n) ∧ Below w.heap.size w w' := by
  go_enter Tryd.func42, Tryd.ntmps42
  go_wp2_with fail
  refine (shift_any [1] _ n _ (Sl.lit1 w 1 1 rfl) (fun j => by cases j <;> simp) (by simp) hn).mono ?_
  rintro e w3 ⟨v3, rfl, hN, b3⟩
  have e1 : valD [1] * 2 ^ n = 2 ^ n := by simp [valD]
  rw [e1] at hN
  have hq : ∃ a c d, v3 = .slice a c d := by obtain ⟨l, ⟨a, c, e, _⟩, _⟩ := hN; exact ⟨a, _, c, e⟩
  have Hq : Hid (Num w3 v3 (2 ^ n)) := hN
  obtain ⟨a, c, d, rfl⟩ := hq
  clear hN e1
  go_wp2
  go_ret
  exact ⟨_, rfl, Hq.out, ((Below.refl _ _).alloc (Nat.le_refl _) _).trans (b3.mono (by simp))⟩

end Go.Proofs.YtkbiiolkekpkiaaDoor
