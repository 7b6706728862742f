/-
  Bytes as lists; the contracts of the document's own Turned, ToLittle and Big at any number of bytes. Conditions: as each theorem says.
-/
import Derived.Test.YtkbiiolkekpkiaaDoorRefH
import Derived.Test.YtkbiiolkekpkiaaDoorRefD
import Derived.Test.YtkbiiolkekpkiaaDoorSk
namespace Go.Proofs.YtkbiiolkekpkiaaDoor
open Go.RowKit
set_option linter.unusedVariables false

theorem Row.sk {k : IntKind} {base g : Nat} {l : List Nat} {W : World} (h : Row k base g l W) : SK k W (.slice (some ⟨g, 0, none⟩) l.length l.length) l :=
  ⟨some ⟨g, 0, none⟩, l.length, rfl, Nat.le_refl _, fun h => by simp at h, fun j hj => ⟨g, 0, rfl, h.lt, by rw [Nat.zero_add]; exact h.cell j hj⟩⟩
/-- The n bytes of N, the highest first. -/
def beB (N n : Nat) : List Nat := (List.range n).map fun i => N / 2 ^ (8 * (n - 1 - i)) % 256
theorem beB_length (N n : Nat) : (beB N n).length = n := by simp [beB]
theorem beB_get (N n j : Nat) (h : j < n) : (beB N n).getD j 0 = N / 2 ^ (8 * (n - 1 - j)) % 256 := by
  simp [beB, List.getD_eq_getElem?_getD, h]
theorem list_of_getD (l m : List Nat) (hl : l.length = m.length) (h : ∀ j, j < l.length → l.getD j 0 = m.getD j 0) : l = m := by
  apply List.ext_getElem?
  intro j
  by_cases hj : j < l.length
  · have := h j hj
    rw [List.getD_eq_getElem?_getD, List.getD_eq_getElem?_getD] at this
    rw [List.getElem?_eq_getElem hj, List.getElem?_eq_getElem (show j < m.length by omega)] at this ⊢
    simpa using this
  · rw [List.getElem?_eq_none (by omega), List.getElem?_eq_none (by omega)]

theorem info_u8' : (Tryd.prog.info? 5).map (fun i => (i.zero, i.size, i.bytes)) = some (some (.int .u8 0), 1, 1) := by kernel_rfl
theorem make_bytes (n : Nat) (hn : n ≤ 100000000) (w : World) : (Instr.makeSlice 22 (.int .i64 (n : Int)) (.int .i64 (n : Int))).run Tryd.prog w = .ok (.slice (some ⟨w.heap.size, 0, none⟩) n n) (w.alloc (.cells (madeCells #[.int .u8 0] n) 5)) := by
  obtain ⟨i0, hi, hz0, hz1, hz2⟩ := info_parts info_u8'
  have h := run_make (P := Tryd.prog) w 22 5 i0 (.int .u8 0) Tryd.underlying22 hi hz0 .i64 .i64 n n (by omega) (by omega) (by rw [hz2]; omega) (by omega)
  rw [h, hz1]
  simp [Value.cells]


/-- The number of the first t bytes, the highest first. -/
def hvN (l : List Nat) : Nat → Nat
  | 0 => 0
  | t + 1 => hvN l t * 256 + l.getD t 0
/-- Each of them is a byte. -/
def Bb (l : List Nat) : Prop := ∀ j, l.getD j 0 < 256
theorem hvN_lt (l : List Nat) (h : Bb l) : ∀ t, hvN l t < 256 ^ t
  | 0 => by simp [hvN]
  | t + 1 => by
    have := hvN_lt l h t
    have := h t
    simp only [hvN, Nat.pow_succ]
    omega

theorem digit_byte' (la : List Nat) (hd : Dg la) (i q r : Nat) (hi : i = 3 * q + r) (hr : r < 3) : la.getD q 0 / 256 ^ r % 256 = valD la / 2 ^ (8 * i) % 256 := by
  rw [show 8 * i = 24 * q + 8 * r by omega, down_split la hd q (8 * r), valD_drop la q]
  generalize valD (la.drop (q + 1)) = R
  generalize la.getD q 0 = d
  rcases (show r = 0 ∨ r = 1 ∨ r = 2 by omega) with rfl | rfl | rfl
  · simp; omega
  · simp only [show (2 : Nat) ^ (8 * 1) = 256 by decide]; omega
  · simp only [show (2 : Nat) ^ (8 * 2) = 65536 by decide]; omega

/-- The n bytes of N, the lowest first. -/
def leB (N n : Nat) : List Nat := (List.range n).map fun i => N / 2 ^ (8 * i) % 256
theorem leB_length (N n : Nat) : (leB N n).length = n := by simp [leB]
theorem leB_get (N n j : Nat) (h : j < n) : (leB N n).getD j 0 = N / 2 ^ (8 * j) % 256 := by
  simp [leB, List.getD_eq_getElem?_getD, h]
/-- The list turned. -/
def turn (l : List Nat) : List Nat := (List.range l.length).map fun j => l.getD (l.length - 1 - j) 0
theorem turn_length (l : List Nat) : (turn l).length = l.length := by simp [turn]
theorem turn_get (l : List Nat) (j : Nat) (h : j < l.length) : (turn l).getD j 0 = l.getD (l.length - 1 - j) 0 := by
  simp [turn, List.getD_eq_getElem?_getD, h]
theorem turn_leB (N n : Nat) : turn (leB N n) = beB N n := by
  refine list_of_getD _ _ (by rw [turn_length, leB_length, beB_length]) (fun j hj => ?_)
  rw [turn_length, leB_length] at hj
  rw [turn_get _ _ (by rw [leB_length]; exact hj), leB_length, leB_get _ _ _ (by omega), beB_get _ _ _ hj]

/-- The values of bytes. -/
def bv8 (l : List Nat) : List Value := l.map fun (d : Nat) => Value.int .u8 (d : Int)
theorem bv8_get (l : List Nat) (j : Nat) (h : j < l.length) : (bv8 l)[j]? = some (.int .u8 (l.getD j 0 : Int)) := by
  simp [bv8, List.getD_eq_getElem?_getD, h]
/-- The call's own slice, with the bytes l. -/
def Own8 (base : Nat) (w : World) (v : Value) (l : List Nat) : Prop := w.ownsRow base 5 1 v l.length (bv8 l)
theorem Own8.nil (base : Nat) (w : World) : Own8 base w (.slice none 0 0) [] := World.ownsRow_nil _ _ _ _
theorem Own8.sk {base : Nat} {w : World} {v : Value} {l : List Nat} (h : Own8 base w v l) : SK .u8 w v l := by
  obtain ⟨h1, h2⟩ := h
  rcases h2 with ⟨e, e0⟩ | ⟨g, cap, cur, e, hg, hh, hn, hm, hc, ht⟩
  · have : l = [] := List.eq_nil_of_length_eq_zero e0
    subst this
    rw [e]
    exact SK.nil _ w
  · refine ⟨some ⟨g, 0, none⟩, cap, e, hn, fun h => by simp at h, fun j hj => ⟨g, 0, rfl, ?_, ?_⟩⟩
    · rcases Nat.lt_or_ge g w.heap.size with h' | h'
      · exact h'
      · rw [Array.getElem?_eq_none h'] at hh; cases hh
    · have hj' : j < cur.size := by omega
      have : (cur.toList.take (l.length * 1))[j]? = some (.int .u8 (l.getD j 0 : Int)) := by rw [ht]; exact bv8_get l j hj
      rw [List.getElem?_take, if_pos (by omega)] at this
      simp only [World.cell?, hh, Nat.zero_add]
      simpa using this
theorem wpList_app8 {ops : Array Oper} {rest : List Oper} {o : Oper} {a : Act} {Q : Exit → Act → World → Prop} {wr : World} (hgd : o.guard = none) (s x : Operand)
    (ho : o.op = .call { callee := .builtin .append, args := #[s, x], argTypes := #[22, 22] })
    (base : Nat) (v : Value) (l : List Nat) (d : Nat) (hs : a.eval s = v) (hown : Own8 base wr v l)
    (hx : a.eval x = .slice (some ⟨wr.heap.size, 0, none⟩) 1 1) (hlen : l.length ≤ 1000000) (hbase : base ≤ wr.heap.size)
    (h : ∀ v' w', Own8 base w' v' (l ++ [d]) → Below base wr w' → wpList Tryd.prog ops Q rest (a.put o.dst v') w') :
    wpList Tryd.prog ops Q (o :: rest) a (wr.alloc (.cells #[.int .u8 (d : Int)] 5)) := by
  obtain ⟨i0, hi, hz0, hz1, hz2⟩ := info_parts info_u8'
  refine wpList_append_own _ hgd s x 22 ho base 5 i0 (.int .u8 0) 1 1 Tryd.underlying22 hi hz0 hz1 hz2 rfl (by decide) v _ _ hs (World.ownsRow.alloc hown _) ⟨wr.heap.size, 0, none⟩ 1 1 [.int .u8 (d : Int)] hx rfl ?_ ?_ ?_ ?_ ?_ ?_
  · intro j u hj
    match j, hj with
    | 0, hj => simp at hj; subst hj; simp [Addr.add]
  · intro u hu; simp at hu; subst hu; rfl
  · unfold maxLen; omega
  · omega
  · simp; omega
  · intro v' w' h1 h2 _
    refine h v' w' ?_ ?_
    · unfold Own8
      have e : bv8 (l ++ [d]) = bv8 l ++ [.int .u8 (d : Int)] := by simp [bv8]
      rw [e]
      simpa using h1
    · refine Below.grown (Below.alloc (Below.refl _ _) hbase _) h2 (by simp; omega) ?_
      intro k hk
      rcases hown.2 with ⟨e, _⟩ | ⟨g, cap, cur, e, hg, _⟩
      · rw [e] at hk; simp [Value.ownBlock] at hk
      · rw [e] at hk; simp [Value.ownBlock] at hk; omega

set_option maxHeartbeats 1000000 in
theorem turnedN_any (l : List Nat) (va : Value) (w : World) (ha : SK .u8 w va l) (hl : l.length ≤ 100000) :
    Calls Tryd.prog 69 #[va] w fun e w' => ∃ v, e = .returned v ∧ SK .u8 w' v (turn l) ∧ Below w.heap.size w w' := by
  obtain ⟨a, cap, rfl, -, -, k1⟩ := ha
  have K1 : Hid _ := k1
  clear k1
  have hl' : (l.length : Int) ≤ 100000 := by omega
  go_enter Tryd.func69, Tryd.ntmps69
  go_wp2
  go_loopw [3, 4] (fun v y wr => ∃ (t : Nat) (o : List Nat), t ≤ l.length ∧ o.length = t ∧ y = .int .i64 ((l.length : Int) - 1 - (t : Int)) ∧ Own8 w.heap.size wr v o ∧ Below w.heap.size w wr ∧ Hid (∀ j, j < t → o.getD j 0 = l.getD (l.length - 1 - j) 0)) (fun _ y _ => (intOf y + 1).toNat)
  case atStart => exact ⟨0, [], by omega, rfl, by go_num, Own8.nil _ _, Below.refl _ _, fun j hj => by omega⟩
  case round =>
    obtain ⟨t, o, ht, hol, rfl, hown, hbel, H⟩ := hrel
    have hsz := hbel.size
    have Hb : Hid (Below w.heap.size w wr) := hbel
    have Ho : Hid (Own8 w.heap.size wr u3 o) := hown
    have hlen : o.length ≤ 1000000 := by omega
    clear hown
    by_cases hlt : t < l.length
    · obtain ⟨i, hi⟩ : ∃ i : Nat, (l.length : Int) - 1 - (t : Int) = (i : Int) := ⟨l.length - 1 - t, by omega⟩
      have hi2 : (i : Int) < l.length := by omega
      have hi3 : l.length - 1 - t = i := by omega
      obtain ⟨b1, o1, rfl, l1, k1⟩ := K1.out i (by omega)
      have d1 := (hbel.cell (p := ⟨b1, o1 + i, none⟩) l1).trans k1
      obtain ⟨z, hz⟩ : ∃ z, Hid (l.getD i 0 = z) := ⟨_, rfl⟩
      rw [hz.out] at d1
      rw [hi]
      clear hbel k1
      have R : Hid (∀ j, j < t + 1 → (o ++ [z]).getD j 0 = l.getD (l.length - 1 - j) 0) := by
        intro j hj
        rw [getD_snoc o z j]
        by_cases h1 : j < o.length
        · rw [if_pos h1]; exact H.out j (by omega)
        · obtain rfl : j = t := by omega
          rw [if_neg h1, if_pos hol.symm, hi3, hz.out]
      have Hi : Hid ((l.length : Int) - 1 - (t : Int) = (i : Int)) := hi
      clear hi
      go_wp2_with (at_builtin; refine wpList_app8 rfl _ _ rfl w.heap.size u3 o z rfl Ho.out rfl hlen hsz ?_; intro v' w1 hown' hb')
      go_roundw
      case rel => exact ⟨t + 1, _, by omega, by simp [hol], by have := Hi.out; go_num, hown', Hb.out.trans hb', R⟩
      case measure => simp [intOf] <;> omega
    · obtain rfl : t = l.length := by omega
      have e : o = turn l := list_of_getD _ _ (by rw [hol, turn_length]) (fun j hj => by rw [hol] at hj; rw [H.out j hj, turn_get l j hj])
      have hs := Ho.out.sk
      rw [e] at hs
      have R : Hid (SK .u8 wr u3 (turn l)) := hs
      obtain ⟨ra, rc, hre⟩ := hs.shape
      subst hre
      clear hbel Ho H hs e
      go_wp2
      go_ret
      exact ⟨_, rfl, R.out, Hb.out⟩

set_option maxHeartbeats 2000000 in
theorem toLittleN_any (la : List Nat) (va : Value) (n : Nat) (w : World) (ha : Sl w va la) (hda : Dg la) (hla : la.length ≤ 100000) (hn : n ≤ 100000) :
    Calls Tryd.prog 64 #[va, .int .i64 (n : Int)] w fun e w' => ∃ v, e = .returned v ∧ SK .u8 w' v (leB (valD la) n) ∧ Below w.heap.size w w' := by
  obtain ⟨a, capa, rfl, hcapa, hnila, hca⟩ := ha
  have Hca : Hid _ := hca
  have Hda : Hid (Dg la) := hda
  clear hca hda hnila
  have hla' : (la.length : Int) ≤ 100000 := by omega
  have hn' : (n : Int) ≤ 100000 := by omega
  have hmk := fun w => make_bytes n (by omega) w
  obtain ⟨x, hx⟩ : ∃ x, Hid (valD la = x) := ⟨_, rfl⟩
  rw [hx.out]
  go_enter Tryd.func64, Tryd.ntmps64
  go_wp2
  go_loopw [6] (fun y wr => ∃ (i : Nat) (o : List Nat), i ≤ n ∧ y = .int .i64 i ∧ Row .u8 w.heap.size w.heap.size o wr ∧ Below w.heap.size w wr ∧ Hid (o.length = n ∧ (∀ j, j < i → o.getD j 0 = x / 2 ^ (8 * j) % 256) ∧ ∀ j, i ≤ j → o.getD j 0 = 0)) (fun y _ => n - (intOf y).toNat)
  case atStart => exact ⟨0, _, Nat.zero_le _, rfl, Row.made w n _, (Below.refl _ _).alloc (Nat.le_refl _) _, by simp, fun j hj => by omega, fun j _ => by rw [List.getD_eq_getElem?_getD, List.getElem?_replicate]; split <;> rfl⟩
  case round =>
    obtain ⟨i, o, hi, rfl, hrow, hbel, H⟩ := hrel
    clear hmk
    have hsz := hbel.size
    have Hr : Hid (Row .u8 w.heap.size w.heap.size o wr) := hrow
    have Hb : Hid (Below w.heap.size w wr) := hbel
    clear hrow hbel
    by_cases hlt : i < n
    · have hlt' : (i : Int) < n := by omega
      obtain ⟨q, hq⟩ : ∃ q : Nat, (i : Int) / 3 = (q : Int) := ⟨i / 3, by omega⟩
      obtain ⟨r, hr⟩ : ∃ r : Nat, (i : Int) % 3 = (r : Int) := ⟨i % 3, by omega⟩
      have hr2 : (r : Int) ≤ 2 := by omega
      have hq2 : (q : Int) ≤ 100000 := by omega
      obtain ⟨d, hd⟩ : ∃ d, Hid (la.getD q 0 = d) := ⟨_, rfl⟩
      have hby : Hid (d / 256 ^ r % 256 = x / 2 ^ (8 * i) % 256) := by
        have := digit_byte' la Hda.out i q r (by omega) (by omega)
        rw [hd.out, hx.out] at this
        exact this
      by_cases hql : q < la.length
      · have hql' : (q : Int) < la.length := by omega
        obtain ⟨ba, oa, rfl, hba, hcella⟩ := Hca.out q hql
        have hd1 : (d : Int) ≤ 16777215 := by have := Hda.out q; rw [hd.out] at this; omega
        rw [hd.out] at hcella
        have hcella' : wr.cell? ⟨ba, oa + q, none⟩ = some (.int .i64 (d : Int)) := (Hb.out.cell (p := ⟨ba, oa + q, none⟩) hba).trans hcella
        clear hcella
        go_wp2
        go_loopw [7, 8] (fun xx kk wi => ∃ (k z : Nat), k ≤ r ∧ kk = .int .i64 k ∧ xx = .int .i64 z ∧ z ≤ 16777215 ∧ wi = wr ∧ Hid (z = d / 256 ^ k)) (fun _ kk _ => r - (intOf kk).toNat)
        case atStart => exact ⟨0, d, by omega, rfl, rfl, by omega, rfl, by simp [Hid]⟩
        case round =>
          rename World => wi
          obtain ⟨k, z, hk, rfl, rfl, hz, hwi, Hz⟩ := hrel
          rw [hwi]
          clear hwi
          have hz1 : (z : Int) ≤ 16777215 := by omega
          by_cases hkr : k < r
          · have hkr' : (k : Int) < r := by omega
            have R : Hid (z / 256 = d / 256 ^ (k + 1)) := by unfold Hid; rw [Hz.out, Nat.div_div_eq_div_mul, Nat.pow_succ]
            go_wp2
            go_roundw
            case rel => exact ⟨k + 1, z / 256, by omega, by go_num, by go_num, by omega, trivial, R⟩
            case measure => simp [intOf] <;> omega
          · obtain rfl : k = r := by omega
            have hv : Hid (z % 256 = x / 2 ^ (8 * i) % 256) := by unfold Hid; rw [← hby.out, ← Hz.out]
            have c0 := Hr.out.cell i (by rw [H.out.1]; exact hlt)
            rw [H.out.2.2 i (Nat.le_refl _)] at c0
            have f0 := Hr.out.free i
            go_wp2
            go_roundw
            case rel =>
              have ev : ((z % 256 : Nat) : Int) = (z : Int) % 256 := by simp
              refine ⟨i + 1, o.set i (z % 256), by omega, by go_num, ?_, Hb.out.setCell (Nat.le_refl _) _, by rw [List.length_set]; exact H.out.1, fun j hj => ?_, fun j hj => ?_⟩
              · rw [← ev]; exact Hr.out.set i _ (by rw [H.out.1]; exact hlt)
              · rw [getD_set _ _ _ _ (by rw [H.out.1]; exact hlt)]
                by_cases e : j = i
                · rw [if_pos e, e]; exact hv.out
                · rw [if_neg e]; exact H.out.2.1 j (by omega)
              · rw [getD_set _ _ _ _ (by rw [H.out.1]; exact hlt), if_neg (by omega)]; exact H.out.2.2 j (by omega)
            case measure => simp [intOf] <;> omega
      · have hql' : ¬ (q : Int) < la.length := by omega
        have h0 : Hid (x / 2 ^ (8 * i) % 256 = 0) := by
          unfold Hid; rw [← hby.out, ← hd.out, getD_ge la q (by omega)]; simp
        go_wp2
        go_roundw
        case rel =>
          refine ⟨i + 1, o, by omega, by go_num, Hr.out, Hb.out, H.out.1, fun j hj => ?_, fun j hj => H.out.2.2 j (by omega)⟩
          by_cases e : j = i
          · rw [e, H.out.2.2 i (Nat.le_refl _), h0.out]
          · exact H.out.2.1 j (by omega)
        case measure => simp [intOf] <;> omega
    · obtain rfl : i = n := by omega
      have e : o = leB x i := list_of_getD _ _ (by rw [H.out.1, leB_length]) (fun j hj => by rw [H.out.1] at hj; rw [H.out.2.1 j hj, leB_get x i j hj])
      have hsl := Hr.out.sk
      rw [H.out.1, e] at hsl
      have Hs : Hid (SK .u8 wr (.slice (some ⟨w.heap.size, 0, none⟩) i i) (leB x i)) := hsl
      clear hsl H e Hr
      go_wp2
      go_ret
      exact ⟨_, rfl, Hs.out, Hb.out⟩


theorem pow256 (t k : Nat) (h : t ≤ 3 * k) : 256 ^ t ≤ 16777216 ^ k := by
  rw [show (16777216 : Nat) = 256 ^ 3 from by decide, ← Nat.pow_mul]
  exact Nat.pow_le_pow_right (by omega) h

set_option maxHeartbeats 3000000 in
theorem bigN_any (l : List Nat) (hf : Bb l) (va : Value) (w : World) (ha : SK .u8 w va l) (hl : l.length ≤ 3000) :
    Calls Tryd.prog 68 #[va] w fun e w' => ∃ v, e = .returned v ∧ Num w' v (hvN l l.length) ∧ Below w.heap.size w w' := by
  obtain ⟨a, cap, rfl, -, -, k1⟩ := ha
  have K1 : Hid _ := k1
  have HF : Hid (Bb l) := hf
  clear k1 hf
  have hl' : (l.length : Int) ≤ 3000 := by omega
  go_enter Tryd.func68, Tryd.ntmps68
  go_wp2
  go_loopw [3, 4] (fun v y wr => ∃ i : Nat, i ≤ l.length ∧ y = .int .i64 i ∧ Hid (Num wr v (hvN l i) ∧ Below w.heap.size w wr)) (fun _ y _ => l.length - (intOf y).toNat)
  case atStart => exact ⟨0, by omega, rfl, ⟨[], Sl.nil _, Dg.nil, Or.inl rfl, rfl⟩, Below.refl _ _⟩
  case round =>
    obtain ⟨i, hi, rfl, H⟩ := hrel
    obtain ⟨na, nc, nd, hsh⟩ := H.out.1.shape
    subst hsh
    have Hb : Hid (Below w.heap.size w wr) := H.out.2
    have HN : Hid (Num wr (.slice na nc nd) (hvN l i)) := H.out.1
    by_cases hlt : i < l.length
    · have hlt' : (i : Int) < l.length := by omega
      obtain ⟨b, off, rfl, l1, k1⟩ := K1.out i hlt
      obtain ⟨c, hc⟩ : ∃ c : Nat, Hid (l.getD i 0 = c) := ⟨_, rfl⟩
      have hc1 : (c : Int) ≤ 255 := by have := HF.out i; rw [hc.out] at this; omega
      have lb : b < wr.heap.size := Nat.lt_of_lt_of_le l1 Hb.out.size
      have d1 : wr.cell? ⟨b, off + i, none⟩ = some (.int .u8 (c : Int)) := by rw [← hc.out]; exact (Hb.out.cell (p := ⟨b, off + i, none⟩) l1).trans k1
      obtain ⟨K, hK⟩ : ∃ K : Nat, K = 1000 := ⟨_, rfl⟩
      have hv1 : hvN l i < 256 ^ i := hvN_lt l HF.out i
      have HB1 : Hid (hvN l i < 16777216 ^ K) := Nat.lt_of_lt_of_le hv1 (pow256 i K (by omega))
      have HB2 : Hid (hvN l i * 256 < 16777216 ^ (K + 1)) := by
        unfold Hid
        have := HB1.out
        rw [Nat.pow_succ]; omega
      have HB3 : Hid (c < 16777216 ^ (K + 1)) := Nat.lt_of_le_of_lt (show c ≤ 255 by omega) (Nat.lt_of_lt_of_le (show 255 < 16777216 ^ 1 by decide) (Nat.pow_le_pow_right (by omega) (by omega)))
      have hS : Hid (hvN l (i + 1) = hvN l i * 256 + c) := by unfold Hid; rw [← hc.out]; rfl
      have hi1 : i + 1 ≤ l.length := by omega
      have hc2 : c ≤ 9223372036854775807 := by omega
      obtain ⟨V, hV⟩ : ∃ V, Hid (hvN l i = V) := ⟨_, rfl⟩
      rw [hV.out] at HN HB1 HB2 hS
      clear hv1 H K1 HF k1
      go_wp2_with fail
      have cS : Hid (Calls Tryd.prog 81 #[.slice na nc nd, .int .i64 256] wr.drew fun e w' => ∃ v, e = .returned v ∧ Num w' v (V * 256) ∧ Below wr.drew.heap.size wr.drew w') :=
        small_num V _ 256 _ (HN.out.below (Below.refl _ _).drew) K HB1.out (by omega) (by decide)
      have cI : Hid (∀ W, Calls Tryd.prog 62 #[.int .i64 (c : Int)] W fun e w' => ∃ v, e = .returned v ∧ Num w' v c ∧ Below W.heap.size W w') := fun W => int_any c hc2 W
      have cA : Hid (∀ W va vb, Num W va (V * 256) → Num W vb c → Calls Tryd.prog 57 #[va, vb] W fun e w' => ∃ v, e = .returned v ∧ Num w' v (V * 256 + c) ∧ Below W.heap.size W w') := fun W va vb h1 h2 => add_num (V * 256) c _ _ _ h1 h2 (K + 1) HB2.out HB3.out (by omega)
      have D1 : Hid (∀ w5, Below wr.drew.heap.size wr.drew w5 → w5.cell? ⟨b, off + i, none⟩ = some (.int .u8 (c : Int))) := fun w5 g5 => (g5.cell (p := ⟨b, off + i, none⟩) lb).trans d1
      have wc8 : IntKind.i64.wrap (c : Int) = (c : Int) := wrapI _ (by omega) (by omega)
      clear HB1 HB2 HB3 hc2 hK
      go_region_with (first
        | (go_at_call 81; refine cS.out.mono ?_; rintro e w5 ⟨v5, rfl, n5, g5⟩; obtain ⟨sa, sc, sd, rfl⟩ := n5.shape; have d5 := D1.out w5 g5; have N5 : Hid (Num w5 (.slice sa sc sd) (V * 256)) := n5; have G5 : Hid (Below wr.drew.heap.size wr.drew w5) := g5; clear n5 g5)
        | (go_at_call 62; (with_reducible refine (cI.out _).mono ?_); rintro e w6 ⟨v6, rfl, n6, g6⟩; obtain ⟨ta, tc, td, rfl⟩ := n6.shape; have N6 : Hid (Num w6 (.slice ta tc td) c) := n6; have G6 : Hid (Below w5.heap.size w5 w6) := g6; clear n6 g6)
        | (go_at_call 57; refine (cA.out _ _ _ (N5.out.below G6.out) N6.out).mono ?_; rintro e w7 ⟨v7, rfl, n7, g7⟩; obtain ⟨ra, rc, rd, rfl⟩ := n7.shape; have N7 : Hid (Num w7 (.slice ra rc rd) (V * 256 + c)) := n7; have G7 : Hid (Below w6.heap.size w6 w7) := g7; clear n7 g7))
      all_goals
        go_wp2_with fail
        go_roundw
        case rel => exact ⟨i + 1, hi1, by go_num, by rw [hS.out]; exact N7.out, (Hb.out.drew.trans (G5.out.mono Hb.out.size)).trans ((G6.out.mono (Nat.le_trans Hb.out.size G5.out.size)).trans (G7.out.mono (Nat.le_trans Hb.out.size (Nat.le_trans G5.out.size G6.out.size))))⟩
        case measure => simp [intOf] <;> omega
    · obtain rfl : i = l.length := by omega
      go_wp2
      go_ret
      exact ⟨_, rfl, HN.out, Hb.out⟩


set_option maxHeartbeats 1000000 in
theorem littleN_any (l : List Nat) (hf : Bb l) (va : Value) (w : World) (ha : SK .u8 w va l) (hl : l.length ≤ 3000) :
    Calls Tryd.prog 39 #[va] w fun e w' => ∃ v, e = .returned v ∧ Num w' v (hvN (turn l) l.length) ∧ Below w.heap.size w w' := by
  have ft : Bb (turn l) := by
    intro j
    by_cases h : j < l.length
    · rw [turn_get l j h]; exact hf _
    · rw [List.getD_eq_getElem?_getD, List.getElem?_eq_none (by rw [turn_length]; omega)]; simp
  have c1 : Hid (∀ w, SK .u8 w va l → Calls Tryd.prog 69 #[va] w fun e w' => ∃ v, e = .returned v ∧ SK .u8 w' v (turn l) ∧ Below w.heap.size w w') := fun w h => turnedN_any l va w h (by omega)
  have c2 : Hid (∀ v w, SK .u8 w v (turn l) → Calls Tryd.prog 68 #[v] w fun e w' => ∃ v, e = .returned v ∧ Num w' v (hvN (turn l) l.length) ∧ Below w.heap.size w w') := by
    intro v w h; have := bigN_any (turn l) ft v w h (by rw [turn_length]; exact hl); rwa [turn_length] at this
  obtain ⟨a, cap, rfl⟩ := ha.shape
  have HA : Hid (SK .u8 w (.slice a l.length cap) l) := ha
  clear ha hl hf ft
  go_enter Tryd.func39, Tryd.ntmps39
  go_wp2_with fail
  refine (c1.out _ HA.out).mono ?_
  rintro e w1 ⟨v1, rfl, h1, g1⟩
  obtain ⟨a1, cap1, e1⟩ := h1.shape
  subst e1
  have H1 : Hid (SK .u8 w1 (.slice a1 (turn l).length cap1) (turn l)) := h1
  have G1 : Hid (Below w.heap.size w w1) := g1
  clear h1 g1
  go_wp2_with fail
  refine (c2.out _ _ H1.out).mono ?_
  rintro e w2 ⟨v2, rfl, h2, g2⟩
  have H2 : Hid (Num w2 v2 (hvN (turn l) l.length)) := h2
  have G2 : Hid (Below w.heap.size w w2) := G1.out.trans (g2.mono G1.out.size)
  clear h2 g2
  go_wp2_with fail
  go_ret
  exact ⟨_, rfl, H2.out, G2.out⟩

end Go.Proofs.YtkbiiolkekpkiaaDoor
