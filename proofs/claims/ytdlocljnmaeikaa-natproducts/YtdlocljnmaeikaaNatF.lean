/-
  The contracts of nat's Bytes and Of: a natural's bytes, the highest first, and the number of bytes. Conditions: as each theorem says.
-/
import Derived.Test.YtdlocljnmaeikaaNatE
namespace Go.Proofs.Ytdlocljnmaeikaa
open Go.RowKit
set_option linter.unusedVariables false

/-- The n bytes of N, the highest first. -/
def beB (N n : Nat) : List Nat := (List.range n).map fun i => N / 2 ^ (8 * (n - 1 - i)) % 256
theorem beB_length (N n : Nat) : (beB N n).length = n := by simp [beB]
theorem beB_get (N n j : Nat) (h : j < n) : (beB N n).getD j 0 = N / 2 ^ (8 * (n - 1 - j)) % 256 := by
  simp [beB, List.getD_eq_getElem?_getD, h]
theorem list_of_getD (l m : List Nat) (hl : l.length = m.length) (h : ∀ j, j < l.length → l.getD j 0 = m.getD j 0) : l = m := by
  apply List.ext_getElem?
  intro j
  by_cases hj : j < l.length
  · have := h j hj
    rw [List.getD_eq_getElem?_getD, List.getD_eq_getElem?_getD] at this
    rw [List.getElem?_eq_getElem hj, List.getElem?_eq_getElem (show j < m.length by omega)] at this ⊢
    simpa using this
  · rw [List.getElem?_eq_none (by omega), List.getElem?_eq_none (by omega)]

theorem info_u8' : (Try.prog.info? 5).map (fun i => (i.zero, i.size, i.bytes)) = some (some (.int .u8 0), 1, 1) := by kernel_rfl
theorem make_bytes (n : Nat) (hn : n ≤ 100000000) (w : World) : (Instr.makeSlice 51 (.int .i64 (n : Int)) (.int .i64 (n : Int))).run Try.prog w = .ok (.slice (some ⟨w.heap.size, 0, none⟩) n n) (w.alloc (.cells (madeCells #[.int .u8 0] n) 5)) := by
  obtain ⟨i0, hi, hz0, hz1, hz2⟩ := info_parts info_u8'
  have h := run_make (P := Try.prog) w 51 5 i0 (.int .u8 0) Try.underlying51 hi hz0 .i64 .i64 n n (by omega) (by omega) (by rw [hz2]; omega) (by omega)
  rw [h, hz1]
  simp [Value.cells]

theorem nbits_leW (l : List Nat) (hw : Ww l) : nbits (valW l) ≤ 64 * l.length := by
  refine nbits_le _ _ ?_
  have := valW_lt l hw
  rwa [show (18446744073709551616 : Nat) = 2 ^ 64 from by decide, ← Nat.pow_mul] at this

set_option maxHeartbeats 2000000 in
theorem bytesN_any (l : List Nat) (v : Value) (w : World) (h : SK .u64 w v l) (hw : Ww l) (hl : l.length ≤ 1000000) :
    Calls Try.prog 34 #[v] w fun e w' => ∃ v', e = .returned v' ∧ SK .u8 w' v' (beB (valW l) ((nbits (valW l) + 7) / 8)) ∧ Below w.heap.size w w' := by
  have HA : Hid (SK .u64 w v l) := h
  obtain ⟨a, cap, rfl, hcap, -, hc⟩ := h
  have Hc : Hid _ := hc
  have Hw : Hid (Ww l) := hw
  have hbl := nbits_leW l hw
  have hwv : Hid (∀ k, l.getD k 0 = valW l / 2 ^ (64 * k) % 2 ^ 64) := fun k => by
    rw [word_val l hw k, Nat.pow_mul, show (2 : Nat) ^ 64 = 18446744073709551616 from by decide]
  clear hc hw
  obtain ⟨N, hN⟩ : ∃ N, Hid (valW l = N) := ⟨_, rfl⟩
  rw [hN.out] at hbl hwv ⊢
  have cB : Hid (Calls Try.prog 19 #[.slice a l.length cap] w fun e w' => e = .returned (.int .i64 (nbits N : Int)) ∧ w' = w) := by
    have := bitsN_any l _ w HA.out hl Hw.out
    rwa [hN.out] at this
  generalize nbits N = T at *
  obtain ⟨n, hn⟩ : ∃ n : Nat, Hid ((T + 7) / 8 = n) := ⟨_, rfl⟩
  rw [hn.out]
  have hT1 : (T : Int) ≤ 64000000 := by omega
  have hn1 : ((T : Int) + 7) / 8 = (n : Int) := by have := hn.out; omega
  have hn2 : (n : Int) ≤ 8000001 := by omega
  have hmk := fun w => make_bytes n (by omega) w
  have Hbl : Hid (T ≤ 64 * l.length) := hbl
  clear hbl
  go_enter Try.func34, Try.ntmps34
  go_wp2_with fail
  refine cB.out.mono ?_
  rintro e w1 ⟨rfl, hw1⟩; rw [hw1]; clear hw1 w1
  go_wp2_with fail
  clear hmk
  go_loopw [13] (fun y W => ∃ (i : Nat) (o : List Nat), y = .int .i64 i ∧ i ≤ n ∧ Row .u8 w.heap.size w.heap.size o W ∧ Below w.heap.size w W ∧ Hid (o.length = n ∧ ∀ j, j < i → o.getD j 0 = N / 2 ^ (8 * (n - 1 - j)) % 256)) (fun y _ => n - (intOf y).toNat)
  case atStart => exact ⟨0, _, rfl, Nat.zero_le _, Row.made w n _, (Below.refl _ _).alloc (Nat.le_refl _) _, by simp, fun j hj => by omega⟩
  case round =>
    obtain ⟨i, o, rfl, hi, hrow, hbel, H⟩ := hrel
    have hsz := hbel.size
    by_cases hlt : i < n
    · have hlt' : (i : Int) < n := by omega
      obtain ⟨p, hp⟩ : ∃ p : Nat, (n : Int) - 1 - (i : Int) = (p : Int) := ⟨n - 1 - i, by omega⟩
      have hp2 : Hid (n - 1 - i = p) := by unfold Hid; omega
      obtain ⟨q, hq⟩ : ∃ q : Nat, (p : Int) / 8 = (q : Int) := ⟨p / 8, by omega⟩
      obtain ⟨r, hr⟩ : ∃ r : Nat, (p : Int) % 8 = (r : Int) := ⟨p % 8, by omega⟩
      have hr1 : (r : Int) ≤ 7 := by omega
      have hql : q < l.length := by have := Hbl.out; have := hn.out; omega
      have hql' : (q : Int) < l.length := by omega
      obtain ⟨ba, oa, rfl, hba, hcella⟩ := Hc.out q hql
      obtain ⟨x, hx⟩ : ∃ x, Hid (l.getD q 0 = x) := ⟨_, rfl⟩
      rw [hx.out] at hcella
      have hx1 : x < 18446744073709551616 := by rw [← hx.out]; exact Hw.out q
      have ca : wr.cell? ⟨ba, oa + q, none⟩ = some (.int .u64 (x : Int)) := (hbel.cell (p := ⟨ba, oa + q, none⟩) hba).trans hcella
      have co := hrow.cell i (by rw [H.out.1]; exact hlt)
      obtain ⟨z, hz⟩ : ∃ z, Hid (o.getD i 0 = z) := ⟨_, rfl⟩
      rw [hz.out] at co
      have fo := hrow.free i
      have hbyte : Hid (x / 2 ^ (8 * r) % 256 = N / 2 ^ (8 * p) % 256) := by
        have := byte_nat N q r (by omega)
        rw [← hwv.out q, hx.out, show 8 * q + r = p by omega] at this
        exact this
      have Hr : Hid (Row .u8 w.heap.size w.heap.size o wr) := hrow
      have Hb : Hid (Below w.heap.size w wr) := hbel
      clear hcella hrow hbel
      go_wp2_with fail
      go_roundw
      case rel =>
        have ev : ((x / 2 ^ (8 * r) % 256 : Nat) : Int) = (x : Int) / 2 ^ (8 * r) % 256 := by simp
        refine ⟨i + 1, o.set i (x / 2 ^ (8 * r) % 256), by go_num, by omega, ?_, Hb.out.setCell (Nat.le_refl _) _, by rw [List.length_set]; exact H.out.1, fun j hj => ?_⟩
        · rw [← ev]; exact Hr.out.set i _ (by rw [H.out.1]; exact hlt)
        · rw [getD_set _ _ _ _ (by rw [H.out.1]; exact hlt)]
          by_cases e : j = i
          · rw [if_pos e, e, hp2.out]; exact hbyte.out
          · rw [if_neg e]; exact H.out.2 j (by omega)
      case measure => simp [intOf]; omega
    · obtain rfl : i = n := by omega
      have e : o = beB N i := list_of_getD _ _ (by rw [H.out.1, beB_length]) (fun j hj => by rw [H.out.1] at hj; rw [H.out.2 j hj, beB_get N i j hj])
      have hsl := hrow.sk
      rw [H.out.1, e] at hsl
      have Hs : Hid (SK .u8 wr (.slice (some ⟨w.heap.size, 0, none⟩) i i) (beB N i)) := hsl
      have Hb : Hid (Below w.heap.size w wr) := hbel
      clear hsl hrow hbel H e
      go_wp2_with fail
      go_ret
      exact ⟨_, rfl, Hs.out, Hb.out⟩

/-- The number of the first t bytes, the highest first. -/
def hvN (l : List Nat) : Nat → Nat
  | 0 => 0
  | t + 1 => hvN l t * 256 + l.getD t 0
/-- Each of them is a byte. -/
def Bb (l : List Nat) : Prop := ∀ j, l.getD j 0 < 256
theorem hvN_lt (l : List Nat) (h : Bb l) : ∀ t, hvN l t < 256 ^ t
  | 0 => by simp [hvN]
  | t + 1 => by
    have := hvN_lt l h t
    have := h t
    simp only [hvN, Nat.pow_succ]
    omega
theorem bytes_or (X q r x : Nat) (hr : r < 8) (hx : x < 256) (hX : ∃ Y, X = Y * 256 ^ (8 * q + r + 1)) :
    (X / 18446744073709551616 ^ q % 18446744073709551616) ||| (x * 2 ^ (8 * r)) = X / 18446744073709551616 ^ q % 18446744073709551616 + x * 2 ^ (8 * r) ∧ X / 18446744073709551616 ^ q % 18446744073709551616 + x * 2 ^ (8 * r) < 18446744073709551616 := by
  obtain ⟨Y, rfl⟩ := hX
  have e1 : Y * 256 ^ (8 * q + r + 1) / 18446744073709551616 ^ q = 2 ^ (8 * (r + 1)) * Y := by
    rw [show 256 ^ (8 * q + r + 1) = 18446744073709551616 ^ q * 2 ^ (8 * (r + 1)) by
      rw [show (18446744073709551616 : Nat) = 2 ^ 64 from by decide, ← Nat.pow_mul, ← Nat.pow_add, show (256 : Nat) = 2 ^ 8 from by decide, ← Nat.pow_mul]; congr 1; omega,
      Nat.mul_left_comm, Nat.mul_div_cancel_left _ (Nat.pow_pos (by omega)), Nat.mul_comm]
  rw [e1]
  have e2 : (18446744073709551616 : Nat) = 2 ^ (8 * (r + 1)) * 2 ^ (64 - 8 * (r + 1)) := by rw [← Nat.pow_add, show 8 * (r + 1) + (64 - 8 * (r + 1)) = 64 by omega]
  have e3 : 2 ^ (8 * (r + 1)) * Y % 18446744073709551616 = 2 ^ (8 * (r + 1)) * (Y % 2 ^ (64 - 8 * (r + 1))) := by
    conv => lhs; arg 2; rw [e2]
    rw [Nat.mul_mod_mul_left]
  rw [e3]
  have h1 : x * 2 ^ (8 * r) < 2 ^ (8 * (r + 1)) := by
    rw [Nat.mul_add, Nat.pow_add, Nat.mul_comm (2 ^ (8 * r))]
    exact Nat.mul_lt_mul_of_pos_right hx (Nat.two_pow_pos _)
  refine ⟨(Nat.two_pow_add_eq_or_of_lt h1 _).symm, ?_⟩
  have h2 : Y % 2 ^ (64 - 8 * (r + 1)) + 1 ≤ 2 ^ (64 - 8 * (r + 1)) := Nat.mod_lt _ (Nat.two_pow_pos _)
  have h3 : 2 ^ (8 * (r + 1)) * (Y % 2 ^ (64 - 8 * (r + 1)) + 1) ≤ 18446744073709551616 := by
    conv => rhs; rw [e2]
    exact Nat.mul_le_mul_left _ h2
  rw [Nat.mul_add, Nat.mul_one] at h3
  generalize 2 ^ (8 * (r + 1)) * (Y % 2 ^ (64 - 8 * (r + 1))) = A at *
  omega
/-- The first i bytes stand in the words o, at their places. -/
def OfW (l : List Nat) (n m i : Nat) (o : List Nat) : Prop := o.length = m ∧ Ww o ∧ valW o = hvN l i * 256 ^ (n - i)
theorem OfW.word {l : List Nat} {n m i : Nat} {o : List Nat} (h : OfW l n m i o) (hi : i < n) (p q r x : Nat) (hp : p = n - 1 - i) (hq : p = 8 * q + r) (hr : r < 8) (hx : x < 256) :
    (o.getD q 0) ||| (x * 2 ^ (8 * r)) = o.getD q 0 + x * 2 ^ (8 * r) ∧ o.getD q 0 + x * 2 ^ (8 * r) < 18446744073709551616 := by
  rw [word_val o h.2.1 q, h.2.2]
  exact bytes_or _ q r x hr hx ⟨hvN l i, by congr 2; omega⟩
theorem OfW.step {l : List Nat} {n m i : Nat} {o : List Nat} (h : OfW l n m i o) (hi : i < n) (p q r x v : Nat) (hp : p = n - 1 - i) (hq : p = 8 * q + r) (hr : r < 8) (hx : l.getD i 0 = x) (hx1 : x < 256) (hqm : q < m) (hv : v = o.getD q 0 + x * 2 ^ (8 * r)) :
    OfW l n m (i + 1) (o.set q v) := by
  obtain ⟨h1, h2, h3⟩ := id h
  have hw := (h.word hi p q r x hp hq hr hx1).2
  refine ⟨by rw [List.length_set]; exact h1, h2.set (by omega) (by rw [hv]; exact hw), ?_⟩
  have e := valW_set o q v (by omega)
  rw [hv, Nat.mul_add] at e
  have e2 : 18446744073709551616 ^ q * (x * 2 ^ (8 * r)) = x * 256 ^ p := by
    rw [Nat.mul_left_comm]
    congr 1
    rw [show (18446744073709551616 : Nat) = 2 ^ 64 from by decide, ← Nat.pow_mul, ← Nat.pow_add, show (256 : Nat) = 2 ^ 8 from by decide, ← Nat.pow_mul]
    congr 1; omega
  rw [← hv] at e
  have e4 : hvN l (i + 1) * 256 ^ (n - (i + 1)) = hvN l i * 256 ^ (n - i) + x * 256 ^ p := by
    rw [show hvN l (i + 1) = hvN l i * 256 + l.getD i 0 from rfl, hx, Nat.add_mul, show n - i = (n - (i + 1)) + 1 by omega, Nat.pow_succ, show n - (i + 1) = p by omega, Nat.mul_assoc, Nat.mul_comm 256]
  rw [e4, ← h3, ← e2]
  omega
theorem OfW.start (l : List Nat) (n m : Nat) : OfW l n m 0 (List.replicate m 0) := ⟨by simp, Ww.zeros m, by rw [valW_zeros]; simp [hvN]⟩

set_option maxHeartbeats 2000000 in
theorem ofN_any (l : List Nat) (v : Value) (w : World) (h : SK .u8 w v l) (hw : Bb l) (hl : l.length ≤ 1000000) :
    Calls Try.prog 31 #[v] w fun e w' => ∃ v', e = .returned v' ∧ Can w' v' (hvN l l.length) ∧ Below w.heap.size w w' := by
  obtain ⟨a, cap, rfl, hcap, -, hc⟩ := h
  have Hc : Hid _ := hc
  have Hw : Hid (Bb l) := hw
  clear hc hw
  have hl' : (l.length : Int) ≤ 1000000 := by omega
  obtain ⟨m, hm⟩ : ∃ m : Nat, Hid ((l.length + 7) / 8 = m) := ⟨_, rfl⟩
  have hm1 : ((l.length : Int) + 8 - 1) / 8 = (m : Int) := by have := hm.out; omega
  have hm2 : (m : Int) ≤ 1000000 := by have := hm.out; omega
  have hmk := fun w => make_words m (by omega) w
  go_enter Try.func31, Try.ntmps31
  go_wp2_with fail
  clear hmk
  have Hm1 : Hid (((l.length : Int) + 8 - 1) / 8 = (m : Int)) := hm1
  clear hm1
  go_loopw [15] (fun y W => ∃ (i : Nat) (o : List Nat), y = .int .i64 i ∧ i ≤ l.length ∧ Row .u64 w.heap.size w.heap.size o W ∧ Below w.heap.size w W ∧ Hid (OfW l l.length m i o)) (fun y _ => l.length - (intOf y).toNat)
  case atStart => exact ⟨0, _, rfl, Nat.zero_le _, Row.made w m _, (Below.refl _ _).alloc (Nat.le_refl _) _, OfW.start _ _ _⟩
  case round =>
    obtain ⟨i, o, rfl, hi, hrow, hbel, H⟩ := hrel
    have hsz := hbel.size
    by_cases hlt : i < l.length
    · have hlt' : (i : Int) < l.length := by omega
      obtain ⟨p, hp⟩ : ∃ p : Nat, (l.length : Int) - 1 - (i : Int) = (p : Int) := ⟨l.length - 1 - i, by omega⟩
      have hp2 : p = l.length - 1 - i := by omega
      obtain ⟨q, hq⟩ : ∃ q : Nat, (p : Int) / 8 = (q : Int) := ⟨p / 8, by omega⟩
      obtain ⟨r, hr⟩ : ∃ r : Nat, (p : Int) % 8 = (r : Int) := ⟨p % 8, by omega⟩
      have hr1 : (r : Int) ≤ 7 := by omega
      have hqm : q < m := by have := hm.out; omega
      have hqm' : (q : Int) < m := by omega
      obtain ⟨ba, oa, rfl, hba, hcella⟩ := Hc.out i hlt
      obtain ⟨x, hx⟩ : ∃ x, Hid (l.getD i 0 = x) := ⟨_, rfl⟩
      rw [hx.out] at hcella
      have hx1 : x < 256 := by rw [← hx.out]; exact Hw.out i
      have ca : wr.cell? ⟨ba, oa + i, none⟩ = some (.int .u8 (x : Int)) := (hbel.cell (p := ⟨ba, oa + i, none⟩) hba).trans hcella
      have co := hrow.cell q (by rw [H.out.1]; exact hqm)
      have hW := H.out.word hlt p q r x hp2 (by omega) (by omega) hx1
      have R0 := H.out.step hlt p q r x _ hp2 (by omega) (by omega) hx.out hx1 hqm rfl
      have ho1 := H.out.2.1 q
      generalize o.getD q 0 = z at co hW R0 ho1
      have fo := hrow.free q
      have R : Hid (OfW l l.length m (i + 1) (o.set q (z + x * 2 ^ (8 * r)))) := R0
      have hsx : x * 2 ^ (8 * r) < 18446744073709551616 := by omega
      have hor : bits .or .u64 (z : Int) (IntKind.u64.wrap ((x : Int) * 2 ^ (8 * r))) = ((z + x * 2 ^ (8 * r) : Nat) : Int) := by
        have e : (x : Int) * 2 ^ (8 * r) = ((x * 2 ^ (8 * r) : Nat) : Int) := by simp
        rw [e, IntKind.wrap_u64, Int.emod_eq_of_lt (Int.natCast_nonneg _) (by omega), bits_or_u64_nat _ _ ho1 hsx, hW.1]
      have wx : IntKind.u64.wrap (x : Int) = (x : Int) := by rw [IntKind.wrap_u64]; omega
      have wr8 : IntKind.i64.wrap (8 * (r : Int)) = 8 * (r : Int) := wrapI _ (by omega) (by omega)
      have wq : IntKind.i64.wrap (q : Int) = (q : Int) := wrapI _ (by omega) (by omega)
      have Hr : Hid (Row .u64 w.heap.size w.heap.size o wr) := hrow
      have Hb : Hid (Below w.heap.size w wr) := hbel
      have Hp2 : Hid (p = l.length - 1 - i) := hp2
      clear hcella hrow hbel R0 hW hp2
      go_wp2_with fail
      go_region
      go_wp2_with fail
      go_roundw
      case rel =>
        have ev : ((z + x * 2 ^ (8 * r) : Nat) : Int) = (z : Int) + (x : Int) * 2 ^ (8 * r) := by simp
        refine ⟨i + 1, _, by go_num, by omega, ?_, (Hb.out.setCell (Nat.le_refl _) _).drew, R⟩
        rw [← ev]
        exact (Hr.out.set q _ (by rw [H.out.1]; exact hqm)).drew
      case measure => simp [intOf]; omega
    · obtain rfl : i = l.length := by omega
      have hv : Hid (valW o = hvN l l.length) := by have := H.out.2.2; rwa [Nat.sub_self, Nat.pow_zero, Nat.mul_one] at this
      have hsl := hrow.sk
      rw [H.out.1] at hsl
      have Hs : Hid (SK .u64 wr (.slice (some ⟨w.heap.size, 0, none⟩) m m) o) := hsl
      have Ho : Hid (Ww o) := H.out.2.1
      have Hol : Hid (o.length = m) := H.out.1
      have Hb : Hid (Below w.heap.size w wr) := hbel
      clear hsl hrow hbel H
      go_wp2_with fail
      refine (cut_any o _ _ Hs.out (by rw [Hol.out]; omega) Ho.out).mono ?_
      rintro e w1 ⟨v, rfl, hC, hw1⟩; rw [hw1]; clear hw1 w1
      rw [hv.out] at hC
      have HC : Hid (Can wr v (hvN l l.length)) := hC
      obtain ⟨ra, rn, rc, rfl⟩ := hC.shape
      clear hC
      go_wp2_with fail
      go_ret
      exact ⟨_, rfl, HC.out, Hb.out⟩

end Go.Proofs.Ytdlocljnmaeikaa
