/-
  The contract of the document's own digits: quotient and rest, digit by digit from above, each digit found by halving. Conditions: as each theorem says.
-/
import Derived.Test.YtkbiiolkekpkiaaDoorQuoV
import Derived.Test.YtkbiiolkekpkiaaDoorRefH
import Derived.Laws.AppendOwnNone
import Derived.Deep.DeepCutAuto
import Derived.Deep.CutBlock
import Derived.Test.YtkbiiolkekpkiaaDoorFour
namespace Go.Proofs.YtkbiiolkekpkiaaDoor
open Go.RowKit
set_option linter.unusedVariables false

theorem Own.lit1 (base : Nat) (w : World) (d : Nat) (hb : base ≤ w.heap.size) : Own base (w.alloc (.cells #[.int .i64 (d : Int)] 3)) (.slice (some ⟨w.heap.size, 0, none⟩) 1 1) [d] := by
  refine ⟨by simp [dv], Or.inr ⟨w.heap.size, 1, #[.int .i64 (d : Int)], by simp, hb, ?_, by simp, by unfold maxLen; simp, by simp, by simp [dv]⟩⟩
  show (w.heap.push _)[w.heap.size]? = _
  simp

/-- 'append(out, m...)' on the call's own slice, the digits m lying anywhere, or nowhere. -/
theorem wpList_appS {ops : Array Oper} {rest : List Oper} {o : Oper} {a : Act} {Q : Exit → Act → World → Prop} {wr : World} (hgd : o.guard = none) (s x : Operand)
    (ho : o.op = .call { callee := .builtin .append, args := #[s, x], argTypes := #[33, 33] })
    (base : Nat) (v : Value) (l m : List Nat) (vx : Value) (hs : a.eval s = v) (hown : Own base wr v l)
    (hx : a.eval x = vx) (hS : Sl wr vx m) (hlen : l.length ≤ 1000000) (hlen2 : m.length ≤ 1000000) (hbase : base ≤ wr.heap.size)
    (h : ∀ v' w', Own base w' v' (l ++ m) → Below base wr w' → wpList Tryd.prog ops Q rest (a.put o.dst v') w') :
    wpList Tryd.prog ops Q (o :: rest) a wr := by
  obtain ⟨i0, hi, hz0, hz1, hz2⟩ := info_parts info_int
  obtain ⟨p, cap, rfl, hcap, hnil, hc⟩ := hS
  cases p with
  | none =>
    obtain ⟨rfl, rfl⟩ := hnil rfl
    refine wpList_append_own_none hgd s x 33 ho base 3 i0 1 Tryd.underlying33 hi v _ _ hs hown hx ?_
    exact h v wr (by rw [List.append_nil]; exact hown) (Below.refl _ _)
  | some p =>
    refine wpList_append_own _ hgd s x 33 ho base 3 i0 (.int .i64 0) 1 8 Tryd.underlying33 hi hz0 hz1 hz2 rfl (by decide) v _ _ hs hown p m.length cap (dv m) hx (by simp [dv]) ?_ ?_ ?_ ?_ ?_ ?_
    · intro j u hj
      by_cases hjl : j < m.length
      · rw [dv_get m j hjl] at hj
        rw [← hj]
        obtain ⟨b, off, e, -, e3⟩ := hc j hjl
        obtain rfl : p = ⟨b, off, none⟩ := by simpa using e
        have e : Addr.add ⟨b, off, none⟩ j = ⟨b, off + j, none⟩ := by
          unfold Addr.add
          by_cases h0 : j = 0
          · subst h0; simp
          · simp [h0]
        rw [e]; exact e3
      · rw [List.getElem?_eq_none (by rw [dv_length]; omega)] at hj; cases hj
    · intro u hu; simp [dv] at hu; obtain ⟨d, _, rfl⟩ := hu; rfl
    · unfold maxLen; omega
    · omega
    · exact hbase
    · intro v' w' h1 h2 _
      refine h v' w' ?_ ?_
      · unfold Own
        have e : dv (l ++ m) = dv l ++ dv m := by simp [dv]
        rw [e]
        simpa using h1
      · refine Below.grown (Below.refl _ _) h2 hbase ?_
        intro k hk
        rcases hown.2 with ⟨e, _⟩ | ⟨g, cap, cur, e, hg, _⟩
        · rw [e] at hk; simp [Value.ownBlock] at hk
        · rw [e] at hk; simp [Value.ownBlock] at hk; omega

set_option maxHeartbeats 400000 in
/-- The digits without noughts at the end lie where they lay. -/
theorem trim_at (l : List Nat) (v : Value) (w : World) (h : Sl w v l) (hl : l.length ≤ 1000000) (hd : Dg l) :
    Calls Tryd.prog 71 #[v] w fun e w' => ∃ v', e = .returned v' ∧ Num w v' (valD l) ∧ w' = w ∧ Hid (∃ a m c m' c', v = .slice a m c ∧ v' = .slice a m' c') := by
  obtain ⟨a, cap, rfl, hcap, hnil, hc⟩ := h
  have Hc : Hid _ := hc
  clear hc
  go_enter Tryd.func71, Tryd.ntmps71
  go_wp2
  go_loop [3] (fun x => ∃ n : Nat, n ≤ l.length ∧ x = .int .i64 n ∧ Hid (valD (l.take n) = valD l)) (fun x => (intOf x).toNat)
  case atStart => exact ⟨l.length, Nat.le_refl _, rfl, by unfold Hid; rw [List.take_length]⟩
  case round =>
    obtain ⟨n, hn, rfl, hv⟩ := hrel
    cases n with
    | zero =>
      have hv' : valD l = 0 := by rw [← hv.out]; rfl
      have H : Hid (Num w (.slice a 0 cap) (valD l)) := ⟨[], ⟨a, cap, rfl, Nat.zero_le _, fun h => ⟨rfl, (hnil h).2⟩, fun j hj => by simp at hj⟩, Dg.nil, Or.inl rfl, hv'.symm⟩
      clear hv'
      go_wp2
      go_ret
      exact ⟨_, rfl, H.out, rfl, _, _, rfl⟩
    | succ n =>
      obtain ⟨b, o, rfl, hb, hcell⟩ := Hc.out n (by omega)
      obtain ⟨d, hd'⟩ : ∃ d, Hid (l.getD n 0 = d) := ⟨_, rfl⟩
      rw [hd'.out] at hcell
      have hn' : (n : Int) + 1 ≤ l.length := by omega
      by_cases hz : d = 0
      · subst hz
        go_wp2
        go_round
        case rel =>
          refine ⟨n, by omega, by go_num, ?_⟩
          have := valD_take l n
          rw [hd'.out] at this
          unfold Hid at *
          omega
        case measure => simp [intOf]
      · have hz' : ((d : Int) == 0) = false := by simp [hz]
        have H : Hid (Num w (.slice (some ⟨b, o, none⟩) (n + 1) cap) (valD l)) := by
          have e : (l.take (n + 1)).length = n + 1 := by rw [List.length_take]; omega
          have g : ∀ j, j < n + 1 → (l.take (n + 1)).getD j 0 = l.getD j 0 := fun j hj => by
            simp [List.getD_eq_getElem?_getD, hj]
          refine ⟨l.take (n + 1), ⟨some ⟨b, o, none⟩, cap, by rw [e], by omega, fun h => (by simp at h), fun j hj => ?_⟩, fun j => ?_, Or.inr ?_, hv.out⟩
          · obtain ⟨b', o', e1, e2, e3⟩ := Hc.out j (by omega)
            rw [g j (by omega)]
            exact ⟨b', o', e1, e2, e3⟩
          · by_cases hj : j < n + 1
            · rw [g j hj]; exact hd j
            · rw [List.getD_eq_getElem?_getD, List.getElem?_eq_none (by omega)]; decide
          · rw [e, show n + 1 - 1 = n by omega, g n (by omega), hd'.out]; exact hz
        clear hz
        go_wp2
        go_ret
        exact ⟨_, rfl, H.out, rfl, _, _, rfl⟩

theorem Num.setCell {W : World} {g o n cap N : Nat} (h : Num W (.slice (some ⟨g, o, none⟩) n cap) N) (b i : Nat) (v : Value) (hb : b ≠ g) : Num (W.setCell ⟨b, i, none⟩ v) (.slice (some ⟨g, o, none⟩) n cap) N := by
  obtain ⟨l, ⟨a, c, e, h2, h3, h4⟩, hd, hz, hv⟩ := h
  refine ⟨l, ⟨a, c, e, h2, h3, fun j hj => ?_⟩, hd, hz, hv⟩
  obtain ⟨b', o', e1, e2, e3⟩ := h4 j hj
  refine ⟨b', o', e1, by simpa using e2, ?_⟩
  subst e1
  simp only [Value.slice.injEq, Option.some.injEq, Addr.mk.injEq] at e
  rw [World.cell?_setCell_other _ _ _ _ (fun q => hb ((congrArg Addr.block q).trans e.1.1.symm))]
  exact e3
theorem Own.block {base : Nat} {w : World} {v : Value} {x : Nat} {l : List Nat} (h : Own base w v (x :: l)) : ∃ g n c, v = .slice (some ⟨g, 0, none⟩) n c ∧ base ≤ g := by
  rcases h.2 with ⟨_, e0⟩ | ⟨g, cap, cur, e, hg, _⟩
  · simp at e0
  · exact ⟨g, _, cap, e, hg⟩

theorem pow_next (n : Nat) (B m : Nat) (hB : B < 16777216 ^ (n + 1)) (hm : m ≤ 16777216) : B * m < 16777216 ^ (n + 2) := by
  rw [Nat.pow_succ 16777216 (n + 1)]
  exact Nat.lt_of_le_of_lt (Nat.mul_le_mul_left B hm) (Nat.mul_lt_mul_of_pos_right hB (by omega))

end Go.Proofs.YtkbiiolkekpkiaaDoor

/-
  The contract of the document's own Div: quotient and rest. Conditions: as each theorem says.
-/
namespace Go.Proofs.YtkbiiolkekpkiaaDoor
open Go.RowKit
set_option linter.unusedVariables false

theorem scale_lt (m A f : Nat) (hA : A < 16777216 ^ m) (hf : f ≤ 16777216) : A * f < 16777216 ^ (m + 1) := by
  rw [Nat.pow_succ]
  exact Nat.lt_of_le_of_lt (Nat.mul_le_mul_left A hf) (Nat.mul_lt_mul_of_pos_right hA (by omega))

end Go.Proofs.YtkbiiolkekpkiaaDoor

/-
  Numbers modulo an odd number below 2^256, as Montgomery's products go through them: pure facts of naturals and integers. Conditions: as each theorem says.
-/
namespace Go.Proofs.YtkbiiolkekpkiaaDoor
open Go.RowKit
set_option linter.unusedVariables false

theorem M4_pow : M4 = 2 ^ 256 := by unfold M4; decide
theorem M4_pos : 0 < M4 := by unfold M4; omega

/-- What 2^256 is 1 by, modulo an odd number. -/
def ri (m : Nat) : Nat := ((m + 1) / 2) ^ 256

/-- A number by 2^256, modulo m. -/
def red (m x : Nat) : Nat := x * ri m % m

theorem mul_mod_left' (a b m : Nat) : (a % m) * b % m = a * b % m := by rw [Nat.mul_mod, Nat.mod_mod, ← Nat.mul_mod]
theorem mul_mod_right' (a b m : Nat) : a * (b % m) % m = a * b % m := by rw [Nat.mul_mod, Nat.mod_mod, ← Nat.mul_mod]

theorem ri_one (m : Nat) (ho : m % 2 = 1) (hm : 1 < m) : M4 * ri m % m = 1 := by
  rw [M4_pow]
  unfold ri
  rw [← Nat.mul_pow, show 2 * ((m + 1) / 2) = m + 1 by omega, Nat.pow_mod, Nat.add_mod_left, Nat.mod_eq_of_lt hm, Nat.one_pow, Nat.mod_eq_of_lt hm]

theorem red_lt (m x : Nat) (hm : 1 < m) : red m x < m := Nat.mod_lt _ (by omega)
theorem red_mod (m x : Nat) : red m (x % m) = red m x := mul_mod_left' _ _ _
theorem red_mul_left (m x y : Nat) : red m ((x % m) * y) = red m (x * y) := by
  rw [← red_mod, mul_mod_left', red_mod]
theorem red_mul_right (m x y : Nat) : red m (x * (y % m)) = red m (x * y) := by
  rw [← red_mod, mul_mod_right', red_mod]
/-- A multiple of 2^256. -/
theorem red_up (m x : Nat) (ho : m % 2 = 1) (hm : 1 < m) : red m (x * M4) = x % m := by
  unfold red
  rw [Nat.mul_assoc, ← mul_mod_right', ri_one m ho hm, Nat.mul_one]
theorem red_of (m T X : Nat) (ho : m % 2 = 1) (hm : 1 < m) (h : T * M4 % m = X % m) : T % m = red m X := by
  rw [← red_up m T ho hm, ← red_mod m (T * M4), h, red_mod]
theorem up_red (m x : Nat) (ho : m % 2 = 1) (hm : 1 < m) : red m x * M4 % m = x % m := by
  unfold red
  rw [mul_mod_left', Nat.mul_assoc, Nat.mul_comm (ri m) M4, ← mul_mod_right', ri_one m ho hm, Nat.mul_one]

/-- What a product by Montgomery's way comes to. -/
theorem mont_end (m a b T q : Nat) (ho : m % 2 = 1) (hm : 1 < m) (hq : q < M4) (hb : b < M4) (ha : a < M4) (h : a < m ∨ b < m) (hT : T < a + m) (e : T * M4 = a * b + m * q) : T < 2 * m ∧ T % m = red m (a * b) := by
  refine ⟨?_, red_of m T (a * b) ho hm (by rw [e, Nat.add_mul_mod_self_left])⟩
  rcases h with h | h
  · omega
  · have h1 : a * b + m * q < M4 * (2 * m) := by
      have h2 : a * b ≤ M4 * b := Nat.mul_le_mul_right _ (by omega)
      have h3 : M4 * b < M4 * m := Nat.mul_lt_mul_of_pos_left h M4_pos
      have h4 : m * q ≤ m * M4 := Nat.mul_le_mul_left _ (by omega)
      rw [Nat.mul_comm m M4] at h4
      rw [show M4 * (2 * m) = M4 * m + M4 * m by rw [← Nat.mul_assoc, Nat.mul_comm M4 2, Nat.mul_assoc]; omega]
      omega
    rw [← e, Nat.mul_comm T M4] at h1
    exact Nat.lt_of_mul_lt_mul_left h1

/-- One round: what was gathered, a row of the product and a multiple of m, by 2^64. -/
theorem mont_next (m a w ti T T' : Nat) (hw : w < 18446744073709551616) (hti : ti < 18446744073709551616) (hT : T < a + m) (e : T' * 18446744073709551616 = T + a * w + m * ti) : T' < a + m := by
  have h1 : a * w ≤ a * 18446744073709551615 := Nat.mul_le_mul_left _ (by omega)
  have h2 : m * ti ≤ m * 18446744073709551615 := Nat.mul_le_mul_left _ (by omega)
  omega

theorem mul_four (a w0 w1 w2 w3 p q r : Nat) : a * (w0 + p * w1 + q * w2 + r * w3) = a * w0 + p * (a * w1) + q * (a * w2) + r * (a * w3) := by
  rw [Nat.mul_add, Nat.mul_add, Nat.mul_add, Nat.mul_left_comm a p, Nat.mul_left_comm a q, Nat.mul_left_comm a r]

theorem mont_sum (x0 x1 x2 x3 y0 y1 y2 y3 T1 T2 T3 T4 Z : Nat) (hZ : Z = T4 * M4) (e0 : T1 * 18446744073709551616 = 0 + x0 + y0) (e1 : T2 * 18446744073709551616 = T1 + x1 + y1) (e2 : T3 * 18446744073709551616 = T2 + x2 + y2) (e3 : T4 * 18446744073709551616 = T3 + x3 + y3) :
    Z = x0 + 18446744073709551616 * x1 + 340282366920938463463374607431768211456 * x2 + 6277101735386680763835789423207666416102355444464034512896 * x3 + (y0 + 18446744073709551616 * y1 + 340282366920938463463374607431768211456 * y2 + 6277101735386680763835789423207666416102355444464034512896 * y3) := by
  have h : Z = T4 * 115792089237316195423570985008687907853269984665640564039457584007913129639936 := hZ
  clear hZ
  omega

/-- Four rounds. -/
theorem mont_four (m a b w0 w1 w2 w3 s0 s1 s2 s3 T1 T2 T3 T4 : Nat) (hb : b = w0 + 18446744073709551616 * w1 + 340282366920938463463374607431768211456 * w2 + 6277101735386680763835789423207666416102355444464034512896 * w3)
    (e0 : T1 * 18446744073709551616 = 0 + a * w0 + m * s0) (e1 : T2 * 18446744073709551616 = T1 + a * w1 + m * s1) (e2 : T3 * 18446744073709551616 = T2 + a * w2 + m * s2) (e3 : T4 * 18446744073709551616 = T3 + a * w3 + m * s3) :
    T4 * M4 = a * b + m * (s0 + 18446744073709551616 * s1 + 340282366920938463463374607431768211456 * s2 + 6277101735386680763835789423207666416102355444464034512896 * s3) := by
  rw [hb, mul_four, mul_four]
  exact mont_sum _ _ _ _ _ _ _ _ _ _ _ _ _ rfl e0 e1 e2 e3

/-- The lowest word goes. -/
theorem low_goes (m0 k u : Nat) (hk : m0 * k % 18446744073709551616 = 18446744073709551615) : (u + m0 * (u * k % 18446744073709551616)) % 18446744073709551616 = 0 := by
  rw [Nat.add_mod, mul_mod_right', Nat.mul_left_comm, ← mul_mod_right', hk, ← Nat.add_mod, show u + u * 18446744073709551615 = u * 18446744073709551616 by omega, Nat.mul_mod_left]

/-- Newton's way to what an odd word is 1 by. -/
theorem newton (w x : Int) (j : Nat) (h : (w * x - 1) % 2 ^ j = 0) : (w * (x * (2 - w * x)) - 1) % 2 ^ (j + j) = 0 := by
  obtain ⟨t, ht⟩ := Int.dvd_of_emod_eq_zero h
  have e : w * (x * (2 - w * x)) - 1 = 2 ^ (j + j) * (- (t * t)) := by
    have hx : w * x = 1 + 2 ^ j * t := by omega
    rw [← Int.mul_assoc, hx, Int.pow_add]
    have : (1 + 2 ^ j * t) * (2 - (1 + 2 ^ j * t)) - 1 = - ((2 ^ j * t) * (2 ^ j * t)) := by
      rw [show (2 : Int) - (1 + 2 ^ j * t) = 1 - 2 ^ j * t by omega]
      generalize (2 : Int) ^ j * t = y
      rw [Int.mul_sub, Int.mul_one, Int.add_mul, Int.one_mul]
      omega
    rw [this, Int.mul_neg, Int.mul_assoc, Int.mul_assoc, Int.mul_left_comm t]
  rw [e, Int.mul_emod_right]

end Go.Proofs.YtkbiiolkekpkiaaDoor

/-
  The contracts of the document's own rest, numerals and residues of layer 3, at the level of numbers. Conditions: as each theorem says.
-/
namespace Go.Proofs.YtkbiiolkekpkiaaDoor
open Go.RowKit
set_option linter.unusedVariables false

theorem bit_num (N : Nat) (va : Value) (i : Nat) (w : World) (ha : Num w va N) (m : Nat) (hN : N < 16777216 ^ m) (hm : m ≤ 10000) (hi : i ≤ 1000000) :
    Calls Tryd.prog 40 #[va, .int .i64 (i : Int)] w fun e w' => e = .returned (.int .i64 ((N / 2 ^ i % 2 : Nat) : Int)) ∧ Below w.heap.size w w' := by
  obtain ⟨l, h1, h2, h3, rfl⟩ := ha
  have hl := nz_len l m h2 h3 hN
  exact bitR_any l va i w h1 h2 (by omega) hi
theorem down_num (M : Nat) (va : Value) (n : Nat) (w : World) (ha : Num w va M) (m : Nat) (hM : M < 16777216 ^ m) (hm : m ≤ 10000) (hn : n ≤ 100000) :
    Calls Tryd.prog 83 #[va, .int .i64 (n : Int)] w fun e w' => ∃ v, e = .returned v ∧ Num w' v (M / 2 ^ n) ∧ Below w.heap.size w w' := by
  obtain ⟨l, h1, h2, h3, rfl⟩ := ha
  have hl := nz_len l m h2 h3 hM
  exact downR_any l va n w h1 h2 (by omega) hn
theorem bits_num (M : Nat) (va : Value) (w : World) (ha : Num w va M) (m : Nat) (hM : M < 16777216 ^ m) (hm : m ≤ 10000) :
    Calls Tryd.prog 82 #[va] w fun e w' => e = .returned (.int .i64 (nbits M : Int)) ∧ Below w.heap.size w w' := by
  obtain ⟨l, h1, h2, h3, rfl⟩ := ha
  have hl := nz_len l m h2 h3 hM
  exact bitsR_any l va w h1 h2 h3 (by omega)

theorem halved_val (m v h : Nat) (ho : m % 2 = 1) (hv : v < m) (hh : 2 * h = v ∨ 2 * h = v + m) : h = v * ((m + 1) / 2) % m := by
  have hlt : h < m := by omega
  have e1 : h * (m + 1) % m = h := by rw [Nat.mul_add, Nat.mul_one, Nat.mul_comm, Nat.mul_add_mod, Nat.mod_eq_of_lt hlt]
  have e2 : h * (m + 1) = (2 * h) * ((m + 1) / 2) := by
    rw [Nat.mul_comm 2 h, Nat.mul_assoc, show 2 * ((m + 1) / 2) = m + 1 by omega]
  rw [e2] at e1
  rcases hh with hh | hh
  · rw [hh] at e1; exact e1.symm
  · rw [hh, Nat.add_mul, Nat.add_mul_mod_self_left] at e1; exact e1.symm

end Go.Proofs.YtkbiiolkekpkiaaDoor

/-
  A slice in memory leads to one number. Conditions: as each theorem says.
-/
namespace Go.Proofs.YtkbiiolkekpkiaaDoor
open Go.RowKit
set_option linter.unusedVariables false

theorem sl_unique {w : World} {v : Value} {l l' : List Nat} (h : Sl w v l) (h' : Sl w v l') : l = l' := by
  obtain ⟨a, c, e, -, -, k⟩ := h
  obtain ⟨a', c', e', -, -, k'⟩ := h'
  rw [e] at e'
  simp only [Value.slice.injEq] at e'
  obtain ⟨rfl, hl, rfl⟩ := e'
  apply List.ext_getElem?
  intro j
  by_cases hj : j < l.length
  · obtain ⟨b, o, e1, -, e2⟩ := k j hj
    obtain ⟨b', o', e1', -, e2'⟩ := k' j (by omega)
    rw [e1] at e1'
    simp only [Option.some.injEq, Addr.mk.injEq, and_true] at e1'
    obtain ⟨rfl, rfl⟩ := e1'
    rw [e2] at e2'
    simp only [Option.some.injEq, Value.int.injEq, true_and] at e2'
    have hj' : j < l'.length := by omega
    simp only [List.getD_eq_getElem?_getD, List.getElem?_eq_getElem hj, List.getElem?_eq_getElem hj', Option.getD_some] at e2' ⊢
    congr 1
    omega
  · rw [List.getElem?_eq_none (by omega), List.getElem?_eq_none (by omega)]
theorem num_unique {w : World} {v : Value} {N N' : Nat} (h : Num w v N) (h' : Num w v N') : N = N' := by
  obtain ⟨l, h1, -, -, rfl⟩ := h
  obtain ⟨l', h1', -, -, rfl⟩ := h'
  rw [sl_unique h1 h1']
theorem num_eps {w : World} {v : Value} {N : Nat} (h : Num w v N) : Classical.epsilon (fun n => Num w v n) = N := num_unique (Classical.epsilon_spec ⟨N, h⟩) h

end Go.Proofs.YtkbiiolkekpkiaaDoor
