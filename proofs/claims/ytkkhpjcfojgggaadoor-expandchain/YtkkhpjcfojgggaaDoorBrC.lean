/-
  The contract of the broad's take: one block goes into the words. Conditions: as the theorem says.
-/
import Derived.Test.YtkkhpjcfojgggaaDoorBrB
import Derived.Laws.CopyOwn
namespace Go.Proofs.YtkkhpjcfojgggaaDoor.Br
open Go.RowKit
set_option linter.unusedVariables false
set_option linter.unusedSimpArgs false

theorem idx64 (cs : List Value) (hl : cs.length = 80) (t : Nat) (ht : t < 80) (x : Value) (hx : cs[t]? = some x) (w : World) : (Instr.index 70 (.agg cs.toArray) (.int .i64 (t : Int))).run Tryd.prog w = .ok x w := by
  simp [Instr.index, run_underlying Tryd.underlying70, asIntOf, go_sem, ht, hx]
/-- The package's two variables, in memory. -/
structure Gl6 (W : World) : Prop where
  lt : 1 < W.heap.size
  at0 : ∀ j, j < 8 → W.cell? ⟨0, j, none⟩ = some (.int .u64 (h0.list.getD j 0 : Int))
  at1 : ∀ j, j < 80 → W.cell? ⟨1, j, none⟩ = some (.int .u64 (kk.getD j 0 : Int))
theorem Gl6.below {W W' : World} (h : Gl6 W) {n : Nat} (hb : Below n W W') (hn : 1 < n) : Gl6 W' :=
  ⟨Nat.lt_of_lt_of_le h.lt hb.size, fun j hj => (hb.cell (p := ⟨0, j, none⟩) (show 0 < n by omega)).trans (h.at0 j hj), fun j hj => (hb.cell (p := ⟨1, j, none⟩) hn).trans (h.at1 j hj)⟩
theorem Gl6.grown {W W' : World} (h : Gl6 W) (hb : Below W.heap.size W W') : Gl6 W' := h.below hb h.lt

theorem not64 (a : Nat) (ha : a < 18446744073709551616) : bits .xor .u64 (if IntKind.u64.signed = true then -1 else IntKind.u64.max) (a : Int) = ((18446744073709551615 - a : Nat) : Int) := by
  have e : (if IntKind.u64.signed = true then -1 else IntKind.u64.max) = ((18446744073709551615 : Nat) : Int) := by decide
  rw [e, u64_xor_nat 18446744073709551615 a (by omega) ha]
  congr 1
  apply Nat.eq_of_testBit_eq
  intro i
  have h : (18446744073709551615 - a).testBit i = (decide (i < 64) && !a.testBit i) := by
    have := Nat.testBit_two_pow_sub_succ (x := a) (n := 64) ha i
    rwa [show 2 ^ 64 - (a + 1) = 18446744073709551615 - a by omega] at this
  have h2 : (18446744073709551615 : Nat).testBit i = decide (i < 64) := by
    have := Nat.testBit_two_pow_sub_one 64 i
    rwa [show 2 ^ 64 - 1 = 18446744073709551615 by decide] at this
  rw [h, Nat.testBit_xor, h2]
  by_cases hi : i < 64
  · simp [hi]
  · have : a.testBit i = false := Nat.testBit_lt_two_pow (Nat.lt_of_lt_of_le ha (by have := Nat.pow_le_pow_right (show 0 < 2 by omega) (show 64 ≤ i by omega); omega))
    simp [hi, this]

theorem _root_.Go.Proofs.YtkkhpjcfojgggaaDoor.Oth.gl6 {b : Nat} {w W : World} (h : Oth b w W) (hg : Gl6 w) (hb : 1 < b) : Gl6 W :=
  ⟨Nat.lt_of_lt_of_le hg.lt h.size, fun j hj => (h.cell ⟨0, j, none⟩ (show 0 < _ by have := hg.lt; omega) (show 0 ≠ b by omega)).trans (hg.at0 j hj), fun j hj => (h.cell ⟨1, j, none⟩ hg.lt (show 1 ≠ b by omega)).trans (hg.at1 j hj)⟩
theorem idx8 (cs : List Value) (hl : cs.length = 8) (t : Nat) (ht : t < 8) (x : Value) (hx : cs[t]? = some x) (w : World) : (Instr.index 46 (.agg cs.toArray) (.int .i64 (t : Int))).run Tryd.prog w = .ok x w := by
  simp [Instr.index, run_underlying Tryd.underlying46, asIntOf, go_sem, ht, hx]
theorem uv_set (l : List Nat) (i v : Nat) : (uv l).set i (.int .u64 (v : Int)) = uv (l.set i v) := by
  unfold uv; rw [List.map_set]
theorem S8.list_length (s : S8) : s.list.length = 8 := rfl
theorem S8.plus_get (s v : S8) (i : Nat) (hi : i < 8) : (s.plus v).list.getD i 0 = (s.list.getD i 0 + v.list.getD i 0) % 18446744073709551616 := by
  match i, hi with
  | 0, _ => rfl
  | 1, _ => rfl
  | 2, _ => rfl
  | 3, _ => rfl
  | 4, _ => rfl
  | 5, _ => rfl
  | 6, _ => rfl
  | 7, _ => rfl
theorem S8.ok_get {s : S8} (h : s.ok) (i : Nat) : s.list.getD i 0 < 18446744073709551616 := by
  obtain ⟨h1, h2, h3, h4, h5, h6, h7, h8⟩ := h
  match i with
  | 0 => exact h1
  | 1 => exact h2
  | 2 => exact h3
  | 3 => exact h4
  | 4 => exact h5
  | 5 => exact h6
  | 6 => exact h7
  | 7 => exact h8
  | n + 8 => exact (by decide : 0 < 18446744073709551616)

set_option maxRecDepth 100000 in
set_option maxHeartbeats 4000000 in
theorem take_any (s : S8) (hs : s.ok) (l : List Nat) (hl : l.length = 128) (hb : Bb l) (v : Value) (w : World) (hg : Gl6 w) (ha : SK .u8 w v l) (T : TypeId) (b : Nat) (R : List Value) (hA : At T w b (uv s.list ++ R)) :
    Calls Tryd.prog 33 #[.pointer (some ⟨b, 0, none⟩), v] w fun e w' => e = .returned (.tuple #[]) ∧ At T w' b (uv (tk s l).list ++ R) ∧ Oth b w w' := by
  have c0 : w.cell? ⟨b, 0, none⟩ = some (.int .u64 (s.a : Int)) := hA.cell 0
  have c1 : w.cell? ⟨b, 1, none⟩ = some (.int .u64 (s.b : Int)) := hA.cell 1
  have c2 : w.cell? ⟨b, 2, none⟩ = some (.int .u64 (s.c : Int)) := hA.cell 2
  have c3 : w.cell? ⟨b, 3, none⟩ = some (.int .u64 (s.d : Int)) := hA.cell 3
  have c4 : w.cell? ⟨b, 4, none⟩ = some (.int .u64 (s.e : Int)) := hA.cell 4
  have c5 : w.cell? ⟨b, 5, none⟩ = some (.int .u64 (s.f : Int)) := hA.cell 5
  have c6 : w.cell? ⟨b, 6, none⟩ = some (.int .u64 (s.g : Int)) := hA.cell 6
  have c7 : w.cell? ⟨b, 7, none⟩ = some (.int .u64 (s.h : Int)) := hA.cell 7
  have HAT : Hid (At T w b (uv s.list ++ R)) := hA
  clear hA
  have kS : Hid (∀ W, SK .u8 W v l → Calls Tryd.prog 41 #[v] W fun e w' => e = .returned (.agg (uv (ws l 80)).toArray) ∧ Below W.heap.size W w') := fun W h => spread_any l hl hb v W h
  obtain ⟨a, cap, e⟩ := ha.shape
  rw [hl] at e
  subst e
  have HA : Hid (SK .u8 w (.slice a 128 cap) l) := ha
  have HB : Hid (Bb l) := hb
  have HG : Hid (Gl6 w) := hg
  have HS : Hid s.ok := hs
  clear ha hb hg hs
  obtain ⟨cs, hcs⟩ : ∃ cs, Hid (uv (ws l 80) = cs) := ⟨_, rfl⟩
  rw [hcs.out] at kS
  go_enter Tryd.func33, Tryd.ntmps33
  go_wp2_with fail
  go_quiet (fail)
  go_wp2_with fail
  refine (kS.out _ (HA.out.below (below_drewN' _ _))).mono ?_
  rintro e w1 ⟨rfl, g1⟩
  have G1 : Hid (Below w.heap.size w w1) := (below_drewN' w _).trans g1
  clear g1 kS HA c0 c1 c2 c3 c4 c5 c6 c7
  go_wp2_with fail
  go_loopw [4, 5, 6, 7, 8, 9, 10, 11, 60] (fun y0 y1 y2 y3 y4 y5 y6 y7 y W => ∃ t : Nat, t ≤ 80 ∧ y = .int .i64 t ∧ Below w.heap.size w W ∧ ∃ r : S8, Hid (rnd l s t = r) ∧ y0 = .int .u64 (r.a : Int) ∧ y1 = .int .u64 (r.b : Int) ∧ y2 = .int .u64 (r.c : Int) ∧ y3 = .int .u64 (r.d : Int) ∧ y4 = .int .u64 (r.e : Int) ∧ y5 = .int .u64 (r.f : Int) ∧ y6 = .int .u64 (r.g : Int) ∧ y7 = .int .u64 (r.h : Int))
    (fun _ _ _ _ _ _ _ _ y _ => 80 - (intOf y).toNat)
  case atStart => exact ⟨0, by omega, rfl, G1.out, s, rfl, rfl, rfl, rfl, rfl, rfl, rfl, rfl, rfl⟩
  case round =>
    obtain ⟨t, ht, rfl, hB, r, hr, rfl, rfl, rfl, rfl, rfl, rfl, rfl, rfl⟩ := hrel
    have Hb : Hid (Below w.heap.size w wr) := hB
    by_cases hlt : t < 80
    · have hlt' : (t : Int) < 80 := by omega
      have hix := idx64 cs (by rw [← hcs.out, uv_length, ws_length]) t hlt (.int .u64 ((ws l 80).getD t 0 : Int)) (by rw [← hcs.out, uv_get _ _ (by rw [ws_length]; exact hlt)])
      obtain ⟨x, hx⟩ : ∃ x, Hid ((ws l 80).getD t 0 = x) := ⟨_, rfl⟩
      rw [hx.out] at hix
      have hx1 := ws_lt l HB.out 80 t
      rw [hx.out] at hx1
      have hk := (HG.out.below hB HG.out.lt).at1 t hlt
      obtain ⟨k, hkk⟩ : ∃ k, Hid (kk.getD t 0 = k) := ⟨_, rfl⟩
      rw [hkk.out] at hk
      have hk1 := kk_lt t
      rw [hkk.out] at hk1
      have R : Hid (rnd l s (t + 1) = r.step k x) := by unfold Hid; rw [rnd, hr.out, hkk.out, hx.out]
      have hok := rnd_ok l s HS.out t
      rw [hr.out] at hok
      obtain ⟨a0, a1, a2, a3, a4, a5, a6, a7⟩ := r
      obtain ⟨q0, q1, q2, q3, q4, q5, q6, q7⟩ := hok
      dsimp only at q0 q1 q2 q3 q4 q5 q6 q7 ⊢
      obtain ⟨r1, hr1⟩ : ∃ r, Hid (rotr a4 14 = r) := ⟨_, rfl⟩
      have T1 : Hid (∀ W, Calls Tryd.prog 42 #[.int .u64 (a4 : Int), .int .i64 14] W fun e w' => e = .returned (.int .u64 (r1 : Int)) ∧ w' = W) := by rw [← hr1.out]; exact turned_any a4 14 q4 (by omega) (by omega)
      obtain ⟨r2, hr2⟩ : ∃ r, Hid (rotr a4 18 = r) := ⟨_, rfl⟩
      have T2 : Hid (∀ W, Calls Tryd.prog 42 #[.int .u64 (a4 : Int), .int .i64 18] W fun e w' => e = .returned (.int .u64 (r2 : Int)) ∧ w' = W) := by rw [← hr2.out]; exact turned_any a4 18 q4 (by omega) (by omega)
      obtain ⟨r3, hr3⟩ : ∃ r, Hid (rotr a4 41 = r) := ⟨_, rfl⟩
      have T3 : Hid (∀ W, Calls Tryd.prog 42 #[.int .u64 (a4 : Int), .int .i64 41] W fun e w' => e = .returned (.int .u64 (r3 : Int)) ∧ w' = W) := by rw [← hr3.out]; exact turned_any a4 41 q4 (by omega) (by omega)
      obtain ⟨r4, hr4⟩ : ∃ r, Hid (rotr a0 28 = r) := ⟨_, rfl⟩
      have T4 : Hid (∀ W, Calls Tryd.prog 42 #[.int .u64 (a0 : Int), .int .i64 28] W fun e w' => e = .returned (.int .u64 (r4 : Int)) ∧ w' = W) := by rw [← hr4.out]; exact turned_any a0 28 q0 (by omega) (by omega)
      obtain ⟨r5, hr5⟩ : ∃ r, Hid (rotr a0 34 = r) := ⟨_, rfl⟩
      have T5 : Hid (∀ W, Calls Tryd.prog 42 #[.int .u64 (a0 : Int), .int .i64 34] W fun e w' => e = .returned (.int .u64 (r5 : Int)) ∧ w' = W) := by rw [← hr5.out]; exact turned_any a0 34 q0 (by omega) (by omega)
      obtain ⟨r6, hr6⟩ : ∃ r, Hid (rotr a0 39 = r) := ⟨_, rfl⟩
      have T6 : Hid (∀ W, Calls Tryd.prog 42 #[.int .u64 (a0 : Int), .int .i64 39] W fun e w' => e = .returned (.int .u64 (r6 : Int)) ∧ w' = W) := by rw [← hr6.out]; exact turned_any a0 39 q0 (by omega) (by omega)
      have lr1 : r1 < 18446744073709551616 := by rw [← hr1.out]; exact rotr_lt _ q4
      have lr2 : r2 < 18446744073709551616 := by rw [← hr2.out]; exact rotr_lt _ q4
      have lr3 : r3 < 18446744073709551616 := by rw [← hr3.out]; exact rotr_lt _ q4
      have lr4 : r4 < 18446744073709551616 := by rw [← hr4.out]; exact rotr_lt _ q0
      have lr5 : r5 < 18446744073709551616 := by rw [← hr5.out]; exact rotr_lt _ q0
      have lr6 : r6 < 18446744073709551616 := by rw [← hr6.out]; exact rotr_lt _ q0
      obtain ⟨y1, hy1⟩ : ∃ z, Hid (r1 ^^^ r2 = z) := ⟨_, rfl⟩
      have X1 : bits .xor .u64 (r1 : Int) (r2 : Int) = (y1 : Int) := by rw [← hy1.out]; exact u64_xor_nat r1 r2 lr1 lr2
      have ly1 : y1 < 18446744073709551616 := by rw [← hy1.out]; exact xor64 lr1 lr2
      obtain ⟨z1, hz1⟩ : ∃ z, Hid (y1 ^^^ r3 = z) := ⟨_, rfl⟩
      have X2 : bits .xor .u64 (y1 : Int) (r3 : Int) = (z1 : Int) := by rw [← hz1.out]; exact u64_xor_nat y1 r3 ly1 lr3
      have lz1 : z1 < 18446744073709551616 := by rw [← hz1.out]; exact xor64 ly1 lr3
      obtain ⟨p1, hp1⟩ : ∃ z, Hid (a4 &&& a5 = z) := ⟨_, rfl⟩
      have A1 : bits .and .u64 (a4 : Int) (a5 : Int) = (p1 : Int) := by rw [← hp1.out]; exact u64_and_nat a4 a5 q4 q5
      have lp1 : p1 < 18446744073709551616 := by rw [← hp1.out]; exact and64 q5
      obtain ⟨n4, hn4⟩ : ∃ z, Hid (18446744073709551615 - a4 = z) := ⟨_, rfl⟩
      have N1 : bits .xor .u64 (if IntKind.u64.signed = true then -1 else IntKind.u64.max) (a4 : Int) = (n4 : Int) := by rw [← hn4.out]; exact not64 a4 q4
      have ln4 : n4 < 18446744073709551616 := by have := hn4.out; omega
      obtain ⟨p2, hp2⟩ : ∃ z, Hid (n4 &&& a6 = z) := ⟨_, rfl⟩
      have A2 : bits .and .u64 (n4 : Int) (a6 : Int) = (p2 : Int) := by rw [← hp2.out]; exact u64_and_nat n4 a6 ln4 q6
      have lp2 : p2 < 18446744073709551616 := by rw [← hp2.out]; exact and64 q6
      obtain ⟨c1, hc1⟩ : ∃ z, Hid (p1 ||| p2 = z) := ⟨_, rfl⟩
      have O1 : bits .or .u64 (p1 : Int) (p2 : Int) = (c1 : Int) := by rw [← hc1.out]; exact u64_or_nat p1 p2 lp1 lp2
      have lc1 : c1 < 18446744073709551616 := by rw [← hc1.out]; exact or64 lp1 lp2
      obtain ⟨y2, hy2⟩ : ∃ z, Hid (r4 ^^^ r5 = z) := ⟨_, rfl⟩
      have X3 : bits .xor .u64 (r4 : Int) (r5 : Int) = (y2 : Int) := by rw [← hy2.out]; exact u64_xor_nat r4 r5 lr4 lr5
      have ly2 : y2 < 18446744073709551616 := by rw [← hy2.out]; exact xor64 lr4 lr5
      obtain ⟨z2, hz2⟩ : ∃ z, Hid (y2 ^^^ r6 = z) := ⟨_, rfl⟩
      have X4 : bits .xor .u64 (y2 : Int) (r6 : Int) = (z2 : Int) := by rw [← hz2.out]; exact u64_xor_nat y2 r6 ly2 lr6
      have lz2 : z2 < 18446744073709551616 := by rw [← hz2.out]; exact xor64 ly2 lr6
      obtain ⟨p3, hp3⟩ : ∃ z, Hid (a0 &&& a1 = z) := ⟨_, rfl⟩
      have A3 : bits .and .u64 (a0 : Int) (a1 : Int) = (p3 : Int) := by rw [← hp3.out]; exact u64_and_nat a0 a1 q0 q1
      have lp3 : p3 < 18446744073709551616 := by rw [← hp3.out]; exact and64 q1
      obtain ⟨p4, hp4⟩ : ∃ z, Hid (a0 &&& a2 = z) := ⟨_, rfl⟩
      have A4 : bits .and .u64 (a0 : Int) (a2 : Int) = (p4 : Int) := by rw [← hp4.out]; exact u64_and_nat a0 a2 q0 q2
      have lp4 : p4 < 18446744073709551616 := by rw [← hp4.out]; exact and64 q2
      obtain ⟨p5, hp5⟩ : ∃ z, Hid (a1 &&& a2 = z) := ⟨_, rfl⟩
      have A5 : bits .and .u64 (a1 : Int) (a2 : Int) = (p5 : Int) := by rw [← hp5.out]; exact u64_and_nat a1 a2 q1 q2
      have lp5 : p5 < 18446744073709551616 := by rw [← hp5.out]; exact and64 q2
      obtain ⟨p6, hp6⟩ : ∃ z, Hid (p3 ||| p4 = z) := ⟨_, rfl⟩
      have O2 : bits .or .u64 (p3 : Int) (p4 : Int) = (p6 : Int) := by rw [← hp6.out]; exact u64_or_nat p3 p4 lp3 lp4
      have lp6 : p6 < 18446744073709551616 := by rw [← hp6.out]; exact or64 lp3 lp4
      obtain ⟨m1, hm1⟩ : ∃ z, Hid (p6 ||| p5 = z) := ⟨_, rfl⟩
      have O3 : bits .or .u64 (p6 : Int) (p5 : Int) = (m1 : Int) := by rw [← hm1.out]; exact u64_or_nat p6 p5 lp6 lp5
      have lm1 : m1 < 18446744073709551616 := by rw [← hm1.out]; exact or64 lp6 lp5
      have E1 : Hid (bs1 a4 = z1) := by unfold Hid bs1; rw [hr1.out, hr2.out, hr3.out, hy1.out, hz1.out]
      have E2 : Hid (bs0 a0 = z2) := by unfold Hid bs0; rw [hr4.out, hr5.out, hr6.out, hy2.out, hz2.out]
      have E3 : Hid (cho a4 a5 a6 = c1) := by unfold Hid cho; rw [hp1.out, hn4.out, hp2.out, hc1.out]
      have E4 : Hid (maj a0 a1 a2 = m1) := by unfold Hid maj; rw [hp3.out, hp4.out, hp5.out, hp6.out, hm1.out]
      clear hr1 hr2 hr3 hr4 hr5 hr6 hy1 hz1 hy2 hz2 hp1 hn4 hp2 hc1 hp3 hp4 hp5 hp6 hm1 lr1 lr2 lr3 lr4 lr5 lr6 ly1 lz1 ly2 lz2 lp1 ln4 lp2 lc1 lp3 lp4 lp5 lp6 lm1
      obtain ⟨o1, ho1⟩ : ∃ y, Hid ((a7 + z1) % 18446744073709551616 = y) := ⟨_, rfl⟩
      have Wo1 : IntKind.u64.wrap ((a7 : Int) + (z1 : Int)) = (o1 : Int) := by rw [wrap64_nat, ho1.out]
      obtain ⟨o2, ho2⟩ : ∃ y, Hid ((o1 + c1) % 18446744073709551616 = y) := ⟨_, rfl⟩
      have Wo2 : IntKind.u64.wrap ((o1 : Int) + (c1 : Int)) = (o2 : Int) := by rw [wrap64_nat, ho2.out]
      obtain ⟨o3, ho3⟩ : ∃ y, Hid ((o2 + k) % 18446744073709551616 = y) := ⟨_, rfl⟩
      have Wo3 : IntKind.u64.wrap ((o2 : Int) + (k : Int)) = (o3 : Int) := by rw [wrap64_nat, ho3.out]
      obtain ⟨o4, ho4⟩ : ∃ y, Hid ((o3 + x) % 18446744073709551616 = y) := ⟨_, rfl⟩
      have Wo4 : IntKind.u64.wrap ((o3 : Int) + (x : Int)) = (o4 : Int) := by rw [wrap64_nat, ho4.out]
      obtain ⟨t1, ht1⟩ : ∃ y, Hid ((z2 + m1) % 18446744073709551616 = y) := ⟨_, rfl⟩
      have Wt1 : IntKind.u64.wrap ((z2 : Int) + (m1 : Int)) = (t1 : Int) := by rw [wrap64_nat, ht1.out]
      obtain ⟨u1, hu1⟩ : ∃ y, Hid ((o4 + t1) % 18446744073709551616 = y) := ⟨_, rfl⟩
      have Wu1 : IntKind.u64.wrap ((o4 : Int) + (t1 : Int)) = (u1 : Int) := by rw [wrap64_nat, hu1.out]
      obtain ⟨v1, hv1⟩ : ∃ y, Hid ((a3 + o4) % 18446744073709551616 = y) := ⟨_, rfl⟩
      have Wv1 : IntKind.u64.wrap ((a3 : Int) + (o4 : Int)) = (v1 : Int) := by rw [wrap64_nat, hv1.out]
      have hone : Hid ((a7 + z1 + c1 + k + x) % 18446744073709551616 = o4) := by unfold Hid; have := ho1.out; have := ho2.out; have := ho3.out; have := ho4.out; omega
      clear hB
      go_wp2_with fail
      go_quiet ((first
        | (go_at_call 42; with_reducible exact Calls.quiet_of_same (T1.out _))
        | (go_at_call 42; with_reducible exact Calls.quiet_of_same (T2.out _))
        | (go_at_call 42; with_reducible exact Calls.quiet_of_same (T3.out _))))
      go_wp2_with fail
      refine (T4.out _).mono ?_
      rintro e w1 ⟨rfl, hw1⟩
      rw [hw1]
      clear hw1 w1
      go_wp2_with fail
      refine (T5.out _).mono ?_
      rintro e w1 ⟨rfl, hw1⟩
      rw [hw1]
      clear hw1 w1
      go_wp2_with fail
      refine (T6.out _).mono ?_
      rintro e w1 ⟨rfl, hw1⟩
      rw [hw1]
      clear hw1 w1
      go_wp2_with fail
      go_roundw
      case rel =>
        refine ⟨t + 1, by omega, by go_num, Hb.out.trans ((below_drewN' _ _).mono Hb.out.size), _, R.out, ?_, rfl, rfl, rfl, ?_, rfl, rfl, rfl⟩
        · unfold S8.step S8.one S8.two
          dsimp only
          rw [E1.out, E2.out, E3.out, E4.out, hone.out, ht1.out, hu1.out]
        · unfold S8.step S8.one
          dsimp only
          rw [E1.out, E3.out, hone.out, hv1.out]
      case measure => simp [intOf] <;> omega
    · obtain rfl : t = 80 := by omega
      have hE : Hid (tk s l = s.plus r) := by unfold Hid tk; rw [hr.out]
      have hok : Hid r.ok := by have := rnd_ok l s HS.out 80; rw [hr.out] at this; exact this
      rw [show ((80 : Nat) : Int) = 80 from rfl]
      have HAr : Hid (At T wr b (uv s.list ++ R)) := HAT.out.below hB
      have HO : Hid (Oth b w wr) := oth_of hB b
      clear hB Hb HAT G1 HG HB hcs
      go_wp2_with fail
      go_loopw [131] (fun y W => ∃ i : Nat, i ≤ 8 ∧ y = .int .i64 i ∧ At T W b (uv (mixL (s.plus r).list s.list i) ++ R) ∧ Oth b w W) (fun y _ => 8 - (intOf y).toNat)
      case atStart => exact ⟨0, by omega, rfl, HAr.out, HO.out⟩
      case round =>
        rename World => wr2
        obtain ⟨i, hi, rfl, hA2, hO2⟩ := hrel
        have HA2 : Hid (At T wr2 b (uv (mixL (s.plus r).list s.list i) ++ R)) := hA2
        have HO2 : Hid (Oth b w wr2) := hO2
        by_cases hlt : i < 8
        · have hlt' : (i : Int) < 8 := by omega
          have hml : (mixL (s.plus r).list s.list i).length = 8 := mixL_length _ _ i (by rw [S8.list_length]; omega) (by rw [S8.list_length, S8.list_length])
          have hix := idx8 (uv r.list) (by rw [uv_length]; rfl) i hlt (.int .u64 (r.list.getD i 0 : Int)) (uv_get _ _ (by rw [S8.list_length]; exact hlt))
          rw [show uv r.list = [.int .u64 (r.a : Int), .int .u64 (r.b : Int), .int .u64 (r.c : Int), .int .u64 (r.d : Int), .int .u64 (r.e : Int), .int .u64 (r.f : Int), .int .u64 (r.g : Int), .int .u64 (r.h : Int)] from rfl] at hix
          have hc := hA2.cell i
          rw [List.getElem?_append_left (by rw [uv_length, hml]; exact hlt), uv_get _ _ (by rw [hml]; exact hlt), mixL_get _ _ i (by rw [S8.list_length]; exact hlt) (by rw [S8.list_length, S8.list_length])] at hc
          have hf := hA2.free i
          have hp := S8.plus_get s r i hlt
          obtain ⟨x, hx⟩ : ∃ x, s.list.getD i 0 = x := ⟨_, rfl⟩
          obtain ⟨y, hy⟩ : ∃ y, r.list.getD i 0 = y := ⟨_, rfl⟩
          rw [hx] at hc hp
          rw [hy] at hix hp
          have hx1 : x < 18446744073709551616 := by rw [← hx]; exact S8.ok_get HS.out i
          have hy1 : y < 18446744073709551616 := by rw [← hy]; exact S8.ok_get hok.out i
          have St : Hid ((uv (mixL (s.plus r).list s.list i) ++ R).set i (.int .u64 (((x + y) % 18446744073709551616 : Nat) : Int)) = uv (mixL (s.plus r).list s.list (i + 1)) ++ R) := by
            unfold Hid
            rw [List.set_append_left _ _ (by rw [uv_length, hml]; exact hlt), uv_set, ← hp, mixL_set _ _ i (by rw [S8.list_length]; exact hlt) (by rw [S8.list_length, S8.list_length])]
          have Wxy : IntKind.u64.wrap ((x : Int) + (y : Int)) = (((x + y) % 18446744073709551616 : Nat) : Int) := wrap64_nat x y
          obtain ⟨v, hv⟩ : ∃ v, (x + y) % 18446744073709551616 = v := ⟨_, rfl⟩
          rw [hv] at St Wxy
          clear hA2 hO2 hml hp hx hy hr hv
          go_wp2_with fail
          go_region
          go_wp2_with fail
          go_roundw
          case rel =>
            refine ⟨i + 1, by omega, by go_num, ?_, ?_⟩
            · rw [← St.out]; exact HA2.out.set i _
            · exact (HO2.out.set i _).drew
          case measure => simp [intOf] <;> omega
        · obtain rfl : i = 8 := by omega
          have HF : Hid (At T wr2 b (uv (tk s l).list ++ R)) := by rw [hE.out]; exact hA2
          clear hA2 hO2
          go_wp2_with fail
          go_end0
          exact ⟨rfl, HF.out, HO2.out⟩
end Go.Proofs.YtkkhpjcfojgggaaDoor.Br

/-
  What the broad has gone through so far, in memory; a slice cut, and bytes copied into a part of a block, as laws of the walk. Conditions: as each theorem says.
-/
namespace Go.Proofs.YtkkhpjcfojgggaaDoor.Br
open Go.RowKit
set_option linter.unusedVariables false
set_option linter.unusedSimpArgs false

/-- The words behind k blocks of m. -/
def bl (m : List Nat) : Nat → S8
  | 0 => h0
  | k + 1 => tk (bl m k) ((m.drop (128 * k)).take 128)
theorem bl_ok (m : List Nat) : ∀ k, (bl m k).ok
  | 0 => h0_ok
  | k + 1 => tk_ok _ _
theorem bl_app (m p : List Nat) : ∀ k, 128 * k ≤ m.length → bl (m ++ p) k = bl m k
  | 0, _ => rfl
  | k + 1, h => by
    simp only [bl]
    rw [bl_app m p k (by omega), List.drop_append_of_le_length (by omega), List.take_append_of_le_length (by simp; omega)]
/-- A hash's cells: words, bytes that wait, how many came, and that it was made. -/
def hc (s : S8) (r : List Nat) (n : Nat) : List Value := uv s.list ++ (bv8 r ++ [.int .i64 (n : Int), .bool true])
theorem hc_length (s : S8) (r : List Nat) (n : Nat) (hr : r.length = 128) : (hc s r n).length = 138 := by simp [hc, uv_length, bv8_length, S8.list_length, hr]
theorem hc_rest (s : S8) (r : List Nat) (n : Nat) (hr : r.length = 128) (j : Nat) (hj : j < 128) : (hc s r n)[8 + j]? = some (.int .u8 (r.getD j 0 : Int)) := by
  unfold hc
  rw [List.getElem?_append_right (by rw [uv_length, S8.list_length]; omega), uv_length, S8.list_length, show 8 + j - 8 = j by omega, List.getElem?_append_left (by rw [bv8_length]; omega), bv8_get r j (by omega)]
theorem hc_len (s : S8) (r : List Nat) (n : Nat) (hr : r.length = 128) : (hc s r n)[136]? = some (.int .i64 (n : Int)) := by
  unfold hc
  rw [List.getElem?_append_right (by rw [uv_length, S8.list_length]; omega), uv_length, S8.list_length, List.getElem?_append_right (by rw [bv8_length]; omega), bv8_length, hr]
  rfl
theorem hc_made (s : S8) (r : List Nat) (n : Nat) (hr : r.length = 128) : (hc s r n)[137]? = some (.bool true) := by
  unfold hc
  rw [List.getElem?_append_right (by rw [uv_length, S8.list_length]; omega), uv_length, S8.list_length, List.getElem?_append_right (by rw [bv8_length]; omega), bv8_length, hr]
  rfl
theorem hc_set_len (s : S8) (r : List Nat) (n n' : Nat) (hr : r.length = 128) : (hc s r n).set 136 (.int .i64 (n' : Int)) = hc s r n' := by
  unfold hc
  rw [List.set_append_right _ _ (by rw [uv_length, S8.list_length]; omega), uv_length, S8.list_length, List.set_append_right _ _ (by rw [bv8_length]; omega), bv8_length, hr]
  rfl
theorem hc_splice (s : S8) (r : List Nat) (n q : Nat) (x : List Nat) (hr : r.length = 128) (h : q + x.length ≤ 128) : splice (hc s r n) (8 + q) (bv8 x) = hc s (splice r q x) n := by
  have e1 : (uv s.list).length = 8 := by rw [uv_length, S8.list_length]
  have e2 : (bv8 r).length = 128 := by rw [bv8_length, hr]
  have e3 : bv8 (splice r q x) = splice (bv8 r) q (bv8 x) := by simp [bv8, splice]
  unfold hc
  rw [e3]
  unfold splice
  rw [bv8_length, List.take_append, List.drop_append, e1, show 8 + q - 8 = q by omega, show 8 + q + x.length - 8 = q + x.length by omega]
  rw [List.take_of_length_le (by omega), List.drop_eq_nil_of_le (by omega), List.nil_append, List.take_append_of_le_length (by omega), List.drop_append_of_le_length (by omega)]
  simp only [List.append_assoc]

/-- The hash in block b has gone through the bytes m. -/
def HH (W : World) (b : Nat) (m : List Nat) : Prop := ∃ r : List Nat, r.length = 128 ∧ (∀ j, j < m.length % 128 → r.getD j 0 = m.getD (128 * (m.length / 128) + j) 0) ∧ At 51 W b (hc (bl m (m.length / 128)) r m.length)
theorem HH.lt {W : World} {b : Nat} {m : List Nat} (h : HH W b m) : b < W.heap.size := by obtain ⟨r, _, _, h⟩ := h; exact h.lt
theorem HH.below {W W' : World} {b : Nat} {m : List Nat} (h : HH W b m) (hb : Below W.heap.size W W') : HH W' b m := by
  obtain ⟨r, h1, h2, h3⟩ := h; exact ⟨r, h1, h2, h3.below hb⟩
theorem HH.oth {W W' : World} {b c : Nat} {m : List Nat} (h : HH W c m) (hb : Oth b W W') (hc : c ≠ b) : HH W' c m := by
  obtain ⟨r, h1, h2, h3⟩ := h; exact ⟨r, h1, h2, hb.at h3 hc⟩

end Go.Proofs.YtkkhpjcfojgggaaDoor.Br

/-
  The contract of the broad's bytes: the words as bytes, the highest first. Conditions: as the theorem says.
-/
namespace Go.Proofs.YtkkhpjcfojgggaaDoor.Br
open Go.RowKit
set_option linter.unusedVariables false
set_option linter.unusedSimpArgs false

/-- The eight bytes of each word, the highest first. -/
def by8 (x : Nat) : List Nat := beB x 8
theorem by8_length (x : Nat) : (by8 x).length = 8 := beB_length _ _
def byL (l : List Nat) : Nat → List Nat
  | 0 => []
  | t + 1 => byL l t ++ by8 (l.getD t 0)
theorem byL_length (l : List Nat) : ∀ t, (byL l t).length = 8 * t
  | 0 => rfl
  | t + 1 => by simp [byL, byL_length l t, by8_length]; omega
def outB (s : S8) : List Nat := byL s.list 8
theorem outB_length (s : S8) : (outB s).length = 64 := byL_length _ 8

theorem splice_step (L : List Value) (l : List Nat) (n i : Nat) (hi : i < l.length) (hL : n + l.length ≤ L.length) :
    (splice L n (bv8 (l.take i))).set (n + i) (.int .u8 (l.getD i 0 : Int)) = splice L n (bv8 (l.take (i + 1))) := by
  have e1 : bv8 (l.take (i + 1)) = bv8 (l.take i) ++ [.int .u8 (l.getD i 0 : Int)] := by rw [take_more l i hi]; simp [bv8]
  have e2 : (bv8 (l.take i)).length = i := by rw [bv8_length, List.length_take]; omega
  have e3 : (bv8 (l.take (i + 1))).length = i + 1 := by rw [bv8_length, List.length_take]; omega
  have e4 : (L.take n).length = n := by simp; omega
  unfold splice
  rw [e2, e3, e1]
  rw [List.set_append_right _ _ (by omega), e4, List.set_append_right _ _ (by omega), e2, show n + i - n - i = 0 by omega]
  rw [List.drop_eq_getElem_cons (show n + i < L.length by omega), List.set_cons_zero]
  simp [Nat.add_assoc]
theorem splice_none (L : List Value) (n : Nat) (hL : n ≤ L.length) : splice L n (bv8 []) = L := by
  unfold splice
  simp [bv8]
/-- Bytes laid over the noughts behind others. -/
theorem splice_mid (p q : List Nat) (m : Nat) : splice (bv8 (p ++ List.replicate (q.length + m) 0)) p.length (bv8 q) = bv8 (p ++ q ++ List.replicate m 0) := by
  unfold splice
  rw [bv8_length]
  simp only [bv8, List.map_append, List.append_assoc]
  rw [List.take_append_of_le_length (by simp), List.take_of_length_le (by simp), List.drop_append, List.drop_eq_nil_of_le (by simp), List.length_map, show p.length + q.length - p.length = q.length by omega]
  simp
theorem at_bytes {T : TypeId} {W : World} {g : Nat} {m : List Nat} (h : At T W g (bv8 m)) (n cap : Nat) (hn : n ≤ m.length) (hc : n ≤ cap) : SK .u8 W (.slice (some ⟨g, 0, none⟩) n cap) (m.take n) := by
  have hl : (m.take n).length = n := by rw [List.length_take]; omega
  refine ⟨some ⟨g, 0, none⟩, cap, by rw [hl], by omega, fun e => by simp at e, fun j hj => ⟨g, 0, rfl, h.lt, ?_⟩⟩
  rw [hl] at hj
  rw [Nat.zero_add, h.cell j, bv8_get m j (by omega)]
  simp [List.getD_eq_getElem?_getD, List.getElem?_take, hj]
/-- A block whose cells are 64 bytes, from the call's beginning on, is the call's own slice. -/
theorem own8_at {base g : Nat} {W : World} {m : List Nat} (h : At 5 W g (bv8 (m ++ List.replicate (64 - 8 * 8) 0))) (hm : m.length = 64) (hb : base ≤ g := by exact Nat.le_refl _) : Own8 base W (.slice (some ⟨g, 0, none⟩) 64 64) m := by
  refine ⟨by rw [bv8_length, hm], Or.inr ⟨g, 64, (bv8 m).toArray, by rw [hm], hb, ?_, by omega, by unfold maxLen; omega, by simp [bv8_length, hm], ?_⟩⟩
  · have := h
    unfold At at this
    rwa [show m ++ List.replicate (64 - 8 * 8) 0 = m by simp] at this
  · simp only [hm]
    rw [List.take_of_length_le (by simp [bv8_length, hm])]
set_option maxHeartbeats 1000000 in
theorem appended_any (x : Nat) (hx : x < 18446744073709551616) (T : TypeId) (b n cap : Nat) (L : List Value) (w : World) (hA : At T w b L) (hcap : n + 8 ≤ cap) (hL : n + 8 ≤ L.length) (hn : n ≤ 1000000) :
    Calls Tryd.prog 35 #[.slice (some ⟨b, 0, none⟩) n cap, .int .u64 (x : Int)] w fun e w' => e = .returned (.slice (some ⟨b, 0, none⟩) (n + 8) cap) ∧ At T w' b (splice L n (bv8 (by8 x))) ∧ Oth b w w' := by
  have HA : Hid (At T w b L) := hA
  have hx' : (x : Int) < 18446744073709551616 := by omega
  have hLe : Hid (splice L n (bv8 ((by8 x).take 0)) = L) := splice_none L n (by omega)
  have hst : Hid (∀ i, i < 8 → (splice L n (bv8 ((by8 x).take i))).set (n + i) (.int .u8 ((x / 2 ^ (56 - 8 * i) % 256 : Nat) : Int)) = splice L n (bv8 ((by8 x).take (i + 1)))) := by
    intro i hi
    have := splice_step L (by8 x) n i (by rw [by8_length]; exact hi) (by rw [by8_length]; exact hL)
    rw [show (by8 x).getD i 0 = x / 2 ^ (56 - 8 * i) % 256 by rw [by8, beB_get _ _ _ hi, show 8 * (8 - 1 - i) = 56 - 8 * i by omega]] at this
    exact this
  have hlen : Hid (∀ i, i ≤ 8 → (splice L n (bv8 ((by8 x).take i))).length = L.length) := by
    intro i hi
    exact length_splice _ _ _ (by rw [bv8_length, List.length_take]; omega)
  have hall : Hid ((by8 x).take 8 = by8 x) := List.take_of_length_le (by rw [by8_length]; omega)
  clear hA
  go_enter Tryd.func35, Tryd.ntmps35
  go_wp2_with fail
  go_loopw [0, 6] (fun v y W => ∃ i : Nat, i ≤ 8 ∧ v = .slice (some ⟨b, 0, none⟩) (n + i) cap ∧ y = .int .i64 i ∧ At T W b (splice L n (bv8 ((by8 x).take i))) ∧ Oth b w W) (fun _ y _ => 8 - (intOf y).toNat)
  case atStart => exact ⟨0, by omega, rfl, rfl, by rw [hLe.out]; exact HA.out, Oth.refl _ _⟩
  case round =>
    obtain ⟨i, hi, rfl, rfl, hA, hO⟩ := hrel
    by_cases hlt : i < 8
    · have hlt' : (i : Int) < 8 := by omega
      have hl2 := hlen.out i hi
      have hs2 : Hid ((splice L n (bv8 ((by8 x).take i))).set (n + i) (.int .u8 ((x / 2 ^ (56 - 8 * i) % 256 : Nat) : Int)) = splice L n (bv8 ((by8 x).take (i + 1)))) := hst.out i hlt
      obtain ⟨S, hS⟩ : ∃ S, splice L n (bv8 ((by8 x).take i)) = S := ⟨_, rfl⟩
      rw [hS] at hA hl2 hs2
      have HS : Hid (At T wr b S) := hA
      have HO : Hid (Oth b w wr) := hO
      clear hA hO hS
      have hfit : Hid (n + i < S.length) := by unfold Hid; omega
      have hfit2 : Hid (n + i + 1 ≤ cap) := by unfold Hid; omega
      have ev : Hid (∀ z : Int, z = (x : Int) / 2 ^ (56 - 8 * i) % 256 → z = ((x / 2 ^ (56 - 8 * i) % 256 : Nat) : Int)) := by
        intro z hz; rw [hz]; simp
      go_wp2_with (at_builtin; refine wpList_app8room rfl _ _ rfl T b (n + i) cap S (x / 2 ^ (56 - 8 * i) % 256) _ (ev.out _ rfl) rfl HS.out rfl hfit2.out hfit.out ?_; intro w1 hA1 hO1)
      go_roundw
      case rel => exact ⟨i + 1, by omega, rfl, by go_num, by rw [← hs2.out]; exact hA1, HO.out.trans hO1⟩
      case measure => simp [intOf] <;> omega
    · obtain rfl : i = 8 := by omega
      rw [hall.out] at hA
      have HS : Hid (At T wr b (splice L n (bv8 (by8 x)))) := hA
      have HO : Hid (Oth b w wr) := hO
      clear hA hO
      go_wp2_with fail
      go_ret
      exact ⟨rfl, HS.out, HO.out⟩
set_option maxRecDepth 100000 in
set_option maxHeartbeats 1000000 in
theorem bytes_own (s : S8) (hs : s.ok) (w : World) (T : TypeId) (b : Nat) (R : List Value) (hA : At T w b (uv s.list ++ R)) :
    Calls Tryd.prog 23 #[.pointer (some ⟨b, 0, none⟩)] w fun e w' => ∃ v, e = .returned v ∧ Own8 w.heap.size w' v (outB s) ∧ Below w.heap.size w w' := by
  have hlt := hA.lt
  have HA : Hid (At T w b (uv s.list ++ R)) := hA
  have hmk : ∀ w : World, (Instr.makeSlice 22 (.int .i64 0) (.int .i64 64)).run Tryd.prog w = .ok (.slice (some ⟨w.heap.size, 0, none⟩) 0 64) (w.alloc (.cells (Array.replicate 64 (.int .u8 0)) 5)) := by
    intro w; kernel_rfl
  have hrg : ∀ o, Hid ((w.alloc o).rangeAt b 0 (uv s.list)) := by
    intro o j v hj
    have hj' : j < 8 := by have := (List.getElem?_eq_some_iff.1 hj).1; rwa [uv_length, S8.list_length] at this
    rw [Nat.zero_add, (hA.below ((Below.refl _ _).alloc (Nat.le_refl _) o)).cell j, List.getElem?_append_left (by rw [uv_length, S8.list_length]; exact hj')]
    exact hj
  have hi : Hid ((Tryd.prog.info? 46).map (·.size) = some (uv s.list).length) := by unfold Hid; rw [uv_length, S8.list_length]; kernel_rfl
  have HS : Hid s.ok := hs
  clear hA hs
  go_enter Tryd.func23, Tryd.ntmps23
  go_wp2_with (refine wpList_load_mid rfl 46 _ rfl b 0 rfl (uv s.list) _ (hrg _).out Tryd.underlying46 rfl hi.out ?_)
  go_loopw [3, 11] (fun v y W => ∃ t : Nat, t ≤ 8 ∧ y = .int .i64 t ∧ v = .slice (some ⟨w.heap.size, 0, none⟩) (8 * t) 64 ∧ At 5 W w.heap.size (bv8 (byL s.list t ++ List.replicate (64 - 8 * t) 0)) ∧ Below w.heap.size w W) (fun _ y _ => 8 - (intOf y).toNat)
  case atStart =>
    refine ⟨0, by omega, rfl, rfl, ?_, (Below.refl _ _).alloc (Nat.le_refl _) _⟩
    exact at_new 5 w (bv8 (List.replicate 64 0))
  case round =>
    obtain ⟨t, ht, rfl, rfl, hown, hbel⟩ := hrel
    have Hb : Hid (Below w.heap.size w wr) := hbel
    by_cases hlt' : t < 8
    · have hlt2 : (t : Int) < 8 := by omega
      have hix := idx8 (uv s.list) (by rw [uv_length]; rfl) t hlt' (.int .u64 (s.list.getD t 0 : Int)) (uv_get _ _ (by rw [S8.list_length]; exact hlt'))
      have hx1 := S8.ok_get HS.out t
      have hst : Hid (splice (bv8 (byL s.list t ++ List.replicate (64 - 8 * t) 0)) (8 * t) (bv8 (by8 (s.list.getD t 0))) = bv8 (byL s.list (t + 1) ++ List.replicate (64 - 8 * (t + 1)) 0)) := by
        have := splice_mid (byL s.list t) (by8 (s.list.getD t 0)) (64 - 8 * (t + 1))
        rw [by8_length, byL_length, show 8 + (64 - 8 * (t + 1)) = 64 - 8 * t by omega] at this
        exact this
      obtain ⟨x, hx⟩ : ∃ x, s.list.getD t 0 = x := ⟨_, rfl⟩
      rw [hx] at hix hx1 hst
      have kA : Hid (Calls Tryd.prog 35 #[.slice (some ⟨w.heap.size, 0, none⟩) (8 * t) 64, .int .u64 (x : Int)] wr fun e w' => e = .returned (.slice (some ⟨w.heap.size, 0, none⟩) (8 * t + 8) 64) ∧ At 5 w' w.heap.size (splice (bv8 (byL s.list t ++ List.replicate (64 - 8 * t) 0)) (8 * t) (bv8 (by8 x))) ∧ Oth w.heap.size wr w') :=
        appended_any x hx1 5 w.heap.size (8 * t) 64 _ wr hown (by omega) (by rw [bv8_length, List.length_append, byL_length, List.length_replicate]; omega) (by omega)
      rw [hst.out] at kA
      clear hown hbel hx hst
      go_wp2_with fail
      refine kA.out.mono ?_
      rintro e w1 ⟨rfl, hA1, hO1⟩
      have HA1 : Hid (At 5 w1 w.heap.size (bv8 (byL s.list (t + 1) ++ List.replicate (64 - 8 * (t + 1)) 0))) := hA1
      have HB1 : Hid (Below w.heap.size w w1) := Oth.bel Hb.out hO1 (Nat.le_refl _)
      clear hA1 hO1 kA
      go_wp2_with fail
      go_roundw
      case rel => exact ⟨t + 1, by omega, by go_num, rfl, HA1.out, HB1.out⟩
      case measure => simp [intOf] <;> omega
    · obtain rfl : t = 8 := by omega
      have R : Hid (Own8 w.heap.size wr (.slice (some ⟨w.heap.size, 0, none⟩) 64 64) (byL s.list 8)) := own8_at hown (byL_length _ 8)
      clear hown hbel
      go_wp2_with fail
      go_ret
      exact ⟨_, rfl, R.out, Hb.out⟩
theorem bytes_any (s : S8) (hs : s.ok) (w : World) (T : TypeId) (b : Nat) (R : List Value) (hA : At T w b (uv s.list ++ R)) :
    Calls Tryd.prog 23 #[.pointer (some ⟨b, 0, none⟩)] w fun e w' => ∃ v, e = .returned v ∧ SK .u8 w' v (outB s) ∧ Below w.heap.size w w' :=
  (bytes_own s hs w T b R hA).mono fun e w' ⟨v, h1, h2, h3⟩ => ⟨v, h1, h2.sk, h3⟩
end Go.Proofs.YtkkhpjcfojgggaaDoor.Br
