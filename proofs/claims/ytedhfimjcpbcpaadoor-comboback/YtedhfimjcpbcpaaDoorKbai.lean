/-
  What combo's Mul and Both need beside their walks: the sums step by step as points, words in memory, what abides. Conditions: as each theorem says.
-/
import Derived.Test.YtedhfimjcpbcpaaDoorKbaf
import Derived.Test.YtedhfimjcpbcpaaDoorKbah
import Derived.Test.YtedhfimjcpbcpaaDoorKbab
import Derived.Test.YtedhfimjcpbcpaaDoorKbac
import Derived.Test.YtedhfimjcpbcpaaDoorKbae
import Derived.Test.YtedhfimjcpbcpaaDoorKbaa
import Derived.Deep.DeepCutAuto
namespace Go.Proofs.YtedhfimjcpbcpaaDoor.Ed
open Go.RowKit
set_option linter.unusedVariables false
set_option linter.unusedSimpArgs false

theorem mul_more16 (v d : Nat) (P : Pt) : (Pt.mul 16 (Pt.mul v P)).add (Pt.mul d P) = Pt.mul (16 * v + d) P := by rw [Pt.mul_sum, Pt.mul_mul]
theorem both_more (v u d e : Nat) (P Q : Pt) : ((Pt.mul 16 ((Pt.mul v P).add (Pt.mul u Q))).add (Pt.mul d P)).add (Pt.mul e Q) = (Pt.mul (16 * v + d) P).add (Pt.mul (16 * u + e) Q) := by
  rw [Pt.mul_pts, ← mul_more16, ← mul_more16]
  generalize Pt.mul 16 (Pt.mul v P) = A
  generalize Pt.mul 16 (Pt.mul u Q) = B
  generalize Pt.mul d P = C
  generalize Pt.mul e Q = D
  rw [Pt.add_assoc A B C, Pt.add_comm B C, ← Pt.add_assoc A C B, Pt.add_assoc (A.add C) B D]
/-- The sums of Mul, digit by digit: of digits turned round. -/
theorem sums_r (P : Pt) (f : Nat → P4) (hf : ∀ j, (f j).Is (Pt.mul j P)) : ∃ F G : List (Nat × Nat) → P4, (∀ ys, (F ys).Is (Pt.mul (va ys.reverse) P)) ∧
    (∀ w : World, Calls Tryd.prog 33 #[] w fun e w' => e = .returned (.agg (F []).l.toArray) ∧ Below w.heap.size w w') ∧
    (∀ ys (w : World), Gf w → Calls Tryd.prog 53 #[.agg (F ys).l.toArray] w fun e w' => e = .returned (.agg (G ys).l.toArray) ∧ Below w.heap.size w w') ∧
    (∀ ys (d : Nat × Nat) (w : World), GtwiceD w → Gf w → Calls Tryd.prog 28 #[.agg (G ys).l.toArray, .agg (f d.1).l.toArray] w fun e w' => e = .returned (.agg (F (d :: ys)).l.toArray) ∧ Below w.heap.size w w') := by
  obtain ⟨c0, h0, q0⟩ := zero_p
  have st : ∀ (v : Nat) (c : P4), c.Is (Pt.mul v P) → ∃ g : P4, ∀ d : Nat, ∃ n : P4, n.Is (Pt.mul (16 * v + d) P) ∧ (∀ w : World, Gf w → Calls Tryd.prog 53 #[.agg c.l.toArray] w fun e w' => e = .returned (.agg g.l.toArray) ∧ Below w.heap.size w w') ∧
      (∀ w : World, GtwiceD w → Gf w → Calls Tryd.prog 28 #[.agg g.l.toArray, .agg (f d).l.toArray] w fun e w' => e = .returned (.agg n.l.toArray) ∧ Below w.heap.size w w') := fun v c hc => by
    obtain ⟨g, hg, q⟩ := sixteen_p c _ hc
    refine ⟨g, fun d => ?_⟩
    obtain ⟨n, hn, q2⟩ := add_p g (f d) _ _ hg (hf d)
    exact ⟨n, by rw [← mul_more16]; exact hn, q, q2⟩
  let H : (r : List (Nat × Nat)) → { c : P4 // c.Is (Pt.mul (va r.reverse) P) } := fun r => List.rec (motive := fun r => { c : P4 // c.Is (Pt.mul (va r.reverse) P) }) ⟨c0, h0⟩
    (fun d r x => ⟨Classical.choose (Classical.choose_spec (st _ x.1 x.2) d.1), by rw [List.reverse_cons, va_more]; exact (Classical.choose_spec (Classical.choose_spec (st _ x.1 x.2) d.1)).1⟩) r
  exact ⟨fun ys => (H ys).1, fun ys => Classical.choose (st _ (H ys).1 (H ys).2), fun ys => (H ys).2, q0, fun ys => (Classical.choose_spec (Classical.choose_spec (st _ (H ys).1 (H ys).2) 0)).2.1, fun ys d => (Classical.choose_spec (Classical.choose_spec (st _ (H ys).1 (H ys).2) d.1)).2.2⟩
/-- The sums of Mul, digit by digit. -/
theorem sums_p (P : Pt) (f : Nat → P4) (hf : ∀ j, (f j).Is (Pt.mul j P)) : ∃ F G : List (Nat × Nat) → P4, (∀ ys, (F ys).Is (Pt.mul (va ys) P)) ∧
    (∀ w : World, Calls Tryd.prog 33 #[] w fun e w' => e = .returned (.agg (F []).l.toArray) ∧ Below w.heap.size w w') ∧
    (∀ ys (w : World), Gf w → Calls Tryd.prog 53 #[.agg (F ys).l.toArray] w fun e w' => e = .returned (.agg (G ys).l.toArray) ∧ Below w.heap.size w w') ∧
    (∀ ys (d : Nat × Nat) (w : World), GtwiceD w → Gf w → Calls Tryd.prog 28 #[.agg (G ys).l.toArray, .agg (f d.1).l.toArray] w fun e w' => e = .returned (.agg (F (ys ++ [d])).l.toArray) ∧ Below w.heap.size w w') := by
  obtain ⟨F, G, h1, h2, h3, h4⟩ := sums_r P f hf
  refine ⟨fun ys => F ys.reverse, fun ys => G ys.reverse, fun ys => ?_, h2, fun ys => h3 _, fun ys d => ?_⟩
  · have h := h1 ys.reverse
    rwa [List.reverse_reverse] at h
  · have h := h4 ys.reverse d
    rwa [← show (ys ++ [d]).reverse = d :: ys.reverse by simp] at h
/-- The sums of Both, two digits at a time: of digits turned round. -/
theorem both_r (P Q : Pt) (f g : Nat → P4) (hf : ∀ j, (f j).Is (Pt.mul j P)) (hg : ∀ j, (g j).Is (Pt.mul j Q)) : ∃ F G : List (Nat × Nat) → P4, ∃ A : List (Nat × Nat) → Nat × Nat → P4, (∀ ys, (F ys).Is ((Pt.mul (va ys.reverse) P).add (Pt.mul (vb ys.reverse) Q))) ∧
    (∀ w : World, Calls Tryd.prog 33 #[] w fun e w' => e = .returned (.agg (F []).l.toArray) ∧ Below w.heap.size w w') ∧
    (∀ ys (w : World), Gf w → Calls Tryd.prog 53 #[.agg (F ys).l.toArray] w fun e w' => e = .returned (.agg (G ys).l.toArray) ∧ Below w.heap.size w w') ∧
    (∀ ys (d : Nat × Nat) (w : World), GtwiceD w → Gf w → Calls Tryd.prog 28 #[.agg (G ys).l.toArray, .agg (f d.1).l.toArray] w fun e w' => e = .returned (.agg (A ys d).l.toArray) ∧ Below w.heap.size w w') ∧
    (∀ ys (d : Nat × Nat) (w : World), GtwiceD w → Gf w → Calls Tryd.prog 28 #[.agg (A ys d).l.toArray, .agg (g d.2).l.toArray] w fun e w' => e = .returned (.agg (F (d :: ys)).l.toArray) ∧ Below w.heap.size w w') := by
  obtain ⟨c0, h0, q0⟩ := zero_p
  have st : ∀ (v u : Nat) (c : P4), c.Is ((Pt.mul v P).add (Pt.mul u Q)) → ∃ x : P4, ∀ d : Nat × Nat, ∃ y n : P4, n.Is ((Pt.mul (16 * v + d.1) P).add (Pt.mul (16 * u + d.2) Q)) ∧ (∀ w : World, Gf w → Calls Tryd.prog 53 #[.agg c.l.toArray] w fun e w' => e = .returned (.agg x.l.toArray) ∧ Below w.heap.size w w') ∧
      (∀ w : World, GtwiceD w → Gf w → Calls Tryd.prog 28 #[.agg x.l.toArray, .agg (f d.1).l.toArray] w fun e w' => e = .returned (.agg y.l.toArray) ∧ Below w.heap.size w w') ∧
      (∀ w : World, GtwiceD w → Gf w → Calls Tryd.prog 28 #[.agg y.l.toArray, .agg (g d.2).l.toArray] w fun e w' => e = .returned (.agg n.l.toArray) ∧ Below w.heap.size w w') := fun v u c hc => by
    obtain ⟨x, hx, q⟩ := sixteen_p c _ hc
    refine ⟨x, fun d => ?_⟩
    obtain ⟨y, hy, q2⟩ := add_p x (f d.1) _ _ hx (hf d.1)
    obtain ⟨n, hn, q3⟩ := add_p y (g d.2) _ _ hy (hg d.2)
    exact ⟨y, n, by rw [← both_more]; exact hn, q, q2, q3⟩
  have h0' : c0.Is ((Pt.mul (va []) P).add (Pt.mul (vb []) Q)) := by
    show c0.Is (Pt.zero.add Pt.zero)
    rw [Pt.add_zero]
    exact h0
  let H : (r : List (Nat × Nat)) → { c : P4 // c.Is ((Pt.mul (va r.reverse) P).add (Pt.mul (vb r.reverse) Q)) } := fun r => List.rec (motive := fun r => { c : P4 // c.Is ((Pt.mul (va r.reverse) P).add (Pt.mul (vb r.reverse) Q)) }) ⟨c0, h0'⟩
    (fun d r x => ⟨Classical.choose (Classical.choose_spec (Classical.choose_spec (st _ _ x.1 x.2) d)), by rw [List.reverse_cons, va_more, vb_more]; exact (Classical.choose_spec (Classical.choose_spec (Classical.choose_spec (st _ _ x.1 x.2) d))).1⟩) r
  exact ⟨fun ys => (H ys).1, fun ys => Classical.choose (st _ _ (H ys).1 (H ys).2), fun ys d => Classical.choose (Classical.choose_spec (st _ _ (H ys).1 (H ys).2) d), fun ys => (H ys).2, q0, fun ys => (Classical.choose_spec (Classical.choose_spec (Classical.choose_spec (st _ _ (H ys).1 (H ys).2) (0, 0)))).2.1, fun ys d => (Classical.choose_spec (Classical.choose_spec (Classical.choose_spec (st _ _ (H ys).1 (H ys).2) d))).2.2.1, fun ys d => (Classical.choose_spec (Classical.choose_spec (Classical.choose_spec (st _ _ (H ys).1 (H ys).2) d))).2.2.2⟩
/-- The sums of Both, two digits at a time. -/
theorem both_p (P Q : Pt) (f g : Nat → P4) (hf : ∀ j, (f j).Is (Pt.mul j P)) (hg : ∀ j, (g j).Is (Pt.mul j Q)) : ∃ F G : List (Nat × Nat) → P4, ∃ A : List (Nat × Nat) → Nat × Nat → P4, (∀ ys, (F ys).Is ((Pt.mul (va ys) P).add (Pt.mul (vb ys) Q))) ∧
    (∀ w : World, Calls Tryd.prog 33 #[] w fun e w' => e = .returned (.agg (F []).l.toArray) ∧ Below w.heap.size w w') ∧
    (∀ ys (w : World), Gf w → Calls Tryd.prog 53 #[.agg (F ys).l.toArray] w fun e w' => e = .returned (.agg (G ys).l.toArray) ∧ Below w.heap.size w w') ∧
    (∀ ys (d : Nat × Nat) (w : World), GtwiceD w → Gf w → Calls Tryd.prog 28 #[.agg (G ys).l.toArray, .agg (f d.1).l.toArray] w fun e w' => e = .returned (.agg (A ys d).l.toArray) ∧ Below w.heap.size w w') ∧
    (∀ ys (d : Nat × Nat) (w : World), GtwiceD w → Gf w → Calls Tryd.prog 28 #[.agg (A ys d).l.toArray, .agg (g d.2).l.toArray] w fun e w' => e = .returned (.agg (F (ys ++ [d])).l.toArray) ∧ Below w.heap.size w w') := by
  obtain ⟨F, G, A, h1, h2, h3, h4, h5⟩ := both_r P Q f g hf hg
  refine ⟨fun ys => F ys.reverse, fun ys => G ys.reverse, fun ys d => A ys.reverse d, fun ys => ?_, h2, fun ys => h3 _, fun ys d => h4 _ _, fun ys d => ?_⟩
  · have h := h1 ys.reverse
    rwa [List.reverse_reverse] at h
  · have h := h5 ys.reverse d
    rwa [← show (ys ++ [d]).reverse = d :: ys.reverse by simp] at h
/-- The four words of a number. -/
def ws (x : Nat) : List Nat := [x / 2 ^ (64 * 0) % 2 ^ 64, x / 2 ^ (64 * 1) % 2 ^ 64, x / 2 ^ (64 * 2) % 2 ^ 64, x / 2 ^ (64 * 3) % 2 ^ 64]
theorem ws_len (x : Nat) : (ws x).length = 4 := rfl
theorem ws_get (x i : Nat) (h : i < 4) : (ws x).getD i 0 = x / 2 ^ (64 * i) % 2 ^ 64 := by
  match i, h with
  | 0, _ => rfl
  | 1, _ => rfl
  | 2, _ => rfl
  | 3, _ => rfl
theorem ws_ww (x : Nat) : Ww (ws x) := by
  intro i
  by_cases h : i < 4
  · rw [ws_get x i h]; exact Nat.mod_lt _ (by decide)
  · rw [List.getD_eq_getElem?_getD, List.getElem?_eq_none (by rw [ws_len]; omega)]; decide
theorem four_ws (x : Nat) (hx : x < M4) : four x = .agg (wv (ws x)).toArray := by
  obtain ⟨a0, a1, a2, a3, -, -, -, -, e, -⟩ := four_open x hx
  unfold four ws wv
  simp only [List.map_cons, List.map_nil, Nat.mul_zero, Nat.pow_zero, Nat.div_one]
/-- A list of cells that fills four words. -/
structure Wl (L : List Value) : Prop where
  len : L.length = 4
  one : L.toArray.all (·.oneCell') = true
theorem Wl.il {L : List Value} (h : Wl L) : (Tryd.prog.info? 25).map (·.size) = some L.length := by rw [h.len]; kernel_rfl
theorem Wl.is {L : List Value} (h : Wl L) : (Tryd.prog.info? 25).map (·.size) = some L.toArray.size := by rw [List.size_toArray]; exact h.il
theorem ws_wl (x : Nat) : Wl (wv (ws x)) := ⟨rfl, by kernel_rfl⟩
/-- What fours answers, of words that nobody looks into. -/
theorem fours_l (n x y : Nat) (w : World) :
    CallsIn Fence.wide n Tryd.prog 52 #[.agg (wv (ws x)).toArray, .agg (wv (ws y)).toArray] w fun e w' => e = .returned (.func (.func 92) #[] #[.pointer (some ⟨w.heap.size, 0, none⟩), .pointer (some ⟨w.heap.size + 1, 0, none⟩)]) ∧
      At 25 w' w.heap.size (wv (ws x)) ∧ At 25 w' (w.heap.size + 1) (wv (ws y)) ∧ w'.heap.size = w.heap.size + 2 ∧ Below w.heap.size w w' := by
  refine (fours_in n _ _ _ _ _ _ _ _ w).mono ?_
  rintro e w' ⟨rfl, rfl⟩
  exact ⟨rfl, at_alloc (at_new2 _ _ _ _ rfl) _, at_new2 _ _ _ _ (by simp), by simp, ((Below.refl _ _).alloc (Nat.le_refl _) _).alloc (by simp) _⟩
/-- What abides by whatever turns from block B on. -/
theorem own_below {β : Type} {B : Nat} {I : β → World → Prop} (hs : ∀ s W, I s W → B ≤ W.heap.size) (h : ∀ s W W', I s W → Below B W W' → I s W') : OwnUp B I := fun s W W' row hi hg hr =>
  h s W W' hi ⟨hg.os, hg.tape, hg.output, hg.size, fun k hk => hg.block k (Nat.lt_of_lt_of_le hk (hs s W hi)) (fun e => by have := hr k e.symm; omega)⟩
theorem at_low {T : TypeId} {W W' : World} {b B : Nat} {L : List Value} (h : At T W b L) (hb : Below B W W') (hB : b < B) : At T W' b L := (hb.block b hB).trans h
end Go.Proofs.YtedhfimjcpbcpaaDoor.Ed

/-
  The program's Mul of layer 11: the walk, given what each call answers. Conditions: as each theorem says.
-/
namespace Go.Proofs.YtedhfimjcpbcpaaDoor.Ed
open Go.RowKit
set_option linter.unusedVariables false
set_option linter.unusedSimpArgs false

attribute [local go_sem] Oper.semAt_some
set_option maxRecDepth 100000 in
set_option maxHeartbeats 16000000 in
theorem mul_w (f : Nat → P4) (F G : List (Nat × Nat) → P4) (p : List Value) (p_h : Pl p) (x : Nat)
    (Q1 : Hid (∀ w : World, GtwiceD w → Gf w → Calls Tryd.prog 51 #[.agg p.toArray] w fun e w' => e = .returned (.agg (fm (rowAt f 15)).toArray) ∧ Below w.heap.size w w'))
    (Q2 : Hid (∀ w : World, Calls Tryd.prog 33 #[] w fun e w' => e = .returned (.agg (F []).l.toArray) ∧ Below w.heap.size w w'))
    (Q3 : Hid (∀ ys (w : World), Gf w → Calls Tryd.prog 53 #[.agg (F ys).l.toArray] w fun e w' => e = .returned (.agg (G ys).l.toArray) ∧ Below w.heap.size w w'))
    (Q4 : Hid (∀ ys (d : Nat × Nat) (w : World), GtwiceD w → Gf w → Calls Tryd.prog 28 #[.agg (G ys).l.toArray, .agg (f d.1).l.toArray] w fun e w' => e = .returned (.agg (F (ys ++ [d])).l.toArray) ∧ Below w.heap.size w w'))
    (w : World) (T_0 : Hid (GtwiceD w)) (Z_0 : Hid (Gf w)) :
    Calls Tryd.prog 9 #[.agg (wv (ws x)).toArray, .agg p.toArray] w fun e w' => e = .returned (.agg (F (tk x 0 64)).l.toArray) ∧ Below w.heap.size w w' := by
  have k_h := ws_wl x
  have hws0 : Hid (∀ n (w : World), CallsIn Fence.wide n Tryd.prog 52 #[.agg (wv (ws x)).toArray, .agg (wv (ws 0)).toArray] w fun e w' => e = .returned (.func (.func 92) #[] #[.pointer (some ⟨w.heap.size, 0, none⟩), .pointer (some ⟨w.heap.size + 1, 0, none⟩)]) ∧
      At 25 w' w.heap.size (wv (ws x)) ∧ At 25 w' (w.heap.size + 1) (wv (ws 0)) ∧ w'.heap.size = w.heap.size + 2 ∧ Below w.heap.size w w') := fun n w => fours_l n x 0 w
  have hTl : Hid (∀ (s p : Nat) (w0 : World), s < p → p + 1 < w0.heap.size → At 25 w0 p (wv (ws x)) → At 25 w0 (p + 1) (wv (ws 0)) → Telling2 Tryd.prog 92 #[.pointer (some ⟨p, 0, none⟩), .pointer (some ⟨p + 1, 0, none⟩)] (fun x : Nat × Nat => #[.int .u64 (x.1 : Int), .int .u64 (x.2 : Int)]) (fun _ x => x.1 < 16 ∧ x.2 < 16) (KpS s (w0.heap.size + 1)) (fun xs => xs = tk x 0 64) w0) :=
    fun s p w0 h1 h2 h3 h4 => fours_tells x 0 (ws x) (ws 0) (ws_len _) (ws_len _) (ws_ww _) (ws_ww _) (ws_get x) (ws_get 0) s p w0 h1 h2 h3 h4
  obtain ⟨K, hK⟩ : ∃ K, wv (ws x) = K := ⟨_, rfl⟩
  have hz4 : wv (ws 0) = [.int .u64 0, .int .u64 0, .int .u64 0, .int .u64 0] := by unfold wv ws; simp only [Nat.zero_div, Nat.zero_mod, List.map_cons, List.map_nil]; rfl
  rw [hK] at k_h hws0 hTl ⊢
  rw [hz4] at hws0 hTl
  clear hK hz4
  obtain ⟨R, hR⟩ : ∃ R, Hid (fm (rowAt f 15) = R) := ⟨_, rfl⟩
  have R_l : Hid (R.length = 320) := by unfold Hid; rw [← hR.out, fm_len, row_len]
  have R_s : Hid ((Tryd.prog.info? 82).map (·.size) = some R.toArray.size) := by unfold Hid; rw [← hR.out]; exact fm_is _ (row_len _ _)
  have R_o : Hid (R.toArray.all (·.oneCell') = true) := by unfold Hid; rw [← hR.out]; exact fm_one _
  have R_m : Hid (∀ d, d < 16 → (R.drop (d * 20)).take 20 = (f d).l) := by unfold Hid; rw [← hR.out]; exact fun d hd => fm_mid _ d _ (row_get f 15 d (by omega) hd)
  rw [hR.out] at Q1
  obtain ⟨Z0, hZ0⟩ : ∃ R, Hid (fm (List.replicate 16 nilP) = R) := ⟨_, rfl⟩
  have hz16 : Tryd.zeroCells82 = Z0.toArray := by rw [← hZ0.out]; exact zero_16
  have Z_l : Hid (R.length = Z0.length) := by unfold Hid; rw [R_l.out, ← hZ0.out, fm_len]; rfl
  obtain ⟨c, hc⟩ : ∃ c, Hid ((F []).l = c) := ⟨_, rfl⟩
  have c_h : Pl c := by rw [← hc.out]; exact (F []).pl
  rw [hc.out] at Q2
  refine calls_marks Tryd.func9 rfl ?_
  simp only [Tryd.ntmps9, List.size_toArray, List.length_cons, List.length_nil, Nat.reduceAdd, Nat.reduceSub, Array.replicate_succ, Array.replicate_zero, List.push_toArray, List.append_toArray, List.nil_append, List.cons_append]
  go_upto_region 1 with fail
  have hT := hid T_0.out.lt
  have hZ := hid Z_0.out.lt
  have g01 : Below w.heap.size w (((w.alloc (.cells K.toArray 25)).alloc (.cells p.toArray 32)).alloc (.cells #[.int .u64 0, .int .u64 0, .int .u64 0, .int .u64 0, .int .u64 0, .int .u64 0, .int .u64 0, .int .u64 0, .int .u64 0, .int .u64 0, .int .u64 0, .int .u64 0, .int .u64 0, .int .u64 0, .int .u64 0, .int .u64 0, .int .u64 0, .int .u64 0, .int .u64 0, .int .u64 0] 32)) := (((Below.refl _ _).alloc (Nat.le_refl _) _).alloc (by simp) _).alloc (by simp; omega) _
  refine wp_cut (fun V => At 25 V w.heap.size K ∧ At 32 V (w.heap.size + 1) p ∧ At 32 V (w.heap.size + 1 + 1) [.int .u64 0, .int .u64 0, .int .u64 0, .int .u64 0, .int .u64 0, .int .u64 0, .int .u64 0, .int .u64 0, .int .u64 0, .int .u64 0, .int .u64 0, .int .u64 0, .int .u64 0, .int .u64 0, .int .u64 0, .int .u64 0, .int .u64 0, .int .u64 0, .int .u64 0, .int .u64 0] ∧ Below w.heap.size w V) ⟨at_alloc (at_alloc (at_new2 _ _ _ _ rfl) _) _, at_alloc (at_new2 _ _ _ _ (by simp)) _, at_new2 _ _ _ _ (by simp), g01⟩ ?_
  clear g01
  rintro w1 ⟨k0, k1, k2, k3⟩
  have A_1 := hid k0
  have B_1 := hid k1
  have C_1 := hid k2
  have G_1 := hid k3
  clear k0 k1 k2 k3
  go_wp2_with (first | refine wpList_load_mid rfl 32 _ rfl (w.heap.size + 1) 0 rfl p _ (at_mid B_1.out 0 _ (by simp)) Tryd.underlying32 rfl p_h.il ?_ | fail)
  refine (Q1.out _ (T_0.out.grown G_1.out) (Z_0.out.grown G_1.out)).mono ?_
  rintro e w2 ⟨rfl, g⟩
  have A_2 := hid (A_1.out.below g)
  have C_2 := hid (C_1.out.below g)
  have G_2 := hid (G_1.out.trans (g.mono G_1.out.size))
  clear g A_1 B_1 C_1 G_1
  go_wp2_with fail
  refine (Q2.out _).mono ?_
  rintro e w3 ⟨rfl, g⟩
  have A_3 := hid (A_2.out.below g)
  have C_3 := hid (C_2.out.below g)
  have G_3 := hid (G_2.out.trans (g.mono G_2.out.size))
  have lC : w.heap.size + 1 + 1 < w3.heap.size := C_3.out.lt
  clear g A_2 C_2 G_2
  go_wp2_with (first | (refine list_store_oth rfl 82 _ _ rfl w3.heap.size R Z0 rfl rfl (at_alloc (at_new2 _ _ _ _ rfl) _) Z_l.out R_s.out R_o.out (fun wq hC hO => ?_)) | (refine list_store_oth rfl 32 _ _ rfl (w3.heap.size + 1) c [.int .u64 0, .int .u64 0, .int .u64 0, .int .u64 0, .int .u64 0, .int .u64 0, .int .u64 0, .int .u64 0, .int .u64 0, .int .u64 0, .int .u64 0, .int .u64 0, .int .u64 0, .int .u64 0, .int .u64 0, .int .u64 0, .int .u64 0, .int .u64 0, .int .u64 0, .int .u64 0] rfl rfl (hO.at (at_new2 _ _ _ _ (by simp)) (by omega)) c_h.len c_h.is c_h.one (fun w4 hC2 hO2 => ?_)) | (refine wpList_load_mid rfl 25 _ rfl w.heap.size 0 rfl K _ (at_mid (hO2.at (hO.at (at_alloc (at_alloc A_3.out _) _) (by omega)) (by omega)) 0 _ (by simp)) Tryd.underlying25 rfl k_h.il ?_) | fail)
  have g : Below w3.heap.size w3 w4 := Oth.bel (Oth.bel (((Below.refl _ _).alloc (Nat.le_refl _) _).alloc (by simp) _) hO (Nat.le_refl _)) hO2 (by omega)
  have A_4 := hid (A_3.out.below g)
  have C_4 := hid (C_3.out.below g)
  have G_4 := hid (G_3.out.trans (g.mono G_3.out.size))
  have R_4 := hid (hO2.at hC (by omega))
  have S_4 := hid hC2
  obtain ⟨a, ha⟩ : ∃ a, w3.heap.size = a := ⟨_, rfl⟩
  rw [ha] at lC R_4 S_4 ⊢
  clear g hC hC2 hO hO2 A_3 C_3 G_3 ha
  refine (callsIn_wide.1 (hws0.out 5 w4)).mono ?_
  rintro e w5 ⟨rfl, hx, hy, hs, g⟩
  have lS : a + 1 < w4.heap.size := S_4.out.lt
  have H5 := hTl.out (a + 1) w4.heap.size w5 lS (by omega) hx hy
  have C_5 := hid (C_4.out.below g)
  have G_5 := hid (G_4.out.trans (g.mono G_4.out.size))
  have R_5 := hid (R_4.out.below g)
  have S_5 := hid (S_4.out.below g)
  clear g hx hy A_4 C_4 G_4 R_4 S_4 Q1 Q2 hws0 hTl
  go_wp2_with fail
  have hmx : Tryd.prog.follows .mixedOrders = true := by kernel_rfl
  obtain ⟨q, hq⟩ : ∃ q, w4.heap.size = q := ⟨_, rfl⟩
  rw [hq] at hs lS H5 ⊢
  refine (wpIn_wide (n := 5)).1 ?_
  refine wpIn_telling2 (w := w5) (gf := 92) (lb := #[.pointer (some ⟨q, 0, none⟩), .pointer (some ⟨q + 1, 0, none⟩)]) rfl (enters_of Tryd.func92 (by kernel_rfl) rfl)
    H5 (fun _ => rfl) (fun h h' => h.trans h') (fun W o' => KpS.put (by omega) W o')
    (fun pre W => w5.heap.size ≤ W.heap.size ∧ At 32 W (a + 1) (F pre).l ∧ At 82 W a R ∧ At 32 W (w.heap.size + 1 + 1) [.int .u64 0, .int .u64 0, .int .u64 0, .int .u64 0, .int .u64 0, .int .u64 0, .int .u64 0, .int .u64 0, .int .u64 0, .int .u64 0, .int .u64 0, .int .u64 0, .int .u64 0, .int .u64 0, .int .u64 0, .int .u64 0, .int .u64 0, .int .u64 0, .int .u64 0, .int .u64 0] ∧ Below w.heap.size w W)
    (own_below (fun s W h => h.1) (fun s W W' h hb => ⟨Nat.le_trans h.1 hb.size, at_low h.2.1 hb (by omega), at_low h.2.2.1 hb (by omega), at_low h.2.2.2.1 hb (by omega), h.2.2.2.2.trans (hb.mono (by omega))⟩))
    ⟨Nat.le_refl _, by rw [hc.out]; exact S_5.out, R_5.out, C_5.out, G_5.out⟩
    (fun x => { tmps := #[.agg K.toArray, .agg p.toArray, .pointer (some ⟨w.heap.size, 0, none⟩), .pointer (some ⟨w.heap.size + 1, 0, none⟩), .pointer (some ⟨w.heap.size + 1 + 1, 0, none⟩), .pointer (some ⟨a, 0, none⟩), .pointer (some ⟨a + 1, 0, none⟩), .int .u64 (x.1 : Int), .agg p.toArray, .agg R.toArray, .agg c.toArray, .agg K.toArray, .agg #[.int .u64 0, .int .u64 0, .int .u64 0, .int .u64 0], .func (.func 92) #[] #[.pointer (some ⟨q, 0, none⟩), .pointer (some ⟨q + 1, 0, none⟩)], .int .u64 (x.1 : Int), .int .u64 (x.2 : Int), undef, undef, undef, undef, undef, undef, undef], defers := [] }) ?assign ?body ?done
  case assign =>
    intro n l x W K hK
    gi_wp2
    exact hK
  case body =>
    rintro n pre d W hW ⟨hW2, hS, hR2, hC, hG⟩ ⟨hd, -⟩
    have Q4d : Hid (∀ w : World, GtwiceD w → Gf w → Calls Tryd.prog 28 #[.agg (G pre).l.toArray, .agg (f d.1).l.toArray] w fun e w' => e = .returned (.agg (F (pre ++ [d])).l.toArray) ∧ Below w.heap.size w w') := fun w => Q4.out pre d w
    have Q3d : Hid (∀ w : World, Gf w → Calls Tryd.prog 53 #[.agg (F pre).l.toArray] w fun e w' => e = .returned (.agg (G pre).l.toArray) ∧ Below w.heap.size w w') := fun w => Q3.out pre w
    have hmid : Hid ((R.drop (d.1 * 20)).take 20 = (f d.1).l) := R_m.out d.1 hd
    have hn : Hid (F (pre ++ [d]) = F (pre ++ [d])) := rfl
    have s_h : Pl (F pre).l := (F pre).pl
    have m_h : Pl (f d.1).l := (f d.1).pl
    have n_h : Pl (F (pre ++ [d])).l := (F (pre ++ [d])).pl
    obtain ⟨s, hs1⟩ : ∃ s, (F pre).l = s := ⟨_, rfl⟩
    obtain ⟨g, hg1⟩ : ∃ g, (G pre).l = g := ⟨_, rfl⟩
    obtain ⟨m, hm1⟩ : ∃ m, (f d.1).l = m := ⟨_, rfl⟩
    obtain ⟨t, ht1⟩ : ∃ t, Hid ((F (pre ++ [d])).l = t) := ⟨_, rfl⟩
    rw [hs1] at hS Q3d s_h
    rw [hg1] at Q3d Q4d
    rw [hm1] at hmid Q4d m_h
    rw [ht1.out] at Q4d n_h
    obtain ⟨dn, hdn⟩ : ∃ n, d.1 = n := ⟨_, rfl⟩
    rw [hdn] at hd hmid
    rw [hdn]
    have hd' : (dn : Int) < 16 := by omega
    have S_6 := hid hS
    have R_6 := hid hR2
    have C_6 := hid hC
    have G_6 := hid hG
    have T_6 := hid (T_0.out.grown hG)
    have Z_6 := hid (Z_0.out.grown hG)
    have T_7 := hid (T_6.out.grown (Below.refl _ W).drew)
    have Z_7 := hid (Z_6.out.grown (Below.refl _ W).drew)
    have HW := hid hW
    have K0 : At 32 W.drew (a + 1) s ∧ At 82 W.drew a R := ⟨hS.drew, hR2.drew⟩
    clear hW hW2 hS hR2 hC hG hs1 hg1 hm1 hdn Q3 Q4 hn S_5 R_5 C_5 G_5 H5
    gi_wp2
    refine wpIn_region_late (L := 6) (S := fun w' => At 32 w' (a + 1) s ∧ At 82 w' a R) hmx (nodefer_of (by simp)) (by rintro ⟨a, w, h⟩; exact h) K0 (fun hHeld => ?_)
    clear K0
    refine l_take 0 (v := .agg s.toArray) rfl (by kernel_rfl) (by kernel_rfl) (by kernel_rfl) (by kernel_rfl) (fun _ _ _ h => h) (by rfl) ?hy0 (by assumption) ?_
    case hy0 =>
      intro w' hSw
      exact load_run 32 _ rfl _ 0 rfl s _ (at_mid hSw.1 0 _ (by simp)) Tryd.underlying32 rfl s_h.il
    try simp only [Act.put, List.setIfInBounds_toArray, List.set_cons_zero, List.set_cons_succ]
    refine l_take 2 (v := .int .u64 (dn : Int)) rfl (by kernel_rfl) (by kernel_rfl) (by kernel_rfl) (by kernel_rfl) (fun _ _ _ h => h) (by rfl) ?hy2 (by assumption) ?_
    case hy2 =>
      intro w' hSw
      clear hSw
      go_simp
    try simp only [Act.put, List.setIfInBounds_toArray, List.set_cons_zero, List.set_cons_succ]
    refine l_take 3 (v := .pointer (some ⟨a, dn * 20, none⟩)) rfl (by kernel_rfl) (by kernel_rfl) (by kernel_rfl) (by kernel_rfl) (fun _ _ _ h => h) (by rfl) ?hy3 (by assumption) ?_
    case hy3 =>
      intro w' hSw
      clear hSw
      go_simp
    try simp only [Act.put, List.setIfInBounds_toArray, List.set_cons_zero, List.set_cons_succ]
    refine l_take 4 (v := .agg m.toArray) rfl (by kernel_rfl) (by kernel_rfl) (by kernel_rfl) (by kernel_rfl) (fun _ _ _ h => h) (by rfl) ?hy4 (by assumption) ?_
    case hy4 =>
      intro w' hSw
      exact load_run 32 _ rfl a (dn * 20) rfl m _ (at_mid hSw.2 (dn * 20) _ (by rw [m_h.len]; exact hmid.out)) Tryd.underlying32 rfl m_h.il
    try simp only [Act.put, List.setIfInBounds_toArray, List.set_cons_zero, List.set_cons_succ]
    refine l_call 1 rfl (by kernel_rfl) (by rfl) (fun Kk hK => ?_)
    go_simp
    refine (Q3d.out _ Z_7.out).mono ?_
    rintro e w8 ⟨rfl, g0⟩
    have gg : Below W.heap.size W w8 := (Below.refl _ W).drew.trans g0
    have S_8 := hid (S_6.out.below gg)
    have R_8 := hid (R_6.out.below gg)
    have C_8 := hid (C_6.out.below gg)
    have G_8 := hid (G_6.out.trans (gg.mono G_6.out.size))
    have T_8 := hid (T_6.out.grown gg)
    have Z_8 := hid (Z_6.out.grown gg)
    have B_8 := hid gg
    clear g0 gg T_7 Z_7
    have K8 := And.intro S_8.out R_8.out
    clear hHeld
    refine hK.out _ _ (Or.inr K8) ?_
    have hHeld := K8
    clear hK Kk K8
    try simp only [Act.put, List.setIfInBounds_toArray, List.set_cons_zero, List.set_cons_succ]
    refine l_call 5 rfl (by kernel_rfl) (by rfl) (fun Kk hK => ?_)
    go_simp
    refine (Q4d.out _ T_8.out Z_8.out).mono ?_
    rintro e w9 ⟨rfl, gg⟩
    have S_9 := hid (S_8.out.below gg)
    have R_9 := hid (R_8.out.below gg)
    have C_9 := hid (C_8.out.below gg)
    have G_9 := hid (G_8.out.trans (gg.mono G_8.out.size))
    have B_9 := hid (B_8.out.trans (gg.mono B_8.out.size))
    clear gg S_8 R_8 C_8 G_8 B_8 T_8 Z_8
    have K8 := And.intro S_9.out R_9.out
    clear hHeld
    refine hK.out _ _ (Or.inr K8) ?_
    have hHeld := K8
    clear hK Kk K8
    try simp only [Act.put, List.setIfInBounds_toArray, List.set_cons_zero, List.set_cons_succ]
    refine l_call 6 rfl (by kernel_rfl) (by rfl) (fun Kk hK => ?_)
    refine store_oth 32 _ _ rfl (a + 1) t s rfl rfl S_9.out (n_h.len.trans s_h.len.symm) n_h.is n_h.one (fun V hV hO => ?_)
    refine hK.out _ _ (Or.inl rfl) ?_
    clear hK Kk hHeld
    try simp only [Act.put, List.setIfInBounds_toArray, List.set_cons_zero, List.set_cons_succ]
    refine l_done (by kernel_rfl) ?_ _
    have hsz := HW.out
    have hlt := R_9.out.lt
    have hb9 := B_9.out.size
    have E1 : Hid (V.heap[w5.heap.size]? = W.heap[w5.heap.size]?) := (hO.other _ (by omega) (by omega)).trans (B_9.out.block _ (by omega))
    have E2 : Hid (V.heap[w5.heap.size + 1]? = W.heap[w5.heap.size + 1]?) := (hO.other _ (by omega) (by omega)).trans (B_9.out.block _ (by omega))
    have E3 : Hid (KpS (a + 1) (w5.heap.size + 1) W V) := ⟨(B_9.out.mono (by omega)).trans (below_oth hO (Nat.le_refl _) (by omega)), fun j o h1 h2 h3 => by
      have hj := (Array.getElem?_eq_some_iff.1 h3).1
      exact (hO.other j (by omega) (by omega)).trans ((B_9.out.block j hj).trans h3)⟩
    have E4 : Hid (w5.heap.size ≤ V.heap.size ∧ At 32 V (a + 1) (F (pre ++ [d])).l ∧ At 82 V a R ∧ At 32 V (w.heap.size + 1 + 1) [.int .u64 0, .int .u64 0, .int .u64 0, .int .u64 0, .int .u64 0, .int .u64 0, .int .u64 0, .int .u64 0, .int .u64 0, .int .u64 0, .int .u64 0, .int .u64 0, .int .u64 0, .int .u64 0, .int .u64 0, .int .u64 0, .int .u64 0, .int .u64 0, .int .u64 0, .int .u64 0] ∧ Below w.heap.size w V) :=
      ⟨by have := hO.size; omega, by rw [ht1.out]; exact hV, hO.at R_9.out (by omega), hO.at C_9.out (by omega), Oth.bel G_9.out hO (by omega)⟩
    clear hsz hlt hb9 S_6 R_6 C_6 G_6 T_6 Z_6 S_9 R_9 C_9 G_9 B_9 hV hO hmid
    simp only [noPanic]
    gi_wp2
    exact ⟨⟨E1.out, E2.out⟩, E3.out, E4.out⟩
  case done =>
    rintro xs W rfl ⟨hW2, hS, hR2, hC, hG⟩ hD
    have s_h : Pl (F (tk x 0 64)).l := (F (tk x 0 64)).pl
    obtain ⟨s, hs1⟩ : ∃ s, Hid ((F (tk x 0 64)).l = s) := ⟨_, rfl⟩
    rw [hs1.out] at hS s_h
    have S_6 := hid hS
    have C_6 := hid hC
    have G_6 := hid hG
    have D_6 := hid hD
    clear hW2 hS hR2 hC hG hD Q3 Q4 S_5 R_5 C_5 G_5 H5
    go_wp2_with (first | refine wpList_load_mid rfl 32 _ rfl (a + 1) 0 rfl s _ (at_mid S_6.out 0 _ (by simp)) Tryd.underlying32 rfl s_h.il ?_ | refine list_store_oth rfl 32 _ _ rfl (w.heap.size + 1 + 1) s [.int .u64 0, .int .u64 0, .int .u64 0, .int .u64 0, .int .u64 0, .int .u64 0, .int .u64 0, .int .u64 0, .int .u64 0, .int .u64 0, .int .u64 0, .int .u64 0, .int .u64 0, .int .u64 0, .int .u64 0, .int .u64 0, .int .u64 0, .int .u64 0, .int .u64 0, .int .u64 0] rfl rfl C_6.out s_h.len s_h.is s_h.one (fun V hC hO => ?_) | fail)
    have hlt := (Array.getElem?_eq_some_iff.1 D_6.out).1
    have h5 : a + 1 + 1 ≤ w5.heap.size := by omega
    have HDV : V.heap[w5.heap.size]? = some (.deferred (some [])) := (hO.other _ hlt (by omega)).trans D_6.out
    have HC2 : ∀ o', At 32 (V.putObj w5.heap.size o') (w.heap.size + 1 + 1) s := fun o' => (World.putObj_heap_other (by omega)).trans hC
    refine ⟨by simp, .inl ⟨_, _, rfl, run_takeDeferred HDV, ?_⟩⟩
    exact ⟨.agg s.toArray, results_mid (Tryd.results9) _ _ (w.heap.size + 1 + 1) 0 s _ rfl (HC2 _).range Tryd.underlying32 rfl s_h.il, by rw [hs1.out], (Oth.bel G_6.out hO (by omega)).trans (belowK_b (w := w) (Nat.le_refl _) _ w5.heap.size _ _ (by omega) HDV rfl rfl)⟩
theorem mul_p (p : P4) (P : Pt) (hp : p.Is P) (x : Nat) (hx : x < M4) : ∃ c : P4, c.Is (Pt.mul x P) ∧ ∀ w : World, GtwiceD w → Gf w → Calls Tryd.prog 9 #[.agg (wv (ws x)).toArray, .agg p.l.toArray] w fun e w' => e = .returned (.agg c.l.toArray) ∧ Below w.heap.size w w' := by
  obtain ⟨f, hf, q1⟩ := multiples_p p P hp
  obtain ⟨F, G, hF, q2, q3, q4⟩ := sums_p P f hf
  have hx2 : x < 16 ^ 64 := Nat.lt_of_lt_of_le hx (by decide +kernel)
  refine ⟨F (tk x 0 64), ?_, fun w hT hZ => mul_w f F G p.l p.pl x q1 q2 q3 q4 w hT hZ⟩
  have h := hF (tk x 0 64)
  rwa [(va_tk x 0 hx2 (by decide)).1] at h
end Go.Proofs.YtedhfimjcpbcpaaDoor.Ed

/-
  The program's Both of layer 11: the walk, given what each call answers. Conditions: as each theorem says.
-/
namespace Go.Proofs.YtedhfimjcpbcpaaDoor.Ed
open Go.RowKit
set_option linter.unusedVariables false
set_option linter.unusedSimpArgs false

attribute [local go_sem] Oper.semAt_some
/-- A list of cells that fills sixteen points. -/
structure Al (L : List Value) : Prop where
  len : L.length = 320
  one : L.toArray.all (·.oneCell') = true
theorem Al.il {L : List Value} (h : Al L) : (Tryd.prog.info? 82).map (·.size) = some L.length := by rw [h.len]; kernel_rfl
theorem Al.is {L : List Value} (h : Al L) : (Tryd.prog.info? 82).map (·.size) = some L.toArray.size := by rw [List.size_toArray]; exact h.il
theorem row_al (f : Nat → P4) : Al (fm (rowAt f 15)) := ⟨by rw [fm_len, row_len], fm_one _⟩
theorem at_ne {T T' : TypeId} {W : World} {b b' : Nat} {L L' : List Value} (h : At T W b L) (h' : At T' W b' L') (hne : T ≠ T') : b ≠ b' := by
  rintro rfl
  unfold At at h h'
  rw [h] at h'
  injection h' with h'
  injection h' with _ h'
  exact hne h'
set_option maxRecDepth 100000 in
set_option maxHeartbeats 16000000 in
theorem both_w (f f2 : Nat → P4) (F G : List (Nat × Nat) → P4) (A : List (Nat × Nat) → Nat × Nat → P4) (p pq : List Value) (p_h : Pl p) (pq_h : Pl pq) (x y : Nat)
    (Q1 : Hid (∀ w : World, GtwiceD w → Gf w → Calls Tryd.prog 51 #[.agg p.toArray] w fun e w' => e = .returned (.agg (fm (rowAt f 15)).toArray) ∧ Below w.heap.size w w'))
    (Q2 : Hid (∀ w : World, GtwiceD w → Gf w → Calls Tryd.prog 51 #[.agg pq.toArray] w fun e w' => e = .returned (.agg (fm (rowAt f2 15)).toArray) ∧ Below w.heap.size w w'))
    (Q3 : Hid (∀ w : World, Calls Tryd.prog 33 #[] w fun e w' => e = .returned (.agg (F []).l.toArray) ∧ Below w.heap.size w w'))
    (Q4 : Hid (∀ ys (w : World), Gf w → Calls Tryd.prog 53 #[.agg (F ys).l.toArray] w fun e w' => e = .returned (.agg (G ys).l.toArray) ∧ Below w.heap.size w w'))
    (Q5 : Hid (∀ ys (d : Nat × Nat) (w : World), GtwiceD w → Gf w → Calls Tryd.prog 28 #[.agg (G ys).l.toArray, .agg (f d.1).l.toArray] w fun e w' => e = .returned (.agg (A ys d).l.toArray) ∧ Below w.heap.size w w'))
    (Q6 : Hid (∀ ys (d : Nat × Nat) (w : World), GtwiceD w → Gf w → Calls Tryd.prog 28 #[.agg (A ys d).l.toArray, .agg (f2 d.2).l.toArray] w fun e w' => e = .returned (.agg (F (ys ++ [d])).l.toArray) ∧ Below w.heap.size w w'))
    (w : World) (T_0 : Hid (GtwiceD w)) (Z_0 : Hid (Gf w)) :
    Calls Tryd.prog 21 #[.agg (wv (ws x)).toArray, .agg p.toArray, .agg (wv (ws y)).toArray, .agg pq.toArray] w fun e w' => e = .returned (.agg (F (tk x y 64)).l.toArray) ∧ Below w.heap.size w w' := by
  have ka_h := ws_wl x
  have kb_h := ws_wl y
  have hws0 : Hid (∀ n (w : World), CallsIn Fence.wide n Tryd.prog 52 #[.agg (wv (ws x)).toArray, .agg (wv (ws y)).toArray] w fun e w' => e = .returned (.func (.func 92) #[] #[.pointer (some ⟨w.heap.size, 0, none⟩), .pointer (some ⟨w.heap.size + 1, 0, none⟩)]) ∧
      At 25 w' w.heap.size (wv (ws x)) ∧ At 25 w' (w.heap.size + 1) (wv (ws y)) ∧ w'.heap.size = w.heap.size + 2 ∧ Below w.heap.size w w') := fun n w => fours_l n x y w
  have hTl : Hid (∀ (s p : Nat) (w0 : World), s < p → p + 1 < w0.heap.size → At 25 w0 p (wv (ws x)) → At 25 w0 (p + 1) (wv (ws y)) → Telling2 Tryd.prog 92 #[.pointer (some ⟨p, 0, none⟩), .pointer (some ⟨p + 1, 0, none⟩)] (fun x : Nat × Nat => #[.int .u64 (x.1 : Int), .int .u64 (x.2 : Int)]) (fun _ x => x.1 < 16 ∧ x.2 < 16) (KpS s (w0.heap.size + 1)) (fun xs => xs = tk x y 64) w0) :=
    fun s p w0 h1 h2 h3 h4 => fours_tells x y (ws x) (ws y) (ws_len _) (ws_len _) (ws_ww _) (ws_ww _) (ws_get x) (ws_get y) s p w0 h1 h2 h3 h4
  obtain ⟨ka, hka⟩ : ∃ K, wv (ws x) = K := ⟨_, rfl⟩
  obtain ⟨kb, hkb⟩ : ∃ K, wv (ws y) = K := ⟨_, rfl⟩
  rw [hka] at ka_h hws0 hTl ⊢
  rw [hkb] at kb_h hws0 hTl ⊢
  clear hka hkb
  have rp_h := row_al f
  have rq_h := row_al f2
  have rp_m : Hid (∀ d, d < 16 → ((fm (rowAt f 15)).drop (d * 20)).take 20 = (f d).l) := fun d hd => fm_mid _ d _ (row_get f 15 d (by omega) hd)
  have rq_m : Hid (∀ d, d < 16 → ((fm (rowAt f2 15)).drop (d * 20)).take 20 = (f2 d).l) := fun d hd => fm_mid _ d _ (row_get f2 15 d (by omega) hd)
  obtain ⟨rp, hrp⟩ : ∃ R, fm (rowAt f 15) = R := ⟨_, rfl⟩
  obtain ⟨rq, hrq⟩ : ∃ R, fm (rowAt f2 15) = R := ⟨_, rfl⟩
  rw [hrp] at Q1 rp_h rp_m
  rw [hrq] at Q2 rq_h rq_m
  clear hrp hrq
  obtain ⟨Z0, hZ0⟩ : ∃ R, Hid (fm (List.replicate 16 nilP) = R) := ⟨_, rfl⟩
  have hz16 : Tryd.zeroCells82 = Z0.toArray := by rw [← hZ0.out]; exact zero_16
  have Z0_l : Hid (Z0.length = 320) := by unfold Hid; rw [← hZ0.out, fm_len]; rfl
  obtain ⟨c, hc⟩ : ∃ c, Hid ((F []).l = c) := ⟨_, rfl⟩
  have c_h : Pl c := by rw [← hc.out]; exact (F []).pl
  rw [hc.out] at Q3
  refine calls_marks Tryd.func21 rfl ?_
  simp only [Tryd.ntmps21, List.size_toArray, List.length_cons, List.length_nil, Nat.reduceAdd, Nat.reduceSub, Array.replicate_succ, Array.replicate_zero, List.push_toArray, List.append_toArray, List.nil_append, List.cons_append]
  go_upto_region 1 with fail
  have HT := T_0.out.lt
  have HZ := Z_0.out.lt
  refine wp_cut (fun V => At 25 V w.heap.size ka ∧ At 32 V (w.heap.size + 1) p ∧ At 25 V (w.heap.size + 1 + 1) kb ∧ At 32 V (w.heap.size + 1 + 1 + 1) pq ∧ At 32 V (w.heap.size + 1 + 1 + 1 + 1) [.int .u64 0, .int .u64 0, .int .u64 0, .int .u64 0, .int .u64 0, .int .u64 0, .int .u64 0, .int .u64 0, .int .u64 0, .int .u64 0, .int .u64 0, .int .u64 0, .int .u64 0, .int .u64 0, .int .u64 0, .int .u64 0, .int .u64 0, .int .u64 0, .int .u64 0, .int .u64 0] ∧ GtwiceD V ∧ Gf V ∧ Below w.heap.size w V) ⟨?_, ?_, ?_, ?_, ?_, ?_, ?_, ?_⟩ ?_
  · (repeat (first | refine At.drew ?_ | refine At.drewN ?_ _ | (refine at_new2 _ _ _ _ ?_; simp; done) | refine at_alloc ?_ _))
  · (repeat (first | refine At.drew ?_ | refine At.drewN ?_ _ | (refine at_new2 _ _ _ _ ?_; simp; done) | refine at_alloc ?_ _))
  · (repeat (first | refine At.drew ?_ | refine At.drewN ?_ _ | (refine at_new2 _ _ _ _ ?_; simp; done) | refine at_alloc ?_ _))
  · (repeat (first | refine At.drew ?_ | refine At.drewN ?_ _ | (refine at_new2 _ _ _ _ ?_; simp; done) | refine at_alloc ?_ _))
  · (repeat (first | refine At.drew ?_ | refine At.drewN ?_ _ | (refine at_new2 _ _ _ _ ?_; simp; done) | refine at_alloc ?_ _))
  · refine T_0.out.grown ?_
    (repeat (first | exact Below.refl _ _ | refine Below.drew ?_ | refine below_drewN ?_ _ | refine Below.alloc ?_ (by simp <;> omega) _))
  · refine Z_0.out.grown ?_
    (repeat (first | exact Below.refl _ _ | refine Below.drew ?_ | refine below_drewN ?_ _ | refine Below.alloc ?_ (by simp <;> omega) _))
  · (repeat (first | exact Below.refl _ _ | refine Below.drew ?_ | refine below_drewN ?_ _ | refine Below.alloc ?_ (by simp <;> omega) _))
  rintro w1 ⟨k0, k1, k2, k3, k4, k5, k6, k7⟩
  have B4_1 := hid k0
  have B5_1 := hid k1
  have B6_1 := hid k2
  have B7_1 := hid k3
  have B8_1 := hid k4
  have T_1 := hid k5
  have Z_1 := hid k6
  have G_1 := hid k7
  clear k0 k1 k2 k3 k4 k5 k6 k7
  refine wp_region_grow (ob := (fun k => if k = 5 then some (.cells Z0.toArray 82) else if k = 6 then some (.cells Z0.toArray 82) else if k = 7 then some (.cells #[.int .u64 0, .int .u64 0, .int .u64 0, .int .u64 0, .int .u64 0, .int .u64 0, .int .u64 0, .int .u64 0, .int .u64 0, .int .u64 0, .int .u64 0, .int .u64 0, .int .u64 0, .int .u64 0, .int .u64 0, .int .u64 0, .int .u64 0, .int .u64 0, .int .u64 0, .int .u64 0] 32) else none)) (st := (fun k => if k = 8 then some (5, .cells rp.toArray 82) else if k = 9 then some (6, .cells rq.toArray 82) else if k = 10 then some (7, .cells c.toArray 32) else none)) (by kernel_rfl) ?_
  simp only [List.size_toArray, List.length_cons, List.length_nil, Nat.reduceAdd, Array.replicate_succ, Array.replicate_zero, List.push_toArray, List.nil_append, List.cons_append]
  refine g_first 0 _ (.agg p.toArray) rfl rfl rfl (by kernel_rfl) (by kernel_rfl) (by kernel_rfl) ?_ ?_
  · refine Or.inl ⟨by rfl, fun w' hw' => ?_⟩
    exact quiet_load 32 _ rfl _ 0 rfl p _ (at_mid (B5_1.out.below hw') 0 _ (by simp)) Tryd.underlying32 rfl p_h.il
  try simp only [List.getElem_toArray, List.getElem_cons_zero, List.getElem_cons_succ, Act.put, List.setIfInBounds_toArray, List.set_cons_zero, List.set_cons_succ]
  refine g_first 1 _ (.agg rp.toArray) rfl rfl rfl (by kernel_rfl) (by kernel_rfl) (by kernel_rfl) ?_ ?_
  · refine Or.inl ⟨by rfl, fun w' hw' => ?_⟩
    refine quiet_call (by go_simp) (Q1.out _ (T_1.out.grown hw') (Z_1.out.grown hw'))
  try simp only [List.getElem_toArray, List.getElem_cons_zero, List.getElem_cons_succ, Act.put, List.setIfInBounds_toArray, List.set_cons_zero, List.set_cons_succ]
  refine g_first 2 _ (.agg pq.toArray) rfl rfl rfl (by kernel_rfl) (by kernel_rfl) (by kernel_rfl) ?_ ?_
  · refine Or.inl ⟨by rfl, fun w' hw' => ?_⟩
    exact quiet_load 32 _ rfl _ 0 rfl pq _ (at_mid (B7_1.out.below hw') 0 _ (by simp)) Tryd.underlying32 rfl pq_h.il
  try simp only [List.getElem_toArray, List.getElem_cons_zero, List.getElem_cons_succ, Act.put, List.setIfInBounds_toArray, List.set_cons_zero, List.set_cons_succ]
  refine g_first 3 _ (.agg rq.toArray) rfl rfl rfl (by kernel_rfl) (by kernel_rfl) (by kernel_rfl) ?_ ?_
  · refine Or.inl ⟨by rfl, fun w' hw' => ?_⟩
    refine quiet_call (by go_simp) (Q2.out _ (T_1.out.grown hw') (Z_1.out.grown hw'))
  try simp only [List.getElem_toArray, List.getElem_cons_zero, List.getElem_cons_succ, Act.put, List.setIfInBounds_toArray, List.set_cons_zero, List.set_cons_succ]
  refine g_first 4 _ (.agg c.toArray) rfl rfl rfl (by kernel_rfl) (by kernel_rfl) (by kernel_rfl) ?_ ?_
  · refine Or.inl ⟨by rfl, fun w' hw' => ?_⟩
    refine quiet_call (by go_simp) (Q3.out _)
  try simp only [List.getElem_toArray, List.getElem_cons_zero, List.getElem_cons_succ, Act.put, List.setIfInBounds_toArray, List.set_cons_zero, List.set_cons_succ]
  refine g_make 5 _ (.cells Z0.toArray 82) (fun k => (decide (5 ≤ k ∧ k ≤ 7)) || (decide (8 ≤ k ∧ k ≤ 10) && k != 8)) rfl rfl rfl rfl ?_ ?_ (by kernel_rfl) (by kernel_rfl) (by kernel_rfl) (by kernel_rfl) (fun g9 => ?_)
  · intro a w
    go_simp
  · intro j hj
    simp only [Bool.or_eq_true, Bool.and_eq_true, decide_eq_true_eq, bne_iff_ne] at hj
    rcases hj with hj | ⟨hj, hne⟩
    · left
      rcases (show j = 5 ∨ j = 6 ∨ j = 7 by omega) with rfl | rfl | rfl <;> simp
    · right
      rcases (show j = 8 ∨ j = 9 ∨ j = 10 by omega) with rfl | rfl | rfl <;> first | exact ⟨_, _, rfl, by decide⟩ | omega
  try simp only [List.getElem_toArray, List.getElem_cons_zero, List.getElem_cons_succ, Act.put, List.setIfInBounds_toArray, List.set_cons_zero, List.set_cons_succ]
  refine g_make 6 _ (.cells Z0.toArray 82) (fun k => (decide (5 ≤ k ∧ k ≤ 7)) || (decide (8 ≤ k ∧ k ≤ 10) && k != 9)) rfl rfl rfl rfl ?_ ?_ (by kernel_rfl) (by kernel_rfl) (by kernel_rfl) (by kernel_rfl) (fun g10 => ?_)
  · intro a w
    go_simp
  · intro j hj
    simp only [Bool.or_eq_true, Bool.and_eq_true, decide_eq_true_eq, bne_iff_ne] at hj
    rcases hj with hj | ⟨hj, hne⟩
    · left
      rcases (show j = 5 ∨ j = 6 ∨ j = 7 by omega) with rfl | rfl | rfl <;> simp
    · right
      rcases (show j = 8 ∨ j = 9 ∨ j = 10 by omega) with rfl | rfl | rfl <;> first | exact ⟨_, _, rfl, by decide⟩ | omega
  try simp only [List.getElem_toArray, List.getElem_cons_zero, List.getElem_cons_succ, Act.put, List.setIfInBounds_toArray, List.set_cons_zero, List.set_cons_succ]
  refine g_make 7 _ (.cells #[.int .u64 0, .int .u64 0, .int .u64 0, .int .u64 0, .int .u64 0, .int .u64 0, .int .u64 0, .int .u64 0, .int .u64 0, .int .u64 0, .int .u64 0, .int .u64 0, .int .u64 0, .int .u64 0, .int .u64 0, .int .u64 0, .int .u64 0, .int .u64 0, .int .u64 0, .int .u64 0] 32) (fun k => (decide (5 ≤ k ∧ k ≤ 7)) || (decide (8 ≤ k ∧ k ≤ 10) && k != 10)) rfl rfl rfl rfl ?_ ?_ (by kernel_rfl) (by kernel_rfl) (by kernel_rfl) (by kernel_rfl) (fun g11 => ?_)
  · intro a w
    go_simp
  · intro j hj
    simp only [Bool.or_eq_true, Bool.and_eq_true, decide_eq_true_eq, bne_iff_ne] at hj
    rcases hj with hj | ⟨hj, hne⟩
    · left
      rcases (show j = 5 ∨ j = 6 ∨ j = 7 by omega) with rfl | rfl | rfl <;> simp
    · right
      rcases (show j = 8 ∨ j = 9 ∨ j = 10 by omega) with rfl | rfl | rfl <;> first | exact ⟨_, _, rfl, by decide⟩ | omega
  try simp only [List.getElem_toArray, List.getElem_cons_zero, List.getElem_cons_succ, Act.put, List.setIfInBounds_toArray, List.set_cons_zero, List.set_cons_succ]
  refine g_store 8 5 _ (.cells rp.toArray 82) g9 (.cells Z0.toArray 82) (fun k => decide (8 ≤ k ∧ k ≤ 10) && k != 8) rfl rfl rfl rfl ?_ (by kernel_rfl) (by kernel_rfl) (by kernel_rfl) (by kernel_rfl) (by simp [upd]) ?_ ?_
  · intro j hj
    simp only [Bool.and_eq_true, decide_eq_true_eq, bne_iff_ne] at hj
    rcases (show j = 8 ∨ j = 9 ∨ j = 10 by omega) with rfl | rfl | rfl <;> first | exact ⟨_, _, rfl, by decide⟩ | omega
  · exact stores_whole 82 _ _ rfl g9 rp Z0 rfl rfl (rp_h.len.trans Z0_l.out.symm) rp_h.is rp_h.one
  try simp only [List.getElem_toArray, List.getElem_cons_zero, List.getElem_cons_succ, Act.put, List.setIfInBounds_toArray, List.set_cons_zero, List.set_cons_succ]
  refine g_store 9 6 _ (.cells rq.toArray 82) g10 (.cells Z0.toArray 82) (fun k => decide (8 ≤ k ∧ k ≤ 10) && k != 9) rfl rfl rfl rfl ?_ (by kernel_rfl) (by kernel_rfl) (by kernel_rfl) (by kernel_rfl) (by simp [upd]) ?_ ?_
  · intro j hj
    simp only [Bool.and_eq_true, decide_eq_true_eq, bne_iff_ne] at hj
    rcases (show j = 8 ∨ j = 9 ∨ j = 10 by omega) with rfl | rfl | rfl <;> first | exact ⟨_, _, rfl, by decide⟩ | omega
  · exact stores_whole 82 _ _ rfl g10 rq Z0 rfl rfl (rq_h.len.trans Z0_l.out.symm) rq_h.is rq_h.one
  try simp only [List.getElem_toArray, List.getElem_cons_zero, List.getElem_cons_succ, Act.put, List.setIfInBounds_toArray, List.set_cons_zero, List.set_cons_succ]
  refine g_store 10 7 _ (.cells c.toArray 32) g11 (.cells #[.int .u64 0, .int .u64 0, .int .u64 0, .int .u64 0, .int .u64 0, .int .u64 0, .int .u64 0, .int .u64 0, .int .u64 0, .int .u64 0, .int .u64 0, .int .u64 0, .int .u64 0, .int .u64 0, .int .u64 0, .int .u64 0, .int .u64 0, .int .u64 0, .int .u64 0, .int .u64 0] 32) (fun k => decide (8 ≤ k ∧ k ≤ 10) && k != 10) rfl rfl rfl rfl ?_ (by kernel_rfl) (by kernel_rfl) (by kernel_rfl) (by kernel_rfl) (by simp [upd]) ?_ ?_
  · intro j hj
    simp only [Bool.and_eq_true, decide_eq_true_eq, bne_iff_ne] at hj
    rcases (show j = 8 ∨ j = 9 ∨ j = 10 by omega) with rfl | rfl | rfl <;> first | exact ⟨_, _, rfl, by decide⟩ | omega
  · exact stores_whole 32 _ _ rfl g11 c [.int .u64 0, .int .u64 0, .int .u64 0, .int .u64 0, .int .u64 0, .int .u64 0, .int .u64 0, .int .u64 0, .int .u64 0, .int .u64 0, .int .u64 0, .int .u64 0, .int .u64 0, .int .u64 0, .int .u64 0, .int .u64 0, .int .u64 0, .int .u64 0, .int .u64 0, .int .u64 0] rfl rfl c_h.len c_h.is c_h.one
  try simp only [List.getElem_toArray, List.getElem_cons_zero, List.getElem_cons_succ, Act.put, List.setIfInBounds_toArray, List.set_cons_zero, List.set_cons_succ]
  refine ⟨by kernel_rfl, fun w2 hV => ?_⟩
  have own9 := hV.own 5 _ (by simp [upd]; rfl)
  have B9_2 : Hid (At 82 w2 g9 rp) := own9.2.2
  have szB9 : w.heap.size ≤ g9 := by have h1 := own9.1; have h2 := G_1.out.size; dsimp only at h1; omega
  have nlB4B9 : w.heap.size < g9 := by have h1 := own9.1; have h2 := B4_1.out.lt; dsimp only at h1; omega
  have nlB5B9 : (w.heap.size + 1) < g9 := by have h1 := own9.1; have h2 := B5_1.out.lt; dsimp only at h1; omega
  have nlB6B9 : (w.heap.size + 1 + 1) < g9 := by have h1 := own9.1; have h2 := B6_1.out.lt; dsimp only at h1; omega
  have nlB7B9 : (w.heap.size + 1 + 1 + 1) < g9 := by have h1 := own9.1; have h2 := B7_1.out.lt; dsimp only at h1; omega
  have nlB8B9 : (w.heap.size + 1 + 1 + 1 + 1) < g9 := by have h1 := own9.1; have h2 := B8_1.out.lt; dsimp only at h1; omega
  have own10 := hV.own 6 _ (by simp [upd]; rfl)
  have B10_2 : Hid (At 82 w2 g10 rq) := own10.2.2
  have szB10 : w.heap.size ≤ g10 := by have h1 := own10.1; have h2 := G_1.out.size; dsimp only at h1; omega
  have nlB4B10 : w.heap.size < g10 := by have h1 := own10.1; have h2 := B4_1.out.lt; dsimp only at h1; omega
  have nlB5B10 : (w.heap.size + 1) < g10 := by have h1 := own10.1; have h2 := B5_1.out.lt; dsimp only at h1; omega
  have nlB6B10 : (w.heap.size + 1 + 1) < g10 := by have h1 := own10.1; have h2 := B6_1.out.lt; dsimp only at h1; omega
  have nlB7B10 : (w.heap.size + 1 + 1 + 1) < g10 := by have h1 := own10.1; have h2 := B7_1.out.lt; dsimp only at h1; omega
  have nlB8B10 : (w.heap.size + 1 + 1 + 1 + 1) < g10 := by have h1 := own10.1; have h2 := B8_1.out.lt; dsimp only at h1; omega
  have own11 := hV.own 7 _ (by simp [upd]; rfl)
  have B11_2 : Hid (At 32 w2 g11 c) := own11.2.2
  have szB11 : w.heap.size ≤ g11 := by have h1 := own11.1; have h2 := G_1.out.size; dsimp only at h1; omega
  have nlB4B11 : w.heap.size < g11 := by have h1 := own11.1; have h2 := B4_1.out.lt; dsimp only at h1; omega
  have nlB5B11 : (w.heap.size + 1) < g11 := by have h1 := own11.1; have h2 := B5_1.out.lt; dsimp only at h1; omega
  have nlB6B11 : (w.heap.size + 1 + 1) < g11 := by have h1 := own11.1; have h2 := B6_1.out.lt; dsimp only at h1; omega
  have nlB7B11 : (w.heap.size + 1 + 1 + 1) < g11 := by have h1 := own11.1; have h2 := B7_1.out.lt; dsimp only at h1; omega
  have nlB8B11 : (w.heap.size + 1 + 1 + 1 + 1) < g11 := by have h1 := own11.1; have h2 := B8_1.out.lt; dsimp only at h1; omega
  have g := hV.bel
  have B4_2 := hid (B4_1.out.below g)
  have B5_2 := hid (B5_1.out.below g)
  have B6_2 := hid (B6_1.out.below g)
  have B7_2 := hid (B7_1.out.below g)
  have B8_2 := hid (B8_1.out.below g)
  have T_2 := hid (T_1.out.grown g)
  have Z_2 := hid (Z_1.out.grown g)
  have G_2 := hid (G_1.out.trans (g.mono G_1.out.size))
  clear hV g own9 own10 own11 B4_1 B5_1 B6_1 B7_1 B8_1 T_1 Z_1 G_1
  have n9 : g9 ≠ g11 := at_ne B9_2.out B11_2.out (by decide)
  have n10 : g10 ≠ g11 := at_ne B10_2.out B11_2.out (by decide)
  go_wp2_with (first | (refine wpList_load_mid rfl 25 _ rfl w.heap.size 0 rfl ka _ (at_mid B4_2.out 0 _ (by simp)) Tryd.underlying25 rfl ka_h.il ?_) | (refine wpList_load_mid rfl 25 _ rfl (w.heap.size + 1 + 1) 0 rfl kb _ (at_mid B6_2.out 0 _ (by simp)) Tryd.underlying25 rfl kb_h.il ?_) | fail)
  refine (callsIn_wide.1 (hws0.out 5 w2)).mono ?_
  rintro e w5 ⟨rfl, hx, hy, hs, g⟩
  have l11 : g11 < w2.heap.size := B11_2.out.lt
  have l9 : g9 < w2.heap.size := B9_2.out.lt
  have l10 : g10 < w2.heap.size := B10_2.out.lt
  have l8 := B8_2.out.lt
  have H5 := hTl.out g11 w2.heap.size w5 l11 (by omega) hx hy
  have C_5 := hid (B8_2.out.below g)
  have G_5 := hid (G_2.out.trans (g.mono G_2.out.size))
  have R_5 := hid (B9_2.out.below g)
  have U_5 := hid (B10_2.out.below g)
  have S_5 := hid (B11_2.out.below g)
  clear g hx hy B4_2 B5_2 B6_2 B7_2 B8_2 B9_2 B10_2 B11_2 T_2 Z_2 G_2 Q1 Q2 Q3 hws0 hTl
  go_wp2_with fail
  have hmx : Tryd.prog.follows .mixedOrders = true := by kernel_rfl
  obtain ⟨q, hq⟩ : ∃ q, w2.heap.size = q := ⟨_, rfl⟩
  rw [hq] at hs l11 l9 l10 l8 H5 ⊢
  refine (wpIn_wide (n := 5)).1 ?_
  refine wpIn_telling2 (w := w5) (gf := 92) (lb := #[.pointer (some ⟨q, 0, none⟩), .pointer (some ⟨q + 1, 0, none⟩)]) rfl (enters_of Tryd.func92 (by kernel_rfl) rfl)
    H5 (fun _ => rfl) (fun h h' => h.trans h') (fun W o' => KpS.put (by omega) W o')
    (fun pre W => w5.heap.size ≤ W.heap.size ∧ At 32 W g11 (F pre).l ∧ At 82 W g9 rp ∧ At 82 W g10 rq ∧ At 32 W (w.heap.size + 1 + 1 + 1 + 1) [.int .u64 0, .int .u64 0, .int .u64 0, .int .u64 0, .int .u64 0, .int .u64 0, .int .u64 0, .int .u64 0, .int .u64 0, .int .u64 0, .int .u64 0, .int .u64 0, .int .u64 0, .int .u64 0, .int .u64 0, .int .u64 0, .int .u64 0, .int .u64 0, .int .u64 0, .int .u64 0] ∧ Below w.heap.size w W)
    (own_below (fun s W h => h.1) (fun s W W' h hb => ⟨Nat.le_trans h.1 hb.size, at_low h.2.1 hb (by omega), at_low h.2.2.1 hb (by omega), at_low h.2.2.2.1 hb (by omega), at_low h.2.2.2.2.1 hb (by omega), h.2.2.2.2.2.trans (hb.mono (by omega))⟩))
    ⟨Nat.le_refl _, by rw [hc.out]; exact S_5.out, R_5.out, U_5.out, C_5.out, G_5.out⟩
    (fun x => { tmps := #[.agg ka.toArray, .agg p.toArray, .agg kb.toArray, .agg pq.toArray, .pointer (some ⟨w.heap.size, 0, none⟩), .pointer (some ⟨w.heap.size + 1, 0, none⟩), .pointer (some ⟨w.heap.size + 1 + 1, 0, none⟩), .pointer (some ⟨w.heap.size + 1 + 1 + 1, 0, none⟩), .pointer (some ⟨w.heap.size + 1 + 1 + 1 + 1, 0, none⟩), .pointer (some ⟨g9, 0, none⟩), .pointer (some ⟨g10, 0, none⟩), .pointer (some ⟨g11, 0, none⟩), .int .u64 (x.1 : Int), .int .u64 (x.2 : Int), .agg p.toArray, .agg rp.toArray, .agg pq.toArray, .agg rq.toArray, .agg c.toArray, .agg ka.toArray, .agg kb.toArray, .func (.func 92) #[] #[.pointer (some ⟨q, 0, none⟩), .pointer (some ⟨q + 1, 0, none⟩)], .int .u64 (x.1 : Int), .int .u64 (x.2 : Int), undef, undef, undef, undef, undef, undef, undef, undef, undef, undef, undef], defers := [] }) ?assign ?body ?done
  case assign =>
    intro n l x W K hK
    gi_wp2
    exact hK
  case body =>
    rintro n pre d W hW ⟨hW2, hS, hR2, hU2, hC, hG⟩ ⟨hd, hd2⟩
    have Q5d : Hid (∀ w : World, GtwiceD w → Gf w → Calls Tryd.prog 28 #[.agg (A pre d).l.toArray, .agg (f2 d.2).l.toArray] w fun e w' => e = .returned (.agg (F (pre ++ [d])).l.toArray) ∧ Below w.heap.size w w') := fun w => Q6.out pre d w
    have Q4d : Hid (∀ w : World, GtwiceD w → Gf w → Calls Tryd.prog 28 #[.agg (G pre).l.toArray, .agg (f d.1).l.toArray] w fun e w' => e = .returned (.agg (A pre d).l.toArray) ∧ Below w.heap.size w w') := fun w => Q5.out pre d w
    have Q3d : Hid (∀ w : World, Gf w → Calls Tryd.prog 53 #[.agg (F pre).l.toArray] w fun e w' => e = .returned (.agg (G pre).l.toArray) ∧ Below w.heap.size w w') := fun w => Q4.out pre w
    have hmid : Hid ((rp.drop (d.1 * 20)).take 20 = (f d.1).l) := rp_m.out d.1 hd
    have hmid2 : Hid ((rq.drop (d.2 * 20)).take 20 = (f2 d.2).l) := rq_m.out d.2 hd2
    have s_h : Pl (F pre).l := (F pre).pl
    have m_h : Pl (f d.1).l := (f d.1).pl
    have m2_h : Pl (f2 d.2).l := (f2 d.2).pl
    have n_h : Pl (F (pre ++ [d])).l := (F (pre ++ [d])).pl
    obtain ⟨s, hs1⟩ : ∃ s, (F pre).l = s := ⟨_, rfl⟩
    obtain ⟨g, hg1⟩ : ∃ g, (G pre).l = g := ⟨_, rfl⟩
    obtain ⟨m, hm1⟩ : ∃ m, (f d.1).l = m := ⟨_, rfl⟩
    obtain ⟨m2, hm2⟩ : ∃ m, (f2 d.2).l = m := ⟨_, rfl⟩
    obtain ⟨mid, hmd⟩ : ∃ m, (A pre d).l = m := ⟨_, rfl⟩
    obtain ⟨t, ht1⟩ : ∃ t, Hid ((F (pre ++ [d])).l = t) := ⟨_, rfl⟩
    rw [hs1] at hS Q3d s_h
    rw [hg1] at Q3d Q4d
    rw [hm1] at hmid Q4d m_h
    rw [hm2] at hmid2 Q5d m2_h
    rw [hmd] at Q4d Q5d
    rw [ht1.out] at Q5d n_h
    obtain ⟨dn, hdn⟩ : ∃ n, d.1 = n := ⟨_, rfl⟩
    obtain ⟨en, hen⟩ : ∃ n, d.2 = n := ⟨_, rfl⟩
    rw [hdn] at hd hmid
    rw [hen] at hd2 hmid2
    rw [hdn, hen]
    have hd' : (dn : Int) < 16 := by omega
    have hd2' : (en : Int) < 16 := by omega
    have S_6 := hid hS
    have R_6 := hid hR2
    have U_6 := hid hU2
    have C_6 := hid hC
    have G_6 := hid hG
    have T_6 := hid (T_0.out.grown hG)
    have Z_6 := hid (Z_0.out.grown hG)
    have T_7 := hid (T_6.out.grown (Below.refl _ W).drew)
    have Z_7 := hid (Z_6.out.grown (Below.refl _ W).drew)
    have HW := hid hW
    have K0 : At 32 W.drew g11 s ∧ At 82 W.drew g9 rp ∧ At 82 W.drew g10 rq := ⟨hS.drew, hR2.drew, hU2.drew⟩
    clear hW hW2 hS hR2 hU2 hC hG hs1 hg1 hm1 hm2 hmd hdn hen Q4 Q5 Q6 S_5 R_5 U_5 C_5 G_5 H5
    gi_wp2
    refine wpIn_region_late (L := 10) (S := fun w' => At 32 w' g11 s ∧ At 82 w' g9 rp ∧ At 82 w' g10 rq) hmx (nodefer_of (by simp)) (by rintro ⟨a, w, h⟩; exact h) K0 (fun hHeld => ?_)
    clear K0
    refine l_take 0 (v := .agg s.toArray) rfl (by kernel_rfl) (by kernel_rfl) (by kernel_rfl) (by kernel_rfl) (fun _ _ _ h => h) (by rfl) ?hy0 (by assumption) ?_
    case hy0 =>
      intro w' hSw
      exact load_run 32 _ rfl _ 0 rfl s _ (at_mid hSw.1 0 _ (by simp)) Tryd.underlying32 rfl s_h.il
    try simp only [Act.put, List.setIfInBounds_toArray, List.set_cons_zero, List.set_cons_succ]
    refine l_take 2 (v := .int .u64 (dn : Int)) rfl (by kernel_rfl) (by kernel_rfl) (by kernel_rfl) (by kernel_rfl) (fun _ _ _ h => h) (by rfl) ?hy2 (by assumption) ?_
    case hy2 =>
      intro w' hSw
      clear hSw
      go_simp
    try simp only [Act.put, List.setIfInBounds_toArray, List.set_cons_zero, List.set_cons_succ]
    refine l_take 3 (v := .pointer (some ⟨g9, dn * 20, none⟩)) rfl (by kernel_rfl) (by kernel_rfl) (by kernel_rfl) (by kernel_rfl) (fun _ _ _ h => h) (by rfl) ?hy3 (by assumption) ?_
    case hy3 =>
      intro w' hSw
      clear hSw
      go_simp
    try simp only [Act.put, List.setIfInBounds_toArray, List.set_cons_zero, List.set_cons_succ]
    refine l_take 4 (v := .agg m.toArray) rfl (by kernel_rfl) (by kernel_rfl) (by kernel_rfl) (by kernel_rfl) (fun _ _ _ h => h) (by rfl) ?hy4 (by assumption) ?_
    case hy4 =>
      intro w' hSw
      exact load_run 32 _ rfl g9 (dn * 20) rfl m _ (at_mid hSw.2.1 (dn * 20) _ (by rw [m_h.len]; exact hmid.out)) Tryd.underlying32 rfl m_h.il
    try simp only [Act.put, List.setIfInBounds_toArray, List.set_cons_zero, List.set_cons_succ]
    refine l_take 6 (v := .int .u64 (en : Int)) rfl (by kernel_rfl) (by kernel_rfl) (by kernel_rfl) (by kernel_rfl) (fun _ _ _ h => h) (by rfl) ?hy6 (by assumption) ?_
    case hy6 =>
      intro w' hSw
      clear hSw
      go_simp
    try simp only [Act.put, List.setIfInBounds_toArray, List.set_cons_zero, List.set_cons_succ]
    refine l_take 7 (v := .pointer (some ⟨g10, en * 20, none⟩)) rfl (by kernel_rfl) (by kernel_rfl) (by kernel_rfl) (by kernel_rfl) (fun _ _ _ h => h) (by rfl) ?hy7 (by assumption) ?_
    case hy7 =>
      intro w' hSw
      clear hSw
      go_simp
    try simp only [Act.put, List.setIfInBounds_toArray, List.set_cons_zero, List.set_cons_succ]
    refine l_take 8 (v := .agg m2.toArray) rfl (by kernel_rfl) (by kernel_rfl) (by kernel_rfl) (by kernel_rfl) (fun _ _ _ h => h) (by rfl) ?hy8 (by assumption) ?_
    case hy8 =>
      intro w' hSw
      exact load_run 32 _ rfl g10 (en * 20) rfl m2 _ (at_mid hSw.2.2 (en * 20) _ (by rw [m2_h.len]; exact hmid2.out)) Tryd.underlying32 rfl m2_h.il
    try simp only [Act.put, List.setIfInBounds_toArray, List.set_cons_zero, List.set_cons_succ]
    refine l_call 1 rfl (by kernel_rfl) (by rfl) (fun Kk hK => ?_)
    go_simp
    refine (Q3d.out _ Z_7.out).mono ?_
    rintro e w8 ⟨rfl, g0⟩
    have gg : Below W.heap.size W w8 := (Below.refl _ W).drew.trans g0
    have S_8 := hid (S_6.out.below gg)
    have R_8 := hid (R_6.out.below gg)
    have U_8 := hid (U_6.out.below gg)
    have C_8 := hid (C_6.out.below gg)
    have G_8 := hid (G_6.out.trans (gg.mono G_6.out.size))
    have T_8 := hid (T_6.out.grown gg)
    have Z_8 := hid (Z_6.out.grown gg)
    have B_8 := hid gg
    clear g0 gg T_7 Z_7
    have K8 := And.intro S_8.out (And.intro R_8.out U_8.out)
    clear hHeld
    refine hK.out _ _ (Or.inr K8) ?_
    have hHeld := K8
    clear hK Kk K8
    try simp only [Act.put, List.setIfInBounds_toArray, List.set_cons_zero, List.set_cons_succ]
    refine l_call 5 rfl (by kernel_rfl) (by rfl) (fun Kk hK => ?_)
    go_simp
    refine (Q4d.out _ T_8.out Z_8.out).mono ?_
    rintro e w9 ⟨rfl, g0⟩
    have gg := g0
    have S_9 := hid (S_8.out.below gg)
    have R_9 := hid (R_8.out.below gg)
    have U_9 := hid (U_8.out.below gg)
    have C_9 := hid (C_8.out.below gg)
    have G_9 := hid (G_8.out.trans (gg.mono G_8.out.size))
    have T_9 := hid (T_8.out.grown gg)
    have Z_9 := hid (Z_8.out.grown gg)
    have B_9 := hid (B_8.out.trans (gg.mono B_8.out.size))
    clear g0 gg S_8 R_8 U_8 C_8 G_8 T_8 Z_8 B_8
    have K8 := And.intro S_9.out (And.intro R_9.out U_9.out)
    clear hHeld
    refine hK.out _ _ (Or.inr K8) ?_
    have hHeld := K8
    clear hK Kk K8
    try simp only [Act.put, List.setIfInBounds_toArray, List.set_cons_zero, List.set_cons_succ]
    refine l_call 9 rfl (by kernel_rfl) (by rfl) (fun Kk hK => ?_)
    go_simp
    refine (Q5d.out _ T_9.out Z_9.out).mono ?_
    rintro e w10 ⟨rfl, g0⟩
    have gg := g0
    have S_10 := hid (S_9.out.below gg)
    have R_10 := hid (R_9.out.below gg)
    have U_10 := hid (U_9.out.below gg)
    have C_10 := hid (C_9.out.below gg)
    have G_10 := hid (G_9.out.trans (gg.mono G_9.out.size))
    have T_10 := hid (T_9.out.grown gg)
    have Z_10 := hid (Z_9.out.grown gg)
    have B_10 := hid (B_9.out.trans (gg.mono B_9.out.size))
    clear g0 gg S_9 R_9 U_9 C_9 G_9 T_9 Z_9 B_9
    have K8 := And.intro S_10.out (And.intro R_10.out U_10.out)
    clear hHeld
    refine hK.out _ _ (Or.inr K8) ?_
    have hHeld := K8
    clear hK Kk K8
    try simp only [Act.put, List.setIfInBounds_toArray, List.set_cons_zero, List.set_cons_succ]
    refine l_call 10 rfl (by kernel_rfl) (by rfl) (fun Kk hK => ?_)
    refine store_oth 32 _ _ rfl g11 t s rfl rfl S_10.out (n_h.len.trans s_h.len.symm) n_h.is n_h.one (fun V hV hO => ?_)
    refine hK.out _ _ (Or.inl rfl) ?_
    clear hK Kk hHeld
    try simp only [Act.put, List.setIfInBounds_toArray, List.set_cons_zero, List.set_cons_succ]
    refine l_done (by kernel_rfl) ?_ _
    have hsz := HW.out
    have hlt := R_10.out.lt
    have hb9 := B_10.out.size
    have E1 : Hid (V.heap[w5.heap.size]? = W.heap[w5.heap.size]?) := (hO.other _ (by omega) (by omega)).trans (B_10.out.block _ (by omega))
    have E2 : Hid (V.heap[w5.heap.size + 1]? = W.heap[w5.heap.size + 1]?) := (hO.other _ (by omega) (by omega)).trans (B_10.out.block _ (by omega))
    have E3 : Hid (KpS g11 (w5.heap.size + 1) W V) := ⟨(B_10.out.mono (by omega)).trans (below_oth hO (Nat.le_refl _) (by omega)), fun j o h1 h2 h3 => by
      have hj := (Array.getElem?_eq_some_iff.1 h3).1
      exact (hO.other j (by omega) (by omega)).trans ((B_10.out.block j hj).trans h3)⟩
    have E4 : Hid (w5.heap.size ≤ V.heap.size ∧ At 32 V g11 (F (pre ++ [d])).l ∧ At 82 V g9 rp ∧ At 82 V g10 rq ∧ At 32 V (w.heap.size + 1 + 1 + 1 + 1) [.int .u64 0, .int .u64 0, .int .u64 0, .int .u64 0, .int .u64 0, .int .u64 0, .int .u64 0, .int .u64 0, .int .u64 0, .int .u64 0, .int .u64 0, .int .u64 0, .int .u64 0, .int .u64 0, .int .u64 0, .int .u64 0, .int .u64 0, .int .u64 0, .int .u64 0, .int .u64 0] ∧ Below w.heap.size w V) :=
      ⟨by have := hO.size; omega, by rw [ht1.out]; exact hV, hO.at R_10.out n9, hO.at U_10.out n10, hO.at C_10.out (by omega), Oth.bel G_10.out hO (by omega)⟩
    clear hsz hlt hb9 S_6 R_6 U_6 C_6 G_6 T_6 Z_6 S_10 R_10 U_10 C_10 G_10 B_10 T_10 Z_10 hV hO hmid hmid2
    simp only [noPanic]
    gi_wp2
    exact ⟨⟨E1.out, E2.out⟩, E3.out, E4.out⟩
  case done =>
    rintro xs W rfl ⟨hW2, hS, hR2, hU2, hC, hG⟩ hD
    have s_h : Pl (F (tk x y 64)).l := (F (tk x y 64)).pl
    obtain ⟨s, hs1⟩ : ∃ s, Hid ((F (tk x y 64)).l = s) := ⟨_, rfl⟩
    rw [hs1.out] at hS s_h
    have S_6 := hid hS
    have C_6 := hid hC
    have G_6 := hid hG
    have D_6 := hid hD
    clear hW2 hS hR2 hU2 hC hG hD Q4 Q5 Q6 S_5 R_5 U_5 C_5 G_5 H5
    go_wp2_with (first | refine wpList_load_mid rfl 32 _ rfl g11 0 rfl s _ (at_mid S_6.out 0 _ (by simp)) Tryd.underlying32 rfl s_h.il ?_ | refine list_store_oth rfl 32 _ _ rfl (w.heap.size + 1 + 1 + 1 + 1) s [.int .u64 0, .int .u64 0, .int .u64 0, .int .u64 0, .int .u64 0, .int .u64 0, .int .u64 0, .int .u64 0, .int .u64 0, .int .u64 0, .int .u64 0, .int .u64 0, .int .u64 0, .int .u64 0, .int .u64 0, .int .u64 0, .int .u64 0, .int .u64 0, .int .u64 0, .int .u64 0] rfl rfl C_6.out s_h.len s_h.is s_h.one (fun V hC hO => ?_) | fail)
    have hlt := (Array.getElem?_eq_some_iff.1 D_6.out).1
    have HDV : V.heap[w5.heap.size]? = some (.deferred (some [])) := (hO.other _ hlt (by omega)).trans D_6.out
    have HC2 : ∀ o', At 32 (V.putObj w5.heap.size o') (w.heap.size + 1 + 1 + 1 + 1) s := fun o' => (World.putObj_heap_other (by omega)).trans hC
    refine ⟨by simp, .inl ⟨_, _, rfl, run_takeDeferred HDV, ?_⟩⟩
    exact ⟨.agg s.toArray, results_mid (Tryd.results21) _ _ (w.heap.size + 1 + 1 + 1 + 1) 0 s _ rfl (HC2 _).range Tryd.underlying32 rfl s_h.il, by rw [hs1.out], (Oth.bel G_6.out hO (by omega)).trans (belowK_b (w := w) (Nat.le_refl _) _ w5.heap.size _ _ (by omega) HDV rfl rfl)⟩
theorem both_pt (p pq : P4) (P Q : Pt) (hp : p.Is P) (hq : pq.Is Q) (x y : Nat) (hx : x < M4) (hy : y < M4) : ∃ c : P4, c.Is ((Pt.mul x P).add (Pt.mul y Q)) ∧ ∀ w : World, GtwiceD w → Gf w → Calls Tryd.prog 21 #[.agg (wv (ws x)).toArray, .agg p.l.toArray, .agg (wv (ws y)).toArray, .agg pq.l.toArray] w fun e w' => e = .returned (.agg c.l.toArray) ∧ Below w.heap.size w w' := by
  obtain ⟨f, hf, q1⟩ := multiples_p p P hp
  obtain ⟨f2, hf2, q2⟩ := multiples_p pq Q hq
  obtain ⟨F, G, A, hF, q3, q4, q5, q6⟩ := both_p P Q f f2 hf hf2
  have hx2 : x < 16 ^ 64 := Nat.lt_of_lt_of_le hx (by decide +kernel)
  have hy2 : y < 16 ^ 64 := Nat.lt_of_lt_of_le hy (by decide +kernel)
  refine ⟨F (tk x y 64), ?_, fun w hT hZ => both_w f f2 F G A p.l pq.l p.pl pq.pl x y q1 q2 q3 q4 q5 q6 w hT hZ⟩
  have h := hF (tk x y 64)
  obtain ⟨h1, h2⟩ := va_tk x y hx2 hy2
  rwa [h1, h2] at h
end Go.Proofs.YtedhfimjcpbcpaaDoor.Ed

/-
  The program's Order, Base and Pure of layer 11: the walk, given what each call answers. Conditions: as each theorem says.
-/
namespace Go.Proofs.YtedhfimjcpbcpaaDoor.Ed
open Go.RowKit
set_option linter.unusedVariables false
set_option linter.unusedSimpArgs false

theorem order_words : wv (ws L25) = [.int .u64 6346243789798364141, .int .u64 1503914060200516822, .int .u64 0, .int .u64 1152921504606846976] := by
  have h : ws L25 = [6346243789798364141, 1503914060200516822, 0, 1152921504606846976] := by decide +kernel
  rw [wv, h]
  rfl
theorem order_any (w : World) : Calls Tryd.prog 15 #[] w fun e w' => e = .returned (.agg (wv (ws L25)).toArray) ∧ Below w.heap.size w w' := by
  rw [order_words]
  go_enter Tryd.func15, Tryd.ntmps15
  go_wp2
  exact bodyPost_ret (v := .agg #[.int .u64 6346243789798364141, .int .u64 1503914060200516822, .int .u64 0, .int .u64 1152921504606846976]) (results_mid (Tryd.results15) _ _ w.heap.size 0 [.int .u64 6346243789798364141, .int .u64 1503914060200516822, .int .u64 0, .int .u64 1152921504606846976] _ rfl (at_new2 25 w _ _ rfl).range Tryd.underlying25 rfl (by kernel_rfl)) rfl ⟨rfl, (Below.refl _ _).alloc (Nat.le_refl _) _⟩
set_option maxRecDepth 100000 in
set_option maxHeartbeats 16000000 in
theorem baseK_w (k b c : List Value) (k_h : Wl k) (b_h : Pl b) (c_h : Pl c) 
    (Q1 : Hid (∀ w : World, GbaseX w → GbaseY w → Calls Tryd.prog 25 #[] w fun e w' => e = .returned (.agg b.toArray) ∧ Below w.heap.size w w'))
    (Q2 : Hid (∀ w : World, GtwiceD w → Gf w → Calls Tryd.prog 9 #[.agg k.toArray, .agg b.toArray] w fun e w' => e = .returned (.agg c.toArray) ∧ Below w.heap.size w w'))
    (w : World) (U_0 : Hid (GbaseX w)) (V_0 : Hid (GbaseY w)) (T_0 : Hid (GtwiceD w)) (Z_0 : Hid (Gf w)) :
    Calls Tryd.prog 31 #[.agg k.toArray] w fun e w' => e = .returned (.agg c.toArray) ∧ Below w.heap.size w w' := by
  go_enter Tryd.func31, Tryd.ntmps31
  go_upto_region 1 with fail
  have HU := U_0.out.lt
  have HV := V_0.out.lt
  have HT := T_0.out.lt
  have HZ := Z_0.out.lt
  refine wp_cut (fun V => At 25 V w.heap.size k ∧ At 32 V (w.heap.size + 1) [.int .u64 0, .int .u64 0, .int .u64 0, .int .u64 0, .int .u64 0, .int .u64 0, .int .u64 0, .int .u64 0, .int .u64 0, .int .u64 0, .int .u64 0, .int .u64 0, .int .u64 0, .int .u64 0, .int .u64 0, .int .u64 0, .int .u64 0, .int .u64 0, .int .u64 0, .int .u64 0] ∧ GbaseX V ∧ GbaseY V ∧ GtwiceD V ∧ Gf V ∧ Below w.heap.size w V) ⟨?_, ?_, ?_, ?_, ?_, ?_, ?_⟩ ?_
  · (repeat (first | refine At.drew ?_ | refine At.drewN ?_ _ | (refine at_new2 _ _ _ _ ?_; simp; done) | refine at_alloc ?_ _))
  · (repeat (first | refine At.drew ?_ | refine At.drewN ?_ _ | (refine at_new2 _ _ _ _ ?_; simp; done) | refine at_alloc ?_ _))
  · refine U_0.out.grown ?_
    (repeat (first | exact Below.refl _ _ | refine Below.drew ?_ | refine below_drewN ?_ _ | refine Below.alloc ?_ (by simp <;> omega) _))
  · refine V_0.out.grown ?_
    (repeat (first | exact Below.refl _ _ | refine Below.drew ?_ | refine below_drewN ?_ _ | refine Below.alloc ?_ (by simp <;> omega) _))
  · refine T_0.out.grown ?_
    (repeat (first | exact Below.refl _ _ | refine Below.drew ?_ | refine below_drewN ?_ _ | refine Below.alloc ?_ (by simp <;> omega) _))
  · refine Z_0.out.grown ?_
    (repeat (first | exact Below.refl _ _ | refine Below.drew ?_ | refine below_drewN ?_ _ | refine Below.alloc ?_ (by simp <;> omega) _))
  · (repeat (first | exact Below.refl _ _ | refine Below.drew ?_ | refine below_drewN ?_ _ | refine Below.alloc ?_ (by simp <;> omega) _))
  rintro w1 ⟨k0, k1, k2, k3, k4, k5, k6⟩
  have B1_1 := hid k0
  have B2_1 := hid k1
  have U_1 := hid k2
  have V_1 := hid k3
  have T_1 := hid k4
  have Z_1 := hid k5
  have G_1 := hid k6
  clear k0 k1 k2 k3 k4 k5 k6 U_0 V_0 T_0 Z_0
  have U_1' := hid (U_1.out.grown (Below.refl _ w1).drew)
  have V_1' := hid (V_1.out.grown (Below.refl _ w1).drew)
  have T_1' := hid (T_1.out.grown (Below.refl _ w1).drew)
  have Z_1' := hid (Z_1.out.grown (Below.refl _ w1).drew)
  have K1 : At 25 w1.drew w.heap.size k := B1_1.out.drew
  refine wp_region_late (L := 3) (S := fun w' => At 25 w' w.heap.size k) (by kernel_rfl) K1 (fun hHeld => ?_)
  clear K1
  refine l_take 0 (v := .agg k.toArray) rfl (by kernel_rfl) (by kernel_rfl) (by kernel_rfl) (by kernel_rfl) (fun _ _ _ h => h) (by rfl) ?hyr0_0 (by assumption) ?_
  case hyr0_0 =>
    intro w' hSw
    exact load_run 25 _ rfl _ 0 rfl k _ (at_mid hSw 0 _ (by simp)) Tryd.underlying25 rfl k_h.il
  try simp only [Act.put, List.setIfInBounds_toArray, List.set_cons_zero, List.set_cons_succ]
  refine l_call 1 rfl (by kernel_rfl) (by rfl) (fun Kk hK => ?_)
  go_simp
  (refine (Q1.out _ U_1'.out V_1'.out).mono ?_)
  rintro e w2 ⟨rfl, g0⟩
  have g : Below w1.heap.size w1 w2 := (Below.refl _ w1).drew.trans g0
  clear g0
  have B1_2 := hid (B1_1.out.below g)
  have B2_2 := hid (B2_1.out.below g)
  have U_2 := hid (U_1.out.grown g)
  have V_2 := hid (V_1.out.grown g)
  have T_2 := hid (T_1.out.grown g)
  have Z_2 := hid (Z_1.out.grown g)
  have G_2 := hid (G_1.out.trans (g.mono G_1.out.size))
  clear g B1_1 B2_1 U_1 V_1 T_1 Z_1 G_1
  clear U_1' V_1' T_1' Z_1'
  have K2 := B1_2.out
  clear hHeld
  refine hK.out _ _ (Or.inr K2) ?_
  have hHeld := K2
  clear hK Kk K2
  try simp only [Act.put, List.setIfInBounds_toArray, List.set_cons_zero, List.set_cons_succ]
  refine l_call 2 rfl (by kernel_rfl) (by rfl) (fun Kk hK => ?_)
  go_simp
  (refine (Q2.out _ T_2.out Z_2.out).mono ?_)
  rintro e w3 ⟨rfl, g0⟩
  have g := g0
  clear g0
  have B1_3 := hid (B1_2.out.below g)
  have B2_3 := hid (B2_2.out.below g)
  have U_3 := hid (U_2.out.grown g)
  have V_3 := hid (V_2.out.grown g)
  have T_3 := hid (T_2.out.grown g)
  have Z_3 := hid (Z_2.out.grown g)
  have G_3 := hid (G_2.out.trans (g.mono G_2.out.size))
  clear g B1_2 B2_2 U_2 V_2 T_2 Z_2 G_2
  have K3 := B1_3.out
  clear hHeld
  refine hK.out _ _ (Or.inr K3) ?_
  have hHeld := K3
  clear hK Kk K3
  try simp only [Act.put, List.setIfInBounds_toArray, List.set_cons_zero, List.set_cons_succ]
  refine l_call 3 rfl (by kernel_rfl) (by rfl) (fun Kk hK => ?_)
  refine store_whole 32 _ _ rfl (w.heap.size + 1) c _ rfl rfl B2_3.out c_h.len c_h.is c_h.one w.heap.size w G_3.out (by omega) (fun F hC hB => ?_)
  refine hK.out _ _ (Or.inl rfl) ?_
  clear hK Kk
  try simp only [Act.put, List.setIfInBounds_toArray, List.set_cons_zero, List.set_cons_succ]
  refine l_done (by kernel_rfl) ?_ _
  go_wp2_with fail
  exact bodyPost_ret (v := .agg c.toArray) (results_mid (Tryd.results31) _ F (w.heap.size + 1) 0 c _ rfl hC.range Tryd.underlying32 rfl c_h.il) rfl ⟨rfl, hB⟩
set_option maxRecDepth 100000 in
set_option maxHeartbeats 16000000 in
theorem pure_w (p k m z : List Value) (p_h : Pl p) (k_h : Wl k) (m_h : Pl m) (z_h : Pl z) (tb : Bool)
    (Q1 : Hid (∀ w : World, Calls Tryd.prog 15 #[] w fun e w' => e = .returned (.agg k.toArray) ∧ Below w.heap.size w w'))
    (Q2 : Hid (∀ w : World, GtwiceD w → Gf w → Calls Tryd.prog 9 #[.agg k.toArray, .agg p.toArray] w fun e w' => e = .returned (.agg m.toArray) ∧ Below w.heap.size w w'))
    (Q3 : Hid (∀ w : World, Calls Tryd.prog 33 #[] w fun e w' => e = .returned (.agg z.toArray) ∧ Below w.heap.size w w'))
    (Q4 : Hid (∀ w : World, Calls Tryd.prog 18 #[.agg m.toArray, .agg z.toArray] w fun e w' => e = .returned (.bool tb) ∧ Below w.heap.size w w'))
    (w : World) (T_0 : Hid (GtwiceD w)) (Z_0 : Hid (Gf w)) :
    Calls Tryd.prog 22 #[.agg p.toArray] w fun e w' => e = .returned (.bool tb) ∧ Below w.heap.size w w' := by
  go_enter Tryd.func22, Tryd.ntmps22
  go_upto_region 1 with fail
  have HT := T_0.out.lt
  have HZ := Z_0.out.lt
  refine wp_cut (fun V => At 32 V w.heap.size p ∧ GtwiceD V ∧ Gf V ∧ Below w.heap.size w V) ⟨?_, ?_, ?_, ?_⟩ ?_
  · (repeat (first | refine At.drew ?_ | refine At.drewN ?_ _ | (refine at_new2 _ _ _ _ ?_; simp; done) | refine at_alloc ?_ _))
  · refine T_0.out.grown ?_
    (repeat (first | exact Below.refl _ _ | refine Below.drew ?_ | refine below_drewN ?_ _ | refine Below.alloc ?_ (by simp <;> omega) _))
  · refine Z_0.out.grown ?_
    (repeat (first | exact Below.refl _ _ | refine Below.drew ?_ | refine below_drewN ?_ _ | refine Below.alloc ?_ (by simp <;> omega) _))
  · (repeat (first | exact Below.refl _ _ | refine Below.drew ?_ | refine below_drewN ?_ _ | refine Below.alloc ?_ (by simp <;> omega) _))
  rintro w1 ⟨k0, k1, k2, k3⟩
  have B1_1 := hid k0
  have T_1 := hid k1
  have Z_1 := hid k2
  have G_1 := hid k3
  clear k0 k1 k2 k3 T_0 Z_0
  have T_1' := hid (T_1.out.grown (Below.refl _ w1).drew)
  have Z_1' := hid (Z_1.out.grown (Below.refl _ w1).drew)
  have K1 : At 32 w1.drew w.heap.size p := B1_1.out.drew
  refine wp_region_held_drew (S := fun w' => At 32 w' w.heap.size p) (by kernel_rfl) K1 (fun hHeld => ?_)
  clear K1
  refine h_take 1 (v := .agg p.toArray) rfl (by kernel_rfl) (by kernel_rfl) (by kernel_rfl) (fun _ _ _ h => h) (by rfl) ?hyr0_1 (by assumption) ?_
  case hyr0_1 =>
    intro w' hSw
    exact load_run 32 _ rfl _ 0 rfl p _ (at_mid hSw 0 _ (by simp)) Tryd.underlying32 rfl p_h.il
  try simp only [Act.put, List.setIfInBounds_toArray, List.set_cons_zero, List.set_cons_succ]
  refine h_call 0 rfl (by kernel_rfl) (by rfl) (fun Kk hK => ?_)
  go_simp
  (refine (Q1.out _).mono ?_)
  rintro e w2 ⟨rfl, g0⟩
  have g : Below w1.heap.size w1 w2 := (Below.refl _ w1).drew.trans g0
  clear g0
  have B1_2 := hid (B1_1.out.below g)
  have T_2 := hid (T_1.out.grown g)
  have Z_2 := hid (Z_1.out.grown g)
  have G_2 := hid (G_1.out.trans (g.mono G_1.out.size))
  clear g B1_1 T_1 Z_1 G_1
  clear T_1' Z_1'
  have K2 := B1_2.out
  go_wp2_with fail
  clear hHeld
  refine hK.out _ _ K2 (fun hHeld => ?_)
  clear hK Kk K2
  try simp only [Act.put, List.setIfInBounds_toArray, List.set_cons_zero, List.set_cons_succ]
  refine h_call 2 rfl (by kernel_rfl) (by rfl) (fun Kk hK => ?_)
  go_simp
  (refine (Q2.out _ T_2.out Z_2.out).mono ?_)
  rintro e w3 ⟨rfl, g0⟩
  have g := g0
  clear g0
  have B1_3 := hid (B1_2.out.below g)
  have T_3 := hid (T_2.out.grown g)
  have Z_3 := hid (Z_2.out.grown g)
  have G_3 := hid (G_2.out.trans (g.mono G_2.out.size))
  clear g B1_2 T_2 Z_2 G_2
  have K3 := B1_3.out
  go_wp2_with fail
  clear hHeld
  refine hK.out _ _ K3 (fun hHeld => ?_)
  clear hK Kk K3
  try simp only [Act.put, List.setIfInBounds_toArray, List.set_cons_zero, List.set_cons_succ]
  refine h_call 3 rfl (by kernel_rfl) (by rfl) (fun Kk hK => ?_)
  go_simp
  (refine (Q3.out _).mono ?_)
  rintro e w4 ⟨rfl, g0⟩
  have g := g0
  clear g0
  have B1_4 := hid (B1_3.out.below g)
  have T_4 := hid (T_3.out.grown g)
  have Z_4 := hid (Z_3.out.grown g)
  have G_4 := hid (G_3.out.trans (g.mono G_3.out.size))
  clear g B1_3 T_3 Z_3 G_3
  have K4 := B1_4.out
  go_wp2_with fail
  clear hHeld
  refine hK.out _ _ K4 (fun hHeld => ?_)
  clear hK Kk K4
  try simp only [Act.put, List.setIfInBounds_toArray, List.set_cons_zero, List.set_cons_succ]
  refine h_call 4 rfl (by kernel_rfl) (by rfl) (fun Kk hK => ?_)
  go_simp
  (refine (Q4.out _).mono ?_)
  rintro e w5 ⟨rfl, g0⟩
  have g := g0
  clear g0
  have B1_5 := hid (B1_4.out.below g)
  have T_5 := hid (T_4.out.grown g)
  have Z_5 := hid (Z_4.out.grown g)
  have G_5 := hid (G_4.out.trans (g.mono G_4.out.size))
  clear g B1_4 T_4 Z_4 G_4
  have K5 := B1_5.out
  go_wp2_with fail
  clear hHeld
  refine hK.out _ _ K5 (fun hHeld => ?_)
  clear hK Kk K5
  try simp only [Act.put, List.setIfInBounds_toArray, List.set_cons_zero, List.set_cons_succ]
  refine h_take 5 (v := .bool tb) rfl (by kernel_rfl) (by kernel_rfl) (by kernel_rfl) (fun _ _ _ h => h) (by rfl) ?hyr0_5 (by assumption) ?_
  case hyr0_5 =>
    intro w' hSw
    clear hSw
    go_simp
  try simp only [Act.put, List.setIfInBounds_toArray, List.set_cons_zero, List.set_cons_succ]
  refine wpAnyH_done (by kernel_rfl) ?_ _
  clear hHeld
  go_wp2_with fail
  go_ret
  exact ⟨rfl, G_5.out⟩
theorem L25_lt : L25 < M4 := by decide +kernel
theorem baseK_p (x : Nat) (hx : x < M4) : ∃ c : P4, c.Is (Pt.mul x baseP) ∧ ∀ w : World, GbaseX w → GbaseY w → GtwiceD w → Gf w → Calls Tryd.prog 31 #[.agg (wv (ws x)).toArray] w fun e w' => e = .returned (.agg c.l.toArray) ∧ Below w.heap.size w w' := by
  obtain ⟨b, hb, q1⟩ := base_p
  obtain ⟨c, hc, q2⟩ := mul_p b baseP hb x hx
  exact ⟨c, hc, fun w hU hV hT hZ => baseK_w _ b.l c.l (ws_wl x) b.pl c.pl q1 q2 w hU hV hT hZ⟩
theorem pure_p (p : P4) (P : Pt) (hp : p.Is P) : ∃ b : Bool, (b = true ↔ Pt.mul L25 P = Pt.zero) ∧ ∀ w : World, GtwiceD w → Gf w → Calls Tryd.prog 22 #[.agg p.l.toArray] w fun e w' => e = .returned (.bool b) ∧ Below w.heap.size w w' := by
  obtain ⟨m, hm, q2⟩ := mul_p p P hp L25 L25_lt
  obtain ⟨z, hz, q3⟩ := zero_p
  obtain ⟨b, hb, q4⟩ := same_p m z _ _ hm hz
  exact ⟨b, hb, fun w hT hZ => pure_w p.l _ m.l z.l p.pl (ws_wl L25) m.pl z.pl b order_any q2 q3 q4 w hT hZ⟩
end Go.Proofs.YtedhfimjcpbcpaaDoor.Ed

/-
  The contracts of the document's own layer 10: the curve's number, and which pairs lie on the curve. Conditions: as each theorem says.
-/
namespace Go.Proofs.YtedhfimjcpbcpaaDoor.Ed
open Go.RowKit
set_option linter.unusedVariables false

theorem hold {P : Prop} (h : P) : Hid P := h
theorem lt11 {a : Nat} (h : a < P25) : a < 16777216 ^ 11 := Nat.lt_trans h P25_lt11
theorem mod_lt11 (a : Nat) : a % P25 < 16777216 ^ 11 := lt11_of_mod a
theorem mod_P (a : Nat) : a % P25 < P25 := Nat.mod_lt _ (by decide +kernel)
theorem D25_val (q : Nat) (hq : q = 121666) : (0 + P25 - 121665 * (q ^ (P25 - 2) % P25) % P25) % P25 = D25 := by
  have h : q ^ (P25 - 2) % P25 = pm 255 q (P25 - 2) P25 % P25 := (pm_eq P25 255 q _ (by decide +kernel)).symm
  rw [h, hq]
  decide +kernel
set_option maxRecDepth 100000 in
set_option maxHeartbeats 2000000 in
theorem dD_num  (w : World) :
    Calls Tryd.prog 20 #[] w fun e w' => ∃ v, e = .returned v ∧ Num w' v (D25) ∧ Below w.heap.size w w' := by
  obtain ⟨q, hq⟩ : ∃ q : Nat, Hid (q = 121666) := ⟨121666, rfl⟩
  have K1 : Hid (∀ W, Calls Tryd.prog 64 #[.int .i64 121665] W fun e w' => ∃ v, e = .returned v ∧ Num w' v 121665 ∧ Below W.heap.size W w') := fun W => int_any 121665 (by omega) W
  have K2 : Hid (∀ W, Calls Tryd.prog 64 #[.int .i64 121666] W fun e w' => ∃ v, e = .returned v ∧ Num w' v q ∧ Below W.heap.size W w') := fun W => by rw [hq.out]; exact int_any 121666 (by omega) W
  have hql : q < 16777216 ^ 11 := by rw [hq.out]; decide +kernel
  have Q : Hid (q < 16777216 ^ 11) := hql
  have E : Hid ((0 + P25 - 121665 * (q ^ (P25 - 2) % P25) % P25) % P25 = D25) := D25_val q hq.out
  have K3 : Hid (∀ v W, Num W v q → Calls Tryd.prog 67 #[v] W fun e w' => ∃ v, e = .returned v ∧ Num w' v (q ^ (P25 - 2) % P25) ∧ Below W.heap.size W w') := fun v W h => invD_num4 q v W h Q.out
  have M3 : Hid (q ^ (P25 - 2) % P25 < 16777216 ^ 11) := mod_lt11 _
  rw [← E.out]
  clear hql E
  generalize q ^ (P25 - 2) % P25 = r at *
  go_enter Tryd.func20, Tryd.ntmps20
  go_wp2_with fail
  refine (K1.out _).mono ?_
  rintro e w1 ⟨v, rfl, hn, g⟩
  obtain ⟨Aa, Ac, Ad, rfl⟩ := hn.shape
  have A_1 : Hid (Num w1 (.slice Aa Ac Ad) (121665)) := hn
  have G_1 : Hid (Below w.heap.size w w1) := g
  clear  hn g
  go_wp2_with fail
  refine (K2.out _).mono ?_
  rintro e w2 ⟨v, rfl, hn, g⟩
  obtain ⟨Ba, Bc, Bd, rfl⟩ := hn.shape
  have B_2 : Hid (Num w2 (.slice Ba Bc Bd) (q)) := hn
  have A_2 := hold (A_1.out.below g)
  have G_2 := hold (G_1.out.trans (g.mono G_1.out.size))
  clear A_1 G_1 hn g
  go_wp2_with fail
  refine (K3.out _ _ B_2.out).mono ?_
  rintro e w3 ⟨v, rfl, hn, g⟩
  obtain ⟨Ca, Cc, Cd, rfl⟩ := hn.shape
  have C_3 : Hid (Num w3 (.slice Ca Cc Cd) (r)) := hn
  have A_3 := hold (A_2.out.below g)
  have G_3 := hold (G_2.out.trans (g.mono G_2.out.size))
  clear A_2 B_2 G_2 hn g
  go_wp2_with fail
  refine (mulD_num 121665 r _ _ _ A_3.out C_3.out (by decide +kernel) M3.out).mono ?_
  rintro e w4 ⟨v, rfl, hn, g⟩
  obtain ⟨Ea, Ec, Ed, rfl⟩ := hn.shape
  have E_4 : Hid (Num w4 (.slice Ea Ec Ed) (121665 * r % P25)) := hn
  have G_4 := hold (G_3.out.trans (g.mono G_3.out.size))
  clear A_3 C_3 G_3 hn g
  go_wp2_with fail
  refine (subD_num 0 (121665 * r % P25) _ _ _ (num_none _) E_4.out (by decide +kernel) (by have := mod_P (121665 * r); omega)).mono ?_
  rintro e w5 ⟨v, rfl, hn, g⟩
  obtain ⟨Fa, Fc, Fd, rfl⟩ := hn.shape
  have F_5 : Hid (Num w5 (.slice Fa Fc Fd) ((0 + P25 - 121665 * r % P25) % P25)) := hn
  have G_5 := hold (G_4.out.trans (g.mono G_4.out.size))
  clear E_4 G_4 hn g
  go_wp2_with fail
  go_ret
  exact ⟨_, rfl, F_5.out, G_5.out⟩

end Go.Proofs.YtedhfimjcpbcpaaDoor.Ed

/-
  The contracts of the document's own Pair of layer 10. Conditions: as each theorem says.
-/
namespace Go.Proofs.YtedhfimjcpbcpaaDoor.Ed
open Go.RowKit
set_option linter.unusedVariables false
set_option linter.unusedSimpArgs false

end Go.Proofs.YtedhfimjcpbcpaaDoor.Ed

/-
  The contracts of the document's own Add of layer 10. Conditions: as each theorem says.
-/
namespace Go.Proofs.YtedhfimjcpbcpaaDoor.Ed
open Go.RowKit
set_option linter.unusedVariables false
set_option linter.unusedSimpArgs false

theorem _root_.Go.Proofs.YtedhfimjcpbcpaaDoor.Num.oth10 {b : Nat} {w W : World} {v : Value} {N : Nat} (h : Num w v N) (ho : Oth b w W) (hv : Off b v) : Num W v N := by
  obtain ⟨l, h1, h2, h3, h4⟩ := h
  exact ⟨l, SK.oth (k := .i64) h1 ho hv, h2, h3, h4⟩
/-- A number's digits don't lie in a block that holds none. -/
theorem off_none {T : TypeId} {W : World} {b : Nat} {L : List Value} (hA : At T W b L) (hL : ∀ v ∈ L, ∀ z, v ≠ .int .i64 z) {v : Value} {N : Nat} (h : Num W v N) : Off b v := by
  intro a n c e hn x hx hb
  obtain ⟨l, h1, -, -, -⟩ := h
  have hs : SK .i64 W v l := h1
  rw [e] at hs
  obtain ⟨b', o, e2, -, -, hcell⟩ := hs.at (by omega)
  rw [e2] at hx
  cases hx
  simp only at hb
  subst hb
  have h0 := hcell 0 (by omega)
  rw [hA.cell] at h0
  exact hL _ (List.mem_of_getElem? h0) _ rfl
theorem no_ints (a b c : Option Addr) (n1 n2 n3 c1 c2 c3 : Nat) (t : Bool) : ∀ v ∈ [Value.slice a n1 c1, .slice b n2 c2, .slice c n3 c3, .bool t], ∀ z, v ≠ .int .i64 z := by
  intro v hv z
  simp only [List.mem_cons, List.not_mem_nil, or_false] at hv
  rcases hv with rfl | rfl | rfl | rfl <;> simp

end Go.Proofs.YtedhfimjcpbcpaaDoor.Ed

/-
  The contracts of the document's own Add, Neg, Bytes of layer 10, of points of the curve. Conditions: as each theorem says.
-/
namespace Go.Proofs.YtedhfimjcpbcpaaDoor.Ed
open Go.RowKit
set_option linter.unusedVariables false
set_option linter.unusedSimpArgs false

/-- The value leads to numbers that stand for the point. -/
def Pm (W : World) (v : Value) (p : Pt) : Prop := ∃ vx vy vz X Y Z, v = .agg #[vx, vy, vz, .bool true] ∧ Num W vx X ∧ Num W vy Y ∧ Num W vz Z ∧ Rp X Y Z p
theorem Pm.below {W W' : World} {v : Value} {p : Pt} (h : Pm W v p) (hb : Below W.heap.size W W') : Pm W' v p := by
  obtain ⟨vx, vy, vz, X, Y, Z, e, h1, h2, h3, h4⟩ := h
  exact ⟨vx, vy, vz, X, Y, Z, e, h1.below hb, h2.below hb, h3.below hb, h4⟩
end Go.Proofs.YtedhfimjcpbcpaaDoor.Ed

/-
  The contracts of the document's own Same of layer 10. Conditions: as each theorem says.
-/
namespace Go.Proofs.YtedhfimjcpbcpaaDoor.Ed
open Go.RowKit
set_option linter.unusedVariables false
set_option linter.unusedSimpArgs false

end Go.Proofs.YtedhfimjcpbcpaaDoor.Ed

/-
  The contracts of the document's own Same and Bytes of layer 10, of points of the curve. Conditions: as each theorem says.
-/
namespace Go.Proofs.YtedhfimjcpbcpaaDoor.Ed
open Go.RowKit
set_option linter.unusedVariables false
set_option linter.unusedSimpArgs false

end Go.Proofs.YtedhfimjcpbcpaaDoor.Ed

/-
  The contracts of the document's own Of of layer 10: bytes as points. Conditions: as each theorem says.
-/
namespace Go.Proofs.YtedhfimjcpbcpaaDoor.Ed
open Go.RowKit
set_option linter.unusedVariables false
set_option linter.unusedSimpArgs false

set_option maxRecDepth 100000 in
set_option maxHeartbeats 8000000 in
theorem of_yes (l : List Nat) (hb : Bb l) (hlen : l.length = 32) (N y a m U V : Nat) (hN : hvN (turn l) 32 = N) (hN2 : N < 2 ^ 256) (hsg : N / 2 ^ 255 % 2 = 0) (hy : y = N) (hyP : y < P25) (q_a : y * y % P25 = a) (q_u : (a + P25 - 1) % P25 = U) (q_m : D25 * a % P25 = m) (q_v : (m + 1) % P25 = V) (hok : ratOk U V = true) (v : Value) (w : World) (hs : SK .u8 w v l) :
    Calls Tryd.prog 8 #[v] w fun e w' => ∃ v1 v2 v3, e = .returned (.agg #[v1, v2, v3, .bool true]) ∧ Num w' v1 (ratN U V) ∧ Num w' v2 y ∧ Num w' v3 1 ∧ Below w.heap.size w w' := by
  obtain ⟨la, lc, hle⟩ := hs.shape
  subst hle
  have HS : Hid (SK .u8 w (.slice la l.length lc) l) := hs
  have HBl : Hid (Bb l) := hb
  obtain ⟨w0, hw0⟩ : ∃ V, Hid ((w.alloc (.cells #[.slice none 0 0, .slice none 0 0, .slice none 0 0, .bool false] 37)) = V) := ⟨_, rfl⟩
  have G_0 : Hid (Below w.heap.size w w0) := by unfold Hid; rw [← hw0.out]; exact (Below.refl _ _).alloc (Nat.le_refl _) _
  have C_0 : Hid (At 37 w0 w.heap.size [.slice none 0 0, .slice none 0 0, .slice none 0 0, .bool false]) := by unfold Hid; rw [← hw0.out]; exact at_new 37 w [.slice none 0 0, .slice none 0 0, .slice none 0 0, .bool false]
  obtain ⟨ln, hln⟩ : ∃ n, Hid (l.length = n) := ⟨_, rfl⟩
  rw [hln.out] at HS hlen ⊢
  obtain rfl : ln = 32 := hlen
  have kL : Hid (∀ W, Below w.heap.size w W → Calls Tryd.prog 41 #[.slice la 32 lc] W fun e w' => ∃ v, e = .returned v ∧ Num w' v N ∧ Below W.heap.size W w') := fun W hW => by
    have h := littleN_any l HBl.out _ W (HS.out.below hW) (by rw [hln.out]; omega)
    rw [hln.out, hN] at h
    exact h
  have LN : Hid (N < 16777216 ^ 22) := Nat.lt_trans hN2 (by decide +kernel)
  have E_y : Hid (y = N ) := hy
  have HSg : Hid (N / 2 ^ 255 % 2 = 0) := hsg
  have L_y : Hid (y < P25) := hyP
  have E_a : Hid (y * y % P25 = a) := q_a
  have E_u : Hid ((a + P25 - 1) % P25 = U) := q_u
  have E_m : Hid (D25 * a % P25 = m) := q_m
  have E_v : Hid ((m + 1) % P25 = V) := q_v
  have L_a : Hid (a < P25) := by rw [← q_a]; exact mod_P _
  have L_u : Hid (U < P25) := by rw [← q_u]; exact mod_P _
  have L_m : Hid (m < P25) := by rw [← q_m]; exact mod_P _
  have L_v : Hid (V < P25) := by rw [← q_v]; exact mod_P _
  clear hs hb hN hN2 hy hsg hyP q_a q_u q_m q_v
  go_enter Tryd.func8, Tryd.ntmps8
  go_upto_region 1 with fail
  rw [hw0.out]
  clear hw0
  go_wp2_with fail
  refine (kL.out _ G_0.out).mono ?_
  rintro e w1 ⟨v, rfl, hn, g⟩
  obtain ⟨Ba, Bc, Bd, rfl⟩ := hn.shape
  have B_1 : Hid (Num w1 (.slice Ba Bc Bd) (N)) := hn
  have C_1 := hold (C_0.out.below g)
  have G_1 := hold (G_0.out.trans (g.mono G_0.out.size))
  clear C_0 G_0 hn g
  have kB : Hid (Calls Tryd.prog 42 #[.slice Ba Bc Bd, .int .i64 255] w1 fun e w' => e = .returned (.int .i64 ((N / 2 ^ 255 % 2 : Nat) : Int)) ∧ Below w1.heap.size w1 w') := bit_num N _ 255 w1 B_1.out 22 LN.out (by omega) (by omega)
  rw [HSg.out] at kB
  go_wp2_with fail
  refine (kB.out).mono ?_
  rintro e w2 ⟨rfl, g⟩
  have C_2 := hold (C_1.out.below g)
  have B_2 := hold (B_1.out.below g)
  have G_2 := hold (G_1.out.trans (g.mono G_1.out.size))
  clear C_1 B_1 G_1 g
  clear kB kL
  have Q_2 : Hid (Num w2 (.slice Ba Bc Bd) y) := by rw [E_y.out]; exact B_2.out
  clear B_2
  have LY : Hid (y < 16777216 ^ 22) := by rw [E_y.out]; exact Nat.lt_of_le_of_lt (Nat.le_refl _) LN.out
  go_wp2_with fail
  refine (pD_num _).mono ?_
  rintro e w3 ⟨v, rfl, hn, g⟩
  obtain ⟨Ra, Rc, Rd, rfl⟩ := hn.shape
  have R_3 : Hid (Num w3 (.slice Ra Rc Rd) (P25)) := hn
  have C_3 := hold (C_2.out.below g)
  have Q_3 := hold (Q_2.out.below g)
  have G_3 := hold (G_2.out.trans (g.mono G_2.out.size))
  clear C_2 Q_2 G_2 hn g
  have hc : ord (y : Int) (P25 : Int) = -1 := by have := L_y.out; unfold ord; rw [if_pos (by omega)]
  go_wp2_with fail
  refine (cmp_num y P25 _ _ _ Q_3.out R_3.out 22 LY.out P25_lt22 (by omega)).mono ?_
  rintro e w4 ⟨rfl, g⟩
  have C_4 := hold (C_3.out.below g)
  have Q_4 := hold (Q_3.out.below g)
  have G_4 := hold (G_3.out.trans (g.mono G_3.out.size))
  clear C_3 Q_3 R_3 G_3 g
  rw [hc]
  have kM : Hid (∀ (A B C : Nat) v v' W, A < P25 → B < P25 → A * B % P25 = C → Num W v A → Num W v' B → Calls Tryd.prog 47 #[v, v'] W fun e w' => ∃ u, e = .returned u ∧ Num w' u C ∧ Below W.heap.size W w') := fun A B C v v' W h1 h2 h3 h4 h5 => by rw [← h3]; exact mulD_num A B v v' W h4 h5 (lt11 h1) (lt11 h2)
  go_wp2_with fail
  refine (kM.out y y a _ _ _ L_y.out L_y.out E_a.out Q_4.out Q_4.out).mono ?_
  rintro e w5 ⟨v, rfl, hn, g⟩
  obtain ⟨Aa, Ac, Ad, rfl⟩ := hn.shape
  have A_5 : Hid (Num w5 (.slice Aa Ac Ad) (a)) := hn
  have C_5 := hold (C_4.out.below g)
  have Q_5 := hold (Q_4.out.below g)
  have G_5 := hold (G_4.out.trans (g.mono G_4.out.size))
  clear C_4 Q_4 G_4 hn g
  go_wp2_with fail
  refine calls_at (fun V => At 37 V w.heap.size [.slice none 0 0, .slice none 0 0, .slice none 0 0, .bool false] ∧ Num V (.slice Ba Bc Bd) y ∧ Num V (.slice Aa Ac Ad) (a) ∧ Num V (.slice (some ⟨w5.heap.size, 0, none⟩) 1 1) 1 ∧ Below w.heap.size w V) ⟨C_5.out.below ((Below.refl _ _).alloc (Nat.le_refl _) _), Q_5.out.below ((Below.refl _ _).alloc (Nat.le_refl _) _), A_5.out.below ((Below.refl _ _).alloc (Nat.le_refl _) _), num_lit w5 1 (by omega) (by omega), G_5.out.alloc G_5.out.size _⟩ ?_
  rintro w6 ⟨k0, k1, k2, k3, hG⟩
  have C_6 : Hid (At 37 w6 w.heap.size [.slice none 0 0, .slice none 0 0, .slice none 0 0, .bool false]) := k0
  have Q_6 : Hid (Num w6 (.slice Ba Bc Bd) y) := k1
  have A_6 : Hid (Num w6 (.slice Aa Ac Ad) (a)) := k2
  have L_6 : Hid (Num w6 (.slice (some ⟨w5.heap.size, 0, none⟩) 1 1) 1) := k3
  have G_6 : Hid (Below w.heap.size w w6) := hG
  clear C_5 Q_5 A_5 G_5 hG k0 k1 k2 k3
  have kU : Hid (∀ v v' W, Num W v a → Num W v' 1 → Calls Tryd.prog 49 #[v, v'] W fun e w' => ∃ u, e = .returned u ∧ Num w' u U ∧ Below W.heap.size W w') := fun v v' W h1 h2 => by rw [← E_u.out]; exact subD_num a 1 v v' W h1 h2 (lt11 L_a.out) (by have : 1 ≤ P25 := (by decide +kernel); omega)
  refine (kU.out _ _ _ A_6.out L_6.out).mono ?_
  rintro e w7 ⟨v, rfl, hn, g⟩
  obtain ⟨U_a, U_c, U_d, rfl⟩ := hn.shape
  have U__7 : Hid (Num w7 (.slice U_a U_c U_d) (U)) := hn
  have C_7 := hold (C_6.out.below g)
  have Q_7 := hold (Q_6.out.below g)
  have A_7 := hold (A_6.out.below g)
  have G_7 := hold (G_6.out.trans (g.mono G_6.out.size))
  clear C_6 Q_6 A_6 L_6 G_6 hn g
  go_wp2_with fail
  refine (dD_num _).mono ?_
  rintro e w8 ⟨v, rfl, hn, g⟩
  obtain ⟨Ha, Hc, Hd, rfl⟩ := hn.shape
  have H_8 : Hid (Num w8 (.slice Ha Hc Hd) (D25)) := hn
  have C_8 := hold (C_7.out.below g)
  have Q_8 := hold (Q_7.out.below g)
  have A_8 := hold (A_7.out.below g)
  have U__8 := hold (U__7.out.below g)
  have G_8 := hold (G_7.out.trans (g.mono G_7.out.size))
  clear C_7 Q_7 A_7 U__7 G_7 hn g
  go_wp2_with fail
  refine (kM.out D25 a m _ _ _ (by decide +kernel) L_a.out E_m.out H_8.out A_8.out).mono ?_
  rintro e w9 ⟨v, rfl, hn, g⟩
  obtain ⟨Ma, Mc, Md, rfl⟩ := hn.shape
  have M_9 : Hid (Num w9 (.slice Ma Mc Md) (m)) := hn
  have C_9 := hold (C_8.out.below g)
  have Q_9 := hold (Q_8.out.below g)
  have U__9 := hold (U__8.out.below g)
  have G_9 := hold (G_8.out.trans (g.mono G_8.out.size))
  clear C_8 Q_8 A_8 U__8 H_8 G_8 hn g
  go_wp2_with fail
  refine calls_at (fun V => At 37 V w.heap.size [.slice none 0 0, .slice none 0 0, .slice none 0 0, .bool false] ∧ Num V (.slice Ba Bc Bd) y ∧ Num V (.slice U_a U_c U_d) (U) ∧ Num V (.slice Ma Mc Md) (m) ∧ Num V (.slice (some ⟨w9.heap.size, 0, none⟩) 1 1) 1 ∧ Below w.heap.size w V) ⟨C_9.out.below ((Below.refl _ _).alloc (Nat.le_refl _) _), Q_9.out.below ((Below.refl _ _).alloc (Nat.le_refl _) _), U__9.out.below ((Below.refl _ _).alloc (Nat.le_refl _) _), M_9.out.below ((Below.refl _ _).alloc (Nat.le_refl _) _), num_lit w9 1 (by omega) (by omega), G_9.out.alloc G_9.out.size _⟩ ?_
  rintro w10 ⟨k0, k1, k2, k3, k4, hG⟩
  have C_10 : Hid (At 37 w10 w.heap.size [.slice none 0 0, .slice none 0 0, .slice none 0 0, .bool false]) := k0
  have Q_10 : Hid (Num w10 (.slice Ba Bc Bd) y) := k1
  have U__10 : Hid (Num w10 (.slice U_a U_c U_d) (U)) := k2
  have M_10 : Hid (Num w10 (.slice Ma Mc Md) (m)) := k3
  have L_10 : Hid (Num w10 (.slice (some ⟨w9.heap.size, 0, none⟩) 1 1) 1) := k4
  have G_10 : Hid (Below w.heap.size w w10) := hG
  clear C_9 Q_9 U__9 M_9 G_9 hG k0 k1 k2 k3 k4
  have kV : Hid (∀ v v' W, Num W v m → Num W v' 1 → Calls Tryd.prog 50 #[v, v'] W fun e w' => ∃ u, e = .returned u ∧ Num w' u V ∧ Below W.heap.size W w') := fun v v' W h1 h2 => by rw [← E_v.out]; exact addD_num m 1 v v' W h1 h2 (lt11 L_m.out) (by decide +kernel)
  refine (kV.out _ _ _ M_10.out L_10.out).mono ?_
  rintro e w11 ⟨v, rfl, hn, g⟩
  obtain ⟨V_a, V_c, V_d, rfl⟩ := hn.shape
  have V__11 : Hid (Num w11 (.slice V_a V_c V_d) (V)) := hn
  have C_11 := hold (C_10.out.below g)
  have Q_11 := hold (Q_10.out.below g)
  have U__11 := hold (U__10.out.below g)
  have G_11 := hold (G_10.out.trans (g.mono G_10.out.size))
  clear C_10 Q_10 U__10 M_10 L_10 G_10 hn g
  have kR := ratioD_num U V _ _ w11 U__11.out V__11.out L_u.out L_v.out
  rw [hok] at kR
  go_wp2_with fail
  refine kR.mono ?_
  clear kR
  rintro e w12 ⟨v, rfl, hn, g⟩
  have len0 := num_len0 hn
  obtain ⟨Xa, Xc, Xd, rfl⟩ := hn.shape
  have len1 := len0 _ _ _ rfl
  clear len0
  have X_12 : Hid (Num w12 (.slice Xa Xc Xd) (ratN U V)) := hn
  have C_12 := hold (C_11.out.below g)
  have Q_12 := hold (Q_11.out.below g)
  have G_12 := hold (G_11.out.trans (g.mono G_11.out.size))
  clear C_11 Q_11 G_11 hn g U__11 V__11
  clear len1
  have gl : Below w12.heap.size w12 (w12.alloc (.cells #[.int .i64 1] 3)) := (Below.refl _ _).alloc (Nat.le_refl _) _
  have C_13 := hold (C_12.out.below gl)
  have X_13 := hold (X_12.out.below gl)
  have Q_13 := hold (Q_12.out.below gl)
  have G_13 := hold (G_12.out.trans (gl.mono G_12.out.size))
  have O_13 : Hid (Num (w12.alloc (.cells #[.int .i64 1] 3)) (.slice (some ⟨w12.heap.size, 0, none⟩) 1 1) 1) := num_lit w12 1 (by omega) (by omega)
  clear gl
  have r0 := C_13.out.cell 0
  have r1 := C_13.out.cell 1
  have r2 := C_13.out.cell 2
  have r3 := C_13.out.cell 3
  simp only [List.getElem?_cons_zero, List.getElem?_cons_succ] at r0 r1 r2 r3
  have s0 := C_13.out.free 0
  have s1 := C_13.out.free 1
  have s2 := C_13.out.free 2
  have s3 := C_13.out.free 3
  go_wp2_with fail
  clear r0 r1 r2 r3 s0 s1 s2 s3
  obtain ⟨wZ, hwZ⟩ : ∃ V, Hid ((w12.alloc (.cells #[.int .i64 1] 3)) = V) := ⟨_, rfl⟩
  rw [hwZ.out] at C_13 X_13 Q_13 G_13 O_13 ⊢
  have o1 : Off w.heap.size (.slice Xa Xc Xd) := off_none C_13.out (no_ints _ _ _ _ _ _ _ _ _ _) X_13.out
  have o2 : Off w.heap.size (.slice Ba Bc Bd) := off_none C_13.out (no_ints _ _ _ _ _ _ _ _ _ _) Q_13.out
  have o3 : Off w.heap.size (.slice (some ⟨w12.heap.size, 0, none⟩) 1 1) := off_none C_13.out (no_ints _ _ _ _ _ _ _ _ _ _) O_13.out
  have hF := ((((Oth.refl w.heap.size wZ).set 0 (.slice Xa Xc Xd)).set 1 (.slice Ba Bc Bd)).set 2 (.slice (some ⟨w12.heap.size, 0, none⟩) 1 1)).set 3 (.bool true)
  refine body_cut' (fun F => At 37 F w.heap.size [.slice Xa Xc Xd, .slice Ba Bc Bd, .slice (some ⟨w12.heap.size, 0, none⟩) 1 1, .bool true] ∧ Num F (.slice Xa Xc Xd) (ratN U V) ∧ Num F (.slice Ba Bc Bd) y ∧ Num F (.slice (some ⟨w12.heap.size, 0, none⟩) 1 1) 1 ∧ Below w.heap.size w F)
    ⟨(((C_13.out.set 0 _).set 1 _).set 2 _).set 3 _, X_13.out.oth10 hF o1, Q_13.out.oth10 hF o2, O_13.out.oth10 hF o3, Oth.bel G_13.out hF (Nat.le_refl _)⟩ ?_
  rintro F ⟨hC, h1, h2, h3, hB⟩
  exact bodyPost_ret (v := .agg #[.slice Xa Xc Xd, .slice Ba Bc Bd, .slice (some ⟨w12.heap.size, 0, none⟩) 1 1, .bool true]) (results_mid (Tryd.results8) _ F w.heap.size 0 [.slice Xa Xc Xd, .slice Ba Bc Bd, .slice (some ⟨w12.heap.size, 0, none⟩) 1 1, .bool true] _ rfl hC.range Tryd.underlying37 rfl (by kernel_rfl)) rfl ⟨_, _, _, rfl, h1, h2, h3, hB⟩

end Go.Proofs.YtedhfimjcpbcpaaDoor.Ed

/-
  The document's Of of layer 10 at the level of points: the bytes of a point are that point, and any other bytes are none. Conditions: as each theorem says.
-/
namespace Go.Proofs.YtedhfimjcpbcpaaDoor.Ed
open Go.RowKit
set_option linter.unusedVariables false
set_option linter.unusedSimpArgs false

end Go.Proofs.YtedhfimjcpbcpaaDoor.Ed

/-
  The document's own base of layer 10 is a point of the curve, with the numbers that are known. Conditions: as each theorem says.
-/
namespace Go.Proofs.YtedhfimjcpbcpaaDoor.Ed
open Go.RowKit
set_option linter.unusedVariables false
set_option linter.unusedSimpArgs false

end Go.Proofs.YtedhfimjcpbcpaaDoor.Ed

/-
  The document's points as lists of cells that nobody looks into. Conditions: as each theorem says.
-/
namespace Go.Proofs.YtedhfimjcpbcpaaDoor.Ed
open Go.RowKit
set_option linter.unusedVariables false
set_option linter.unusedSimpArgs false

/-- A list of cells that fills a point of the document. -/
structure Rl (L : List Value) : Prop where
  len : L.length = 4
  one : L.toArray.all (·.oneCell') = true
theorem Rl.il {L : List Value} (h : Rl L) : (Tryd.prog.info? 37).map (·.size) = some L.length := by rw [h.len]; kernel_rfl
theorem Rl.is {L : List Value} (h : Rl L) : (Tryd.prog.info? 37).map (·.size) = some L.toArray.size := by rw [List.size_toArray]; exact h.il
end Go.Proofs.YtedhfimjcpbcpaaDoor.Ed

/-
  The law's is of layer 10: a point of the program against one of the document: the walk, given what each call answers. Conditions: as each theorem says.
-/
namespace Go.Proofs.YtedhfimjcpbcpaaDoor.Ed
open Go.RowKit
set_option linter.unusedVariables false
set_option linter.unusedSimpArgs false

end Go.Proofs.YtedhfimjcpbcpaaDoor.Ed

/-
  A region that draws its order, in which calls make memory whose place nobody knows: what is known of their answers is a fact that later worlds keep; new variables may be made at any time between them; stores into these come last. One walk in the order of the text serves every order. Conditions: as the theorems say.
-/
namespace Go.Proofs.YtedhfimjcpbcpaaDoor
open Go.RowKit
set_option linter.unusedVariables false

/-- A row of cells without numbers of the kind i64. -/
def Bare (o : Obj) : Prop := ∃ (t : TypeId) (L : List Value), o = .cells L.toArray t ∧ ∀ v ∈ L, ∀ z, v ≠ .int .i64 z
/-- So of every later world, too, though such rows turn. -/
structure Steady (Φ : World → Prop) : Prop where
  below : ∀ w w', Φ w → Below w.heap.size w w' → Φ w'
  turned : ∀ w w' g old obj, Φ w → w.heap[g]? = some old → Bare old → Turned w w' g obj → Φ w'
theorem Steady.and {Φ Ψ : World → Prop} (h : Steady Φ) (k : Steady Ψ) : Steady (fun w => Φ w ∧ Ψ w) :=
  ⟨fun w w' hw hb => ⟨h.below w w' hw.1 hb, k.below w w' hw.2 hb⟩, fun w w' g old obj hw h1 h2 h3 => ⟨h.turned w w' g old obj hw.1 h1 h2 h3, k.turned w w' g old obj hw.2 h1 h2 h3⟩⟩

section
variable {P : Program} {ops : Array Oper} {md : Region.Mode} {base : World} {ob : Nat → Option Obj} {st : Nat → Option (Nat × Obj)} {Q : Exit → Act → World → Prop}

/-- The operation is a call whose answer is told by Ψ. -/
def MemCall (P : Program) (o : Oper) (a : Act) (w : World) (Ψ : Value → World → Prop) (χ : Value → Prop) : Prop :=
  ∃ f args, (execOp a.eval o).run P w = .ok (.enter f args) w ∧ Calls P f args w fun e w'' => ∃ v, e = .returned v ∧ χ v ∧ Ψ v w'' ∧ Below w.heap.size w w''
theorem MemCall.keep {o : Oper} {a : Act} {d : Option Tmp} {u : Value} {w : World} {Ψ : Value → World → Prop} {χ : Value → Prop} (hs : ∀ cs b, o.op ≠ .select cs b) (h3 : ∀ t, d = some t → t ∉ o.looksAt ops) (hy : MemCall P o a w Ψ χ) : MemCall P o (a.put d u) w Ψ χ := by
  unfold MemCall at *
  rw [execOp_put o hs a d u h3]
  exact hy
theorem MemCall.back {o : Oper} {a : Act} {d : Option Tmp} {u : Value} {w : World} {Ψ : Value → World → Prop} {χ : Value → Prop} (hs : ∀ cs b, o.op ≠ .select cs b) (h3 : ∀ t, d = some t → t ∉ o.looksAt ops) (hy : MemCall P o (a.put d u) w Ψ χ) : MemCall P o a w Ψ χ := by
  unfold MemCall at *
  rw [execOp_put o hs a d u h3] at hy
  exact hy
end
end Go.Proofs.YtedhfimjcpbcpaaDoor

/-
  What is known of the document's points is kept by later worlds, though rows without numbers turn. Conditions: as each theorem says.
-/
namespace Go.Proofs.YtedhfimjcpbcpaaDoor.Ed
open Go.RowKit
set_option linter.unusedVariables false
set_option linter.unusedSimpArgs false

/-- The package's variables, all of them. -/
structure Env (W : World) : Prop where
  d : Gd W
  t : GtwiceD W
  u : GbaseX W
  v : GbaseY W
  z : Gl W
theorem Env.grown {W W' : World} (h : Env W) (hb : Below W.heap.size W W') : Env W' := ⟨h.d.grown hb, h.t.grown hb, h.u.grown hb, h.v.grown hb, h.z.grown hb⟩
theorem Env.lt {W : World} (h : Env W) : 0 < W.heap.size := Nat.lt_of_le_of_lt (Nat.zero_le _) h.z.lt
/-- Cells without numbers. -/
structure Nl (L : List Value) : Prop where
  no : ∀ v ∈ L, ∀ z, v ≠ .int .i64 z
end Go.Proofs.YtedhfimjcpbcpaaDoor.Ed

/-
  The law's awake of layer 11: the walk, given what each call answers. Conditions: as each theorem says.
-/
namespace Go.Proofs.YtedhfimjcpbcpaaDoor.Ed
open Go.RowKit
set_option linter.unusedVariables false
set_option linter.unusedSimpArgs false

set_option maxRecDepth 100000 in
set_option maxHeartbeats 16000000 in
theorem awake11_w (b t3 d t3b mz z : List Value) (b_h : Pl b) (t3_h : Pl t3) (d_h : Pl d) (t3b_h : Pl t3b) (mz_h : Pl mz) (z_h : Pl z) 
    (Q1 : Hid (∀ w : World, Env w → Calls Tryd.prog 25 #[] w fun e w' => e = .returned (.agg b.toArray) ∧ Below w.heap.size w w'))
    (Q2 : Hid (∀ w : World, Env w → Calls Tryd.prog 31 #[.agg #[.int .u64 3, .int .u64 0, .int .u64 0, .int .u64 0]] w fun e w' => e = .returned (.agg t3.toArray) ∧ Below w.heap.size w w'))
    (Q3 : Hid (∀ w : World, Env w → Calls Tryd.prog 34 #[.agg b.toArray] w fun e w' => e = .returned (.agg d.toArray) ∧ Below w.heap.size w w'))
    (Q4 : Hid (∀ w : World, Env w → Calls Tryd.prog 28 #[.agg d.toArray, .agg b.toArray] w fun e w' => e = .returned (.agg t3b.toArray) ∧ Below w.heap.size w w'))
    (Q5 : Hid (∀ w : World, Calls Tryd.prog 18 #[.agg t3.toArray, .agg t3b.toArray] w fun e w' => e = .returned (.bool true) ∧ Below w.heap.size w w'))
    (Q6 : Hid (∀ w : World, Env w → Calls Tryd.prog 9 #[.agg #[.int .u64 0, .int .u64 0, .int .u64 0, .int .u64 0], .agg b.toArray] w fun e w' => e = .returned (.agg mz.toArray) ∧ Below w.heap.size w w'))
    (Q7 : Hid (∀ w : World, Calls Tryd.prog 33 #[] w fun e w' => e = .returned (.agg z.toArray) ∧ Below w.heap.size w w'))
    (Q8 : Hid (∀ w : World, Calls Tryd.prog 18 #[.agg mz.toArray, .agg z.toArray] w fun e w' => e = .returned (.bool true) ∧ Below w.heap.size w w'))
    (Q9 : Hid (∀ w : World, Calls Tryd.prog 33 #[] w fun e w' => e = .returned (.agg z.toArray) ∧ Below w.heap.size w w'))
    (Q10 : Hid (∀ w : World, Calls Tryd.prog 18 #[.agg b.toArray, .agg z.toArray] w fun e w' => e = .returned (.bool false) ∧ Below w.heap.size w w'))
    (w : World) (E_0 : Hid (Env w)) :
    Calls Tryd.prog 6 #[] w fun e w' => e = .returned (.bool true) ∧ Below w.heap.size w w' := by
  go_enter Tryd.func6, Tryd.ntmps6
  go_upto_region 1 with fail
  have HE := E_0.out.lt
  refine wp_cut (fun V => Env V ∧ Below w.heap.size w V) ⟨?_, ?_⟩ ?_
  · refine E_0.out.grown ?_
    (repeat (first | exact Below.refl _ _ | refine Below.drew ?_ | refine below_drewN ?_ _ | refine Below.alloc ?_ (by simp <;> omega) _))
  · (repeat (first | exact Below.refl _ _ | refine Below.drew ?_ | refine below_drewN ?_ _ | refine Below.alloc ?_ (by simp <;> omega) _))
  rintro w1 ⟨k0, k1⟩
  have E_1 := hid k0
  have G_1 := hid k1
  clear k0 k1 E_0
  go_wp2_with (fail)
  refine (Q1.out _ E_1.out).mono ?_
  rintro e w2 ⟨rfl, g0⟩
  have g := g0
  clear g0
  have E_2 := hid (E_1.out.grown g)
  have G_2 := hid (G_1.out.trans (g.mono G_1.out.size))
  clear g E_1 G_1
  have szB1 : w.heap.size ≤ w2.heap.size := G_2.out.size
  go_wp2_with (first | (refine list_store_new rfl 32 _ _ rfl w2 b [.int .u64 0, .int .u64 0, .int .u64 0, .int .u64 0, .int .u64 0, .int .u64 0, .int .u64 0, .int .u64 0, .int .u64 0, .int .u64 0, .int .u64 0, .int .u64 0, .int .u64 0, .int .u64 0, .int .u64 0, .int .u64 0, .int .u64 0, .int .u64 0, .int .u64 0, .int .u64 0] rfl rfl b_h.len b_h.is b_h.one (fun w3 hC g => ?_)) | fail)
  have B1_3 := hid hC
  have E_3 := hid (E_2.out.grown g)
  have G_3 := hid (G_2.out.trans (g.mono G_2.out.size))
  clear hC g E_2 G_2
  go_wp2_with fail
  have E_3' := hid (E_3.out.grown (Below.refl _ w3).drew)
  have K3 : At 32 w3.drew w2.heap.size b := B1_3.out.drew
  refine wp_region_held_drew (S := fun w' => At 32 w' w2.heap.size b) (by kernel_rfl) K3 (fun hHeld => ?_)
  clear K3
  refine h_take 0 (v := .agg #[.int .u64 3, .int .u64 0, .int .u64 0, .int .u64 0]) rfl (by kernel_rfl) (by kernel_rfl) (by kernel_rfl) (fun _ _ _ h => h) (by rfl) ?hyr2_0 (by assumption) ?_
  case hyr2_0 =>
    intro w' hSw
    clear hSw
    go_simp
  try simp only [Act.put, List.setIfInBounds_toArray, List.set_cons_zero, List.set_cons_succ]
  refine h_take 2 (v := .agg b.toArray) rfl (by kernel_rfl) (by kernel_rfl) (by kernel_rfl) (fun _ _ _ h => h) (by rfl) ?hyr2_2 (by assumption) ?_
  case hyr2_2 =>
    intro w' hSw
    exact load_run 32 _ rfl _ 0 rfl b _ (at_mid hSw 0 _ (by simp)) Tryd.underlying32 rfl b_h.il
  try simp only [Act.put, List.setIfInBounds_toArray, List.set_cons_zero, List.set_cons_succ]
  refine h_take 4 (v := .agg b.toArray) rfl (by kernel_rfl) (by kernel_rfl) (by kernel_rfl) (fun _ _ _ h => h) (by rfl) ?hyr2_4 (by assumption) ?_
  case hyr2_4 =>
    intro w' hSw
    exact load_run 32 _ rfl _ 0 rfl b _ (at_mid hSw 0 _ (by simp)) Tryd.underlying32 rfl b_h.il
  try simp only [Act.put, List.setIfInBounds_toArray, List.set_cons_zero, List.set_cons_succ]
  refine h_call 1 rfl (by kernel_rfl) (by rfl) (fun Kk hK => ?_)
  go_simp
  (refine (Q2.out _ E_3'.out).mono ?_)
  rintro e w4 ⟨rfl, g0⟩
  have g : Below w3.heap.size w3 w4 := (Below.refl _ w3).drew.trans g0
  clear g0
  have B1_4 := hid (B1_3.out.below g)
  have E_4 := hid (E_3.out.grown g)
  have G_4 := hid (G_3.out.trans (g.mono G_3.out.size))
  clear g B1_3 E_3 G_3
  clear E_3'
  have K4 := B1_4.out
  go_wp2_with fail
  clear hHeld
  refine hK.out _ _ K4 (fun hHeld => ?_)
  clear hK Kk K4
  try simp only [Act.put, List.setIfInBounds_toArray, List.set_cons_zero, List.set_cons_succ]
  refine h_call 3 rfl (by kernel_rfl) (by rfl) (fun Kk hK => ?_)
  go_simp
  (refine (Q3.out _ E_4.out).mono ?_)
  rintro e w5 ⟨rfl, g0⟩
  have g := g0
  clear g0
  have B1_5 := hid (B1_4.out.below g)
  have E_5 := hid (E_4.out.grown g)
  have G_5 := hid (G_4.out.trans (g.mono G_4.out.size))
  clear g B1_4 E_4 G_4
  have K5 := B1_5.out
  go_wp2_with fail
  clear hHeld
  refine hK.out _ _ K5 (fun hHeld => ?_)
  clear hK Kk K5
  try simp only [Act.put, List.setIfInBounds_toArray, List.set_cons_zero, List.set_cons_succ]
  refine h_call 5 rfl (by kernel_rfl) (by rfl) (fun Kk hK => ?_)
  go_simp
  (refine (Q4.out _ E_5.out).mono ?_)
  rintro e w6 ⟨rfl, g0⟩
  have g := g0
  clear g0
  have B1_6 := hid (B1_5.out.below g)
  have E_6 := hid (E_5.out.grown g)
  have G_6 := hid (G_5.out.trans (g.mono G_5.out.size))
  clear g B1_5 E_5 G_5
  have K6 := B1_6.out
  go_wp2_with fail
  clear hHeld
  refine hK.out _ _ K6 (fun hHeld => ?_)
  clear hK Kk K6
  try simp only [Act.put, List.setIfInBounds_toArray, List.set_cons_zero, List.set_cons_succ]
  refine h_call 6 rfl (by kernel_rfl) (by rfl) (fun Kk hK => ?_)
  go_simp
  (refine (Q5.out _).mono ?_)
  rintro e w7 ⟨rfl, g0⟩
  have g := g0
  clear g0
  have B1_7 := hid (B1_6.out.below g)
  have E_7 := hid (E_6.out.grown g)
  have G_7 := hid (G_6.out.trans (g.mono G_6.out.size))
  clear g B1_6 E_6 G_6
  have K7 := B1_7.out
  go_wp2_with fail
  clear hHeld
  refine hK.out _ _ K7 (fun hHeld => ?_)
  clear hK Kk K7
  try simp only [Act.put, List.setIfInBounds_toArray, List.set_cons_zero, List.set_cons_succ]
  refine h_take 7 (v := .bool true) rfl (by kernel_rfl) (by kernel_rfl) (by kernel_rfl) (fun _ _ _ h => h) (by rfl) ?hyr2_7 (by assumption) ?_
  case hyr2_7 =>
    intro w' hSw
    clear hSw
    go_simp
  try simp only [Act.put, List.setIfInBounds_toArray, List.set_cons_zero, List.set_cons_succ]
  refine h_take 8 (v := .agg #[.int .u64 0, .int .u64 0, .int .u64 0, .int .u64 0]) rfl (by kernel_rfl) (by kernel_rfl) (by kernel_rfl) (fun _ _ _ h => h) (by rfl) ?hyr2_8 (by assumption) ?_
  case hyr2_8 =>
    intro w' hSw
    clear hSw
    go_simp
  try simp only [Act.put, List.setIfInBounds_toArray, List.set_cons_zero, List.set_cons_succ]
  refine h_take 9 (v := .agg b.toArray) rfl (by kernel_rfl) (by kernel_rfl) (by kernel_rfl) (fun _ _ _ h => h) (by rfl) ?hyr2_9 (by assumption) ?_
  case hyr2_9 =>
    intro w' hSw
    exact load_run 32 _ rfl _ 0 rfl b _ (at_mid hSw 0 _ (by simp)) Tryd.underlying32 rfl b_h.il
  try simp only [Act.put, List.setIfInBounds_toArray, List.set_cons_zero, List.set_cons_succ]
  refine h_call 10 rfl (by kernel_rfl) (by rfl) (fun Kk hK => ?_)
  go_simp
  (refine (Q6.out _ E_7.out).mono ?_)
  rintro e w8 ⟨rfl, g0⟩
  have g := g0
  clear g0
  have B1_8 := hid (B1_7.out.below g)
  have E_8 := hid (E_7.out.grown g)
  have G_8 := hid (G_7.out.trans (g.mono G_7.out.size))
  clear g B1_7 E_7 G_7
  have K8 := B1_8.out
  go_wp2_with fail
  clear hHeld
  refine hK.out _ _ K8 (fun hHeld => ?_)
  clear hK Kk K8
  try simp only [Act.put, List.setIfInBounds_toArray, List.set_cons_zero, List.set_cons_succ]
  refine h_call 11 rfl (by kernel_rfl) (by rfl) (fun Kk hK => ?_)
  go_simp
  (refine (Q7.out _).mono ?_)
  rintro e w9 ⟨rfl, g0⟩
  have g := g0
  clear g0
  have B1_9 := hid (B1_8.out.below g)
  have E_9 := hid (E_8.out.grown g)
  have G_9 := hid (G_8.out.trans (g.mono G_8.out.size))
  clear g B1_8 E_8 G_8
  have K9 := B1_9.out
  go_wp2_with fail
  clear hHeld
  refine hK.out _ _ K9 (fun hHeld => ?_)
  clear hK Kk K9
  try simp only [Act.put, List.setIfInBounds_toArray, List.set_cons_zero, List.set_cons_succ]
  refine h_call 12 rfl (by kernel_rfl) (by rfl) (fun Kk hK => ?_)
  go_simp
  (refine (Q8.out _).mono ?_)
  rintro e w10 ⟨rfl, g0⟩
  have g := g0
  clear g0
  have B1_10 := hid (B1_9.out.below g)
  have E_10 := hid (E_9.out.grown g)
  have G_10 := hid (G_9.out.trans (g.mono G_9.out.size))
  clear g B1_9 E_9 G_9
  have K10 := B1_10.out
  go_wp2_with fail
  clear hHeld
  refine hK.out _ _ K10 (fun hHeld => ?_)
  clear hK Kk K10
  try simp only [Act.put, List.setIfInBounds_toArray, List.set_cons_zero, List.set_cons_succ]
  refine h_take 13 (v := .bool true) rfl (by kernel_rfl) (by kernel_rfl) (by kernel_rfl) (fun _ _ _ h => h) (by rfl) ?hyr2_13 (by assumption) ?_
  case hyr2_13 =>
    intro w' hSw
    clear hSw
    go_simp
  try simp only [Act.put, List.setIfInBounds_toArray, List.set_cons_zero, List.set_cons_succ]
  refine h_take 14 (v := .bool true) rfl (by kernel_rfl) (by kernel_rfl) (by kernel_rfl) (fun _ _ _ h => h) (by rfl) ?hyr2_14 (by assumption) ?_
  case hyr2_14 =>
    intro w' hSw
    clear hSw
    go_simp
  try simp only [Act.put, List.setIfInBounds_toArray, List.set_cons_zero, List.set_cons_succ]
  refine h_take 15 (v := .agg b.toArray) rfl (by kernel_rfl) (by kernel_rfl) (by kernel_rfl) (fun _ _ _ h => h) (by rfl) ?hyr2_15 (by assumption) ?_
  case hyr2_15 =>
    intro w' hSw
    exact load_run 32 _ rfl _ 0 rfl b _ (at_mid hSw 0 _ (by simp)) Tryd.underlying32 rfl b_h.il
  try simp only [Act.put, List.setIfInBounds_toArray, List.set_cons_zero, List.set_cons_succ]
  refine h_call 16 rfl (by kernel_rfl) (by rfl) (fun Kk hK => ?_)
  go_simp
  (refine (Q9.out _).mono ?_)
  rintro e w11 ⟨rfl, g0⟩
  have g := g0
  clear g0
  have B1_11 := hid (B1_10.out.below g)
  have E_11 := hid (E_10.out.grown g)
  have G_11 := hid (G_10.out.trans (g.mono G_10.out.size))
  clear g B1_10 E_10 G_10
  have K11 := B1_11.out
  go_wp2_with fail
  clear hHeld
  refine hK.out _ _ K11 (fun hHeld => ?_)
  clear hK Kk K11
  try simp only [Act.put, List.setIfInBounds_toArray, List.set_cons_zero, List.set_cons_succ]
  refine h_call 17 rfl (by kernel_rfl) (by rfl) (fun Kk hK => ?_)
  go_simp
  (refine (Q10.out _).mono ?_)
  rintro e w12 ⟨rfl, g0⟩
  have g := g0
  clear g0
  have B1_12 := hid (B1_11.out.below g)
  have E_12 := hid (E_11.out.grown g)
  have G_12 := hid (G_11.out.trans (g.mono G_11.out.size))
  clear g B1_11 E_11 G_11
  have K12 := B1_12.out
  go_wp2_with fail
  clear hHeld
  refine hK.out _ _ K12 (fun hHeld => ?_)
  clear hK Kk K12
  try simp only [Act.put, List.setIfInBounds_toArray, List.set_cons_zero, List.set_cons_succ]
  refine h_take 18 (v := .bool true) rfl (by kernel_rfl) (by kernel_rfl) (by kernel_rfl) (fun _ _ _ h => h) (by rfl) ?hyr2_18 (by assumption) ?_
  case hyr2_18 =>
    intro w' hSw
    clear hSw
    go_simp
  try simp only [Act.put, List.setIfInBounds_toArray, List.set_cons_zero, List.set_cons_succ]
  refine h_take 19 (v := .bool true) rfl (by kernel_rfl) (by kernel_rfl) (by kernel_rfl) (fun _ _ _ h => h) (by rfl) ?hyr2_19 (by assumption) ?_
  case hyr2_19 =>
    intro w' hSw
    clear hSw
    go_simp
  try simp only [Act.put, List.setIfInBounds_toArray, List.set_cons_zero, List.set_cons_succ]
  refine h_take 20 (v := .bool true) rfl (by kernel_rfl) (by kernel_rfl) (by kernel_rfl) (fun _ _ _ h => h) (by rfl) ?hyr2_20 (by assumption) ?_
  case hyr2_20 =>
    intro w' hSw
    clear hSw
    go_simp
  try simp only [Act.put, List.setIfInBounds_toArray, List.set_cons_zero, List.set_cons_succ]
  refine wpAnyH_done (by kernel_rfl) ?_ _
  clear hHeld
  go_wp2_with fail
  go_ret
  exact ⟨rfl, G_12.out⟩
end Go.Proofs.YtedhfimjcpbcpaaDoor.Ed

/-
  What the laws of layer 11 ask of the program alone: Of at any bytes, Same, awake, Order. Conditions: the package's variables are as the program lays them.
-/
namespace Go.Proofs.YtedhfimjcpbcpaaDoor.Ed
open Go.RowKit
set_option linter.unusedVariables false
set_option linter.unusedSimpArgs false

/-- What the program's Of makes of any bytes. -/
theorem ofF_any (l : List Nat) (hb : Bb l) : (∃ P, bytesOf P = l) ∨ ∃ c : P4, ∀ (v : Value) (w : World), SK .u8 w v l → Gd w → Gl w → Calls Tryd.prog 7 #[v] w fun e w' => e = .returned (.tuple #[.agg c.l.toArray, .bool false]) ∧ Below w.heap.size w w' := by
  by_cases h : ∃ P, bytesOf P = l
  · exact Or.inl h
  · exact Or.inr ⟨nilP, fun v w hs hD hZ => of_no_p l hb (fun P hP => h ⟨P, hP⟩) v w hs hD hZ⟩
theorem same_yes (p q : P4) (P Q : Pt) (hp : p.Is P) (hq : q.Is Q) (h : P = Q) : ∀ w : World, Calls Tryd.prog 18 #[.agg p.l.toArray, .agg q.l.toArray] w fun e w' => e = .returned (.bool true) ∧ Below w.heap.size w w' := by
  obtain ⟨b, hb, qb⟩ := same_p p q P Q hp hq
  rw [hb.2 h] at qb
  exact qb
theorem same_no (p q : P4) (P Q : Pt) (hp : p.Is P) (hq : q.Is Q) (h : ¬ P = Q) : ∀ w : World, Calls Tryd.prog 18 #[.agg p.l.toArray, .agg q.l.toArray] w fun e w' => e = .returned (.bool false) ∧ Below w.heap.size w w' := by
  obtain ⟨b, hb, qb⟩ := same_p p q P Q hp hq
  cases b with
  | true => exact absurd (hb.1 rfl) h
  | false => exact qb
theorem base_ne : ¬ baseP = Pt.zero := fun h => absurd ((S4.none_is _ _ base_is).2 h) (by decide +kernel)
theorem ws_3 : wv (ws 3) = [.int .u64 3, .int .u64 0, .int .u64 0, .int .u64 0] := by
  have h : ws 3 = [3, 0, 0, 0] := by decide +kernel
  rw [wv, h]
  rfl
theorem ws_0 : wv (ws 0) = [.int .u64 0, .int .u64 0, .int .u64 0, .int .u64 0] := by
  have h : ws 0 = [0, 0, 0, 0] := by decide +kernel
  rw [wv, h]
  rfl
theorem awake11 (w : World) (hE : Env w) : Calls Tryd.prog 6 #[] w fun e w' => e = .returned (.bool true) ∧ Below w.heap.size w w' := by
  obtain ⟨b, hb, qb⟩ := base_p
  obtain ⟨t, ht, qt⟩ := baseK_p 3 (by decide)
  obtain ⟨d, hd, qd⟩ := double_p b _ hb
  obtain ⟨s, hs, qs⟩ := add_p d b _ _ hd hb
  obtain ⟨m, hm, qm⟩ := mul_p b _ hb 0 (by decide)
  obtain ⟨z, hz, qz⟩ := zero_p
  rw [ws_3] at qt
  rw [ws_0] at qm
  have e3 : Pt.mul 3 baseP = (baseP.add baseP).add baseP := by rw [show (3 : Nat) = 2 + 1 from rfl, Pt.mul_next, mul_twice]
  exact awake11_w b.l t.l d.l s.l m.l z.l b.pl t.pl d.pl s.pl m.pl z.pl (fun w h => qb w h.u h.v) (fun w h => qt w h.u h.v h.t h.z.f) (fun w h => qd w h.z.f) (fun w h => qs w h.t h.z.f)
    (same_yes t s _ _ ht hs e3) (fun w h => qm w h.t h.z.f) qz (same_yes m z _ _ hm hz rfl) qz (same_no b z _ _ hb hz base_ne) w hE
theorem order_raw (w : World) : Calls Tryd.prog 15 #[] w fun e w' => e = .returned (.agg #[.int .u64 6346243789798364141, .int .u64 1503914060200516822, .int .u64 0, .int .u64 1152921504606846976]) ∧ Below w.heap.size w w' := by
  have h := order_any w
  rw [order_words] at h
  exact h
end Go.Proofs.YtedhfimjcpbcpaaDoor.Ed

/-
  The contracts of ring's addProduct and factorOf: for words they return what is said here, and change no memory. Conditions: as each theorem says.
-/
namespace Go.Proofs.YtedhfimjcpbcpaaDoor
open Go.RowKit
set_option linter.unusedVariables false

/-- One step of a row: a word, a product of two words and what is carried, as two words. -/
theorem prod_step (t a u c : Int) (ht : Wd t) (ha : Wd a) (hu : Wd u) (hc : Wd c) : ∃ l h : Int, Wd l ∧ Wd h ∧ Hid (t + a * u + c = l + 18446744073709551616 * h) ∧
    Hid (∀ w : World, Calls Tryd.prog 103 #[.int .u64 t, .int .u64 a, .int .u64 u, .int .u64 c] w fun e w' => e = .returned (.tuple #[.int .u64 l, .int .u64 h]) ∧ w' = w) := by
  have hb := words_mul a u ha hu
  obtain ⟨h0, l0, hl0, hh0, P0, Q0⟩ := mul_step a u ha hu
  obtain ⟨s1, d1, hs1, hd1, E1, R1⟩ := add_step l0 t 0 hl0 ht ⟨by omega, by omega⟩
  obtain ⟨s2, d2, hs2, hd2, E2, R2⟩ := add_step s1 c 0 hs1 hc ⟨by omega, by omega⟩
  obtain ⟨g, hg⟩ : ∃ g, h0 + d1 = g := ⟨_, rfl⟩
  obtain ⟨h, hh⟩ : ∃ h, g + d2 = h := ⟨_, rfl⟩
  have hP := P0.out
  have h1 := E1.out
  have h2 := E2.out
  have k : t + a * u + c = s2 + 18446744073709551616 * h := by omega
  obtain ⟨p, hp⟩ : ∃ p, a * u = p := ⟨_, rfl⟩
  rw [hp] at hb hP k
  have wg : Wd g := by unfold Wd at *; omega
  have wh : Wd h := by unfold Wd at *; omega
  refine ⟨s2, h, hs2, wh, by unfold Hid; rw [hp]; exact k, fun w => ?_⟩
  have vg : IntKind.u64.wrap (h0 + d1) = g := by rw [hg, IntKind.wrap_u64]; unfold Wd at wg; omega
  have vh : IntKind.u64.wrap (g + d2) = h := by rw [hh, IntKind.wrap_u64]; unfold Wd at wh; omega
  clear hP h1 h2 k hp P0 E1 E2 hg hh hb
  go_enter Tryd.func103, Tryd.ntmps103
  go_wp2_with (go_at_call 114; refine (Q0 _).mono ?_; rintro e w' ⟨rfl, rfl⟩)
  exact bodyPost_ret (v := .tuple #[.int .u64 s2, .int .u64 h]) (by simp [results, Tryd.results103, go_sem]) rfl ⟨rfl, rfl⟩

theorem factor_step (u x : Nat) (j : Nat) (hj : j ≤ 64) (y : Nat) (hy : (y : Int) = IntKind.u64.wrap ((x : Int) * IntKind.u64.wrap (2 - IntKind.u64.wrap ((u : Int) * (x : Int))))) (h : ((u : Int) * (x : Int) - 1) % 2 ^ j = 0) (i : Nat) (hi : i ≤ j + j) (hi' : i ≤ 64) :
    ((u : Int) * (y : Int) - 1) % 2 ^ i = 0 := by
  have hn := newton u x j h
  have e : (y : Int) % 18446744073709551616 = ((x : Int) * (2 - (u : Int) * (x : Int))) % 18446744073709551616 := by
    rw [hy, IntKind.wrap_u64, IntKind.wrap_u64, IntKind.wrap_u64, Int.emod_emod, Int.mul_emod, Int.emod_emod, Int.sub_emod, Int.emod_emod, ← Int.sub_emod, ← Int.mul_emod]
  obtain ⟨t, ht⟩ := Int.dvd_of_emod_eq_zero hn
  have h2 : ∃ s, (y : Int) = (x : Int) * (2 - (u : Int) * (x : Int)) + 18446744073709551616 * s := ⟨((y : Int) - (x : Int) * (2 - (u : Int) * (x : Int))) / 18446744073709551616, by omega⟩
  obtain ⟨s, hs⟩ := h2
  have p1 : (2 : Int) ^ (j + j) = 2 ^ i * 2 ^ (j + j - i) := by rw [← Int.pow_add]; congr 1; omega
  have p2 : (18446744073709551616 : Int) = 2 ^ i * 2 ^ (64 - i) := by rw [← Int.pow_add, show i + (64 - i) = 64 by omega]; decide
  apply Int.emod_eq_zero_of_dvd
  refine ⟨2 ^ (j + j - i) * t + 2 ^ (64 - i) * ((u : Int) * s), ?_⟩
  rw [hs, Int.mul_add, Int.mul_add, ← Int.mul_assoc (2 ^ i), ← p1, ← Int.mul_assoc (2 ^ i), ← p2, Int.mul_left_comm (u : Int) 18446744073709551616]
  omega

theorem wrap_nat (z : Int) : ∃ y : Nat, IntKind.u64.wrap z = (y : Int) ∧ y < 18446744073709551616 := by
  rw [IntKind.wrap_u64]
  exact ⟨(z % 18446744073709551616).toNat, by omega, by omega⟩

theorem factor_round (u x : Nat) (j i : Nat) (hj : j ≤ 64) (h : Hid (((u : Int) * (x : Int) - 1) % 2 ^ j = 0)) (hi : i ≤ j + j) (hi' : i ≤ 64) :
    ∃ (p q y : Nat), IntKind.u64.wrap ((u : Int) * (x : Int)) = (p : Int) ∧ IntKind.u64.wrap (2 - (p : Int)) = (q : Int) ∧ IntKind.u64.wrap ((x : Int) * (q : Int)) = (y : Int) ∧ y < 18446744073709551616 ∧ Hid (((u : Int) * (y : Int) - 1) % 2 ^ i = 0) := by
  obtain ⟨p, hp, -⟩ := wrap_nat ((u : Int) * (x : Int))
  obtain ⟨q, hq, -⟩ := wrap_nat (2 - (p : Int))
  obtain ⟨y, hy, hy'⟩ := wrap_nat ((x : Int) * (q : Int))
  exact ⟨p, q, y, hp, hq, hy, hy', factor_step u x j hj y (by rw [hp, hq, hy]) h.out i hi hi'⟩

theorem odd_square (u : Nat) (ho : u % 2 = 1) : ((u : Int) * (u : Int) - 1) % 2 ^ 3 = 0 := by
  obtain ⟨k, hk⟩ : ∃ k : Nat, u = 2 * k + 1 := ⟨u / 2, by omega⟩
  obtain ⟨t, ht⟩ : ∃ t : Nat, k * (k + 1) = 2 * t := ⟨k * (k + 1) / 2, by
    have : k * (k + 1) % 2 = 0 := by
      rcases Nat.mod_two_eq_zero_or_one k with h | h
      · rw [Nat.mul_mod, h]; simp
      · rw [Nat.mul_mod, show (k + 1) % 2 = 0 by omega]; simp
    omega⟩
  have e : u * u = 8 * t + 1 := by
    rw [Nat.mul_add] at ht
    rw [hk, Nat.mul_add, Nat.add_mul, Nat.mul_assoc, Nat.mul_left_comm k 2 k]
    omega
  have e2 : (u : Int) * (u : Int) = 8 * (t : Int) + 1 := by exact_mod_cast e
  rw [e2]
  omega

set_option maxHeartbeats 1000000 in
theorem factor_any (u : Nat) (hu : u < 18446744073709551616) (ho : u % 2 = 1) : ∃ f : Nat, f < 18446744073709551616 ∧ u * f % 18446744073709551616 = 18446744073709551615 ∧
    ∀ w : World, Calls Tryd.prog 73 #[.int .u64 (u : Int)] w fun e w' => e = .returned (.int .u64 (f : Int)) ∧ w' = w := by
  have h0 : Hid (((u : Int) * (u : Int) - 1) % 2 ^ 3 = 0) := odd_square u ho
  obtain ⟨p1, q1, y1, a1, b1, c1, l1, h1⟩ := factor_round u u 3 6 (by omega) h0 (by omega) (by omega)
  obtain ⟨p2, q2, y2, a2, b2, c2, l2, h2⟩ := factor_round u y1 6 12 (by omega) h1 (by omega) (by omega)
  obtain ⟨p3, q3, y3, a3, b3, c3, l3, h3⟩ := factor_round u y2 12 24 (by omega) h2 (by omega) (by omega)
  obtain ⟨p4, q4, y4, a4, b4, c4, l4, h4⟩ := factor_round u y3 24 48 (by omega) h3 (by omega) (by omega)
  obtain ⟨p5, q5, y5, a5, b5, c5, l5, h5⟩ := factor_round u y4 48 64 (by omega) h4 (by omega) (by omega)
  obtain ⟨f, hf, lf⟩ := wrap_nat (-(y5 : Int))
  refine ⟨f, lf, ?_, fun w => ?_⟩
  · have hz := h5.out
    rw [show (2 : Int) ^ 64 = 18446744073709551616 by decide] at hz
    have e1 : (f : Int) = 18446744073709551616 - (y5 : Int) ∨ ((f : Int) = 0 ∧ y5 = 0) := by
      rw [IntKind.wrap_u64] at hf
      omega
    rcases e1 with e1 | ⟨e1, e2⟩
    · have e3 : ((u * f : Nat) : Int) = 18446744073709551616 * (u : Int) - (u : Int) * (y5 : Int) := by
        rw [Int.natCast_mul, e1, Int.mul_sub, Int.mul_comm (u : Int) 18446744073709551616]
      generalize (u : Int) * (y5 : Int) = z at *
      omega
    · rw [e2] at hz
      simp at hz
  · clear h0 h1 h2 h3 h4 h5
    go_enter Tryd.func73, Tryd.ntmps73
    go_wp2
    refine wp_unr 6 ?_
    refine unr_succ ?_
    go_wp2
    refine unr_succ ?_
    go_wp2
    refine unr_succ ?_
    go_wp2
    refine unr_succ ?_
    go_wp2
    refine unr_succ ?_
    go_wp2
    refine unr_succ ?_
    go_wp2
    go_ret
    exact ⟨rfl, rfl⟩

end Go.Proofs.YtedhfimjcpbcpaaDoor

/-
  The contracts of limb's Add, Sub, MulWord: for numbers below 2^256 (MulWord: and a word) they return the document's answer and change no memory that was there. Conditions: as each theorem says.
-/
namespace Go.Proofs.YtedhfimjcpbcpaaDoor
open Go.RowKit

set_option maxHeartbeats 1000000 in
theorem add_any (x y : Nat) (hx : x < M4) (hy : y < M4) (w : World) :
    Calls Tryd.prog 27 #[four x, four y] w fun e w' => e = .returned (.tuple #[four ((x + y) % M4), .int .u64 (((x + y) / M4 : Nat) : Int)]) ∧ Below w.heap.size w w' := by
  obtain ⟨a0, a1, a2, a3, ha0, ha1, ha2, ha3, ea, hxa⟩ := four_open x hx
  obtain ⟨b0, b1, b2, b3, hb0, hb1, hb2, hb3, eb, hyb⟩ := four_open y hy
  obtain ⟨s0, c0, hs0, hc0, E0, R0⟩ := add_step a0 b0 0 ha0 hb0 ⟨by omega, by omega⟩
  obtain ⟨s1, c1, hs1, hc1, E1, R1⟩ := add_step a1 b1 c0 ha1 hb1 hc0
  obtain ⟨s2, c2, hs2, hc2, E2, R2⟩ := add_step a2 b2 c1 ha2 hb2 hc1
  obtain ⟨s3, c3, hs3, hc3, E3, R3⟩ := add_step a3 b3 c2 ha3 hb3 hc2
  have V : Hid (four ((x + y) % M4) = .agg #[.int .u64 s0, .int .u64 s1, .int .u64 s2, .int .u64 s3] ∧ (((x + y) / M4 : Nat) : Int) = c3) := by
    exact addV x y _ _ _ _ _ _ _ _ _ _ _ _ _ _ _ _ hs0 hs1 hs2 hs3 hxa hyb E0 E1 E2 E3
  rw [ea, eb]
  clear hxa hyb ea eb hx hy E0 E1 E2 E3
  go_enter Tryd.func27, Tryd.ntmps27
  go_wp2
  refine wp_unr 5 ?_
  refine unr_succ ?_
  go_wp2
  go_region
  go_wp2
  refine unr_succ ?_
  go_wp2
  go_region
  go_wp2
  refine unr_succ ?_
  go_wp2
  go_region
  go_wp2
  refine unr_succ ?_
  go_wp2
  go_region
  go_wp2
  refine unr_succ ?_
  go_wp2
  refine bodyPost_ret (v := .tuple #[.agg #[.int .u64 s0, .int .u64 s1, .int .u64 s2, .int .u64 s3], .int .u64 c3]) (by simp [results, Tryd.results27, go_sem]) rfl ⟨?_, ?_⟩
  · rw [V.out.1, V.out.2]
  · repeat (first | exact Below.refl _ _ | refine Below.drew ?_ | refine Below.alloc ?_ (by simp <;> omega) _)

set_option maxHeartbeats 1000000 in
theorem sub_any (x y : Nat) (hx : x < M4) (hy : y < M4) (w : World) :
    Calls Tryd.prog 118 #[four x, four y] w fun e w' => e = .returned (.tuple #[four ((x + M4 - y) % M4), .int .u64 (bor x y)]) ∧ Below w.heap.size w w' := by
  obtain ⟨a0, a1, a2, a3, ha0, ha1, ha2, ha3, ea, hxa⟩ := four_open x hx
  obtain ⟨b0, b1, b2, b3, hb0, hb1, hb2, hb3, eb, hyb⟩ := four_open y hy
  obtain ⟨s0, c0, hs0, hc0, E0, R0⟩ := sub_step a0 b0 0 ha0 hb0 ⟨by omega, by omega⟩
  obtain ⟨s1, c1, hs1, hc1, E1, R1⟩ := sub_step a1 b1 c0 ha1 hb1 hc0
  obtain ⟨s2, c2, hs2, hc2, E2, R2⟩ := sub_step a2 b2 c1 ha2 hb2 hc1
  obtain ⟨s3, c3, hs3, hc3, E3, R3⟩ := sub_step a3 b3 c2 ha3 hb3 hc2
  have V : Hid (four ((x + M4 - y) % M4) = .agg #[.int .u64 s0, .int .u64 s1, .int .u64 s2, .int .u64 s3] ∧ bor x y = c3) := by
    exact subV x y hy _ _ _ _ _ _ _ _ _ _ _ _ _ _ _ _ hs0 hs1 hs2 hs3 hc3 hxa hyb E0 E1 E2 E3
  rw [ea, eb]
  clear hxa hyb ea eb hx hy E0 E1 E2 E3
  go_enter Tryd.func118, Tryd.ntmps118
  go_wp2
  refine wp_unr 5 ?_
  refine unr_succ ?_
  go_wp2
  go_region
  go_wp2
  refine unr_succ ?_
  go_wp2
  go_region
  go_wp2
  refine unr_succ ?_
  go_wp2
  go_region
  go_wp2
  refine unr_succ ?_
  go_wp2
  go_region
  go_wp2
  refine unr_succ ?_
  go_wp2
  refine bodyPost_ret (v := .tuple #[.agg #[.int .u64 s0, .int .u64 s1, .int .u64 s2, .int .u64 s3], .int .u64 c3]) (by simp [results, Tryd.results118, go_sem]) rfl ⟨?_, ?_⟩
  · rw [V.out.1, V.out.2]
  · repeat (first | exact Below.refl _ _ | refine Below.drew ?_ | refine Below.alloc ?_ (by simp <;> omega) _)

end Go.Proofs.YtedhfimjcpbcpaaDoor

/-
  The contracts of limb's word and Bits: for numbers below 2^256 they return the document's answer and change no memory that was there. Conditions: as each theorem says.
-/
namespace Go.Proofs.YtedhfimjcpbcpaaDoor
open Go.RowKit
set_option linter.unusedVariables false
attribute [local go_sem] idx4_0 idx4_1 idx4_2 idx4_3

set_option maxHeartbeats 4000000 in
theorem bits_any (x : Nat) (hx : x < M4) (w : World) :
    Calls Tryd.prog 100 #[four x] w fun e w' => e = .returned (.int .i64 (nbits x : Int)) ∧ Below w.heap.size w w' := by
  obtain ⟨a0, a1, a2, a3, ha0, ha1, ha2, ha3, ea, hxa⟩ := four_open x hx
  obtain ⟨l0, z0, L0, Y0⟩ : ∃ l : Int, (0 ≤ l ∧ l ≤ 64) ∧ Hid (l = (nbits a0.toNat : Int)) ∧ ∀ w, Calls Tryd.prog 117 #[.int .u64 a0] w fun e w' => e = .returned (.int .i64 l) ∧ w' = w := by
    have ha := ha0
    unfold Wd at ha
    refine ⟨(Lib.bitLen a0.toNat : Int), ⟨by omega, ?_⟩, ?_, fun w => len64_any a0 w (by omega) (by omega)⟩
    · have := nbits_le a0.toNat 64 (by omega)
      rw [bitLen_nbits _ (by omega)]
      omega
    · unfold Hid
      rw [bitLen_nbits _ (by omega)]
  obtain ⟨l1, z1, L1, Y1⟩ : ∃ l : Int, (0 ≤ l ∧ l ≤ 64) ∧ Hid (l = (nbits a1.toNat : Int)) ∧ ∀ w, Calls Tryd.prog 117 #[.int .u64 a1] w fun e w' => e = .returned (.int .i64 l) ∧ w' = w := by
    have ha := ha1
    unfold Wd at ha
    refine ⟨(Lib.bitLen a1.toNat : Int), ⟨by omega, ?_⟩, ?_, fun w => len64_any a1 w (by omega) (by omega)⟩
    · have := nbits_le a1.toNat 64 (by omega)
      rw [bitLen_nbits _ (by omega)]
      omega
    · unfold Hid
      rw [bitLen_nbits _ (by omega)]
  obtain ⟨l2, z2, L2, Y2⟩ : ∃ l : Int, (0 ≤ l ∧ l ≤ 64) ∧ Hid (l = (nbits a2.toNat : Int)) ∧ ∀ w, Calls Tryd.prog 117 #[.int .u64 a2] w fun e w' => e = .returned (.int .i64 l) ∧ w' = w := by
    have ha := ha2
    unfold Wd at ha
    refine ⟨(Lib.bitLen a2.toNat : Int), ⟨by omega, ?_⟩, ?_, fun w => len64_any a2 w (by omega) (by omega)⟩
    · have := nbits_le a2.toNat 64 (by omega)
      rw [bitLen_nbits _ (by omega)]
      omega
    · unfold Hid
      rw [bitLen_nbits _ (by omega)]
  obtain ⟨l3, z3, L3, Y3⟩ : ∃ l : Int, (0 ≤ l ∧ l ≤ 64) ∧ Hid (l = (nbits a3.toNat : Int)) ∧ ∀ w, Calls Tryd.prog 117 #[.int .u64 a3] w fun e w' => e = .returned (.int .i64 l) ∧ w' = w := by
    have ha := ha3
    unfold Wd at ha
    refine ⟨(Lib.bitLen a3.toNat : Int), ⟨by omega, ?_⟩, ?_, fun w => len64_any a3 w (by omega) (by omega)⟩
    · have := nbits_le a3.toNat 64 (by omega)
      rw [bitLen_nbits _ (by omega)]
      omega
    · unfold Hid
      rw [bitLen_nbits _ (by omega)]
  obtain ⟨o1, h1⟩ : ∃ o : Int, Hid (o = if a0 = 0 then 0 else l0) := ⟨_, rfl⟩
  obtain ⟨o2, h2⟩ : ∃ o : Int, Hid (o = if a1 = 0 then o1 else 64 + l1) := ⟨_, rfl⟩
  obtain ⟨o3, h3⟩ : ∃ o : Int, Hid (o = if a2 = 0 then o2 else 128 + l2) := ⟨_, rfl⟩
  obtain ⟨o4, h4⟩ : ∃ o : Int, Hid (o = if a3 = 0 then o3 else 192 + l3) := ⟨_, rfl⟩
  have V : Hid ((nbits x : Int) = o4) := by
    unfold Hid at L0 L1 L2 L3 h1 h2 h3 h4
    rw [L0] at h1; rw [L1] at h2; rw [L2] at h3; rw [L3] at h4
    exact bitsV x a0 a1 a2 a3 o1 o2 o3 o4 ha0 ha1 ha2 ha3 hxa h1 h2 h3 h4
  rw [ea]
  clear hxa ea hx
  go_enter Tryd.func100, Tryd.ntmps100
  go_wp2
  go_loop [3, 7] (fun o i => (i = .int .i64 0 ∧ o = .int .i64 0) ∨ (i = .int .i64 1 ∧ o = .int .i64 o1) ∨ (i = .int .i64 2 ∧ o = .int .i64 o2) ∨ (i = .int .i64 3 ∧ o = .int .i64 o3) ∨ (i = .int .i64 4 ∧ o = .int .i64 o4)) (fun _ i => 4 - (intOf i).toNat)
  case atStart => exact Or.inl ⟨rfl, rfl⟩
  case round =>
    rcases hrel with ⟨rfl, rfl⟩ | ⟨rfl, rfl⟩ | ⟨rfl, rfl⟩ | ⟨rfl, rfl⟩ | ⟨rfl, rfl⟩
    · by_cases e : a0 = 0
      · have d : (a0 != 0) = false := by simp [e]
        have g : Hid (o1 = 0) := by unfold Hid at *; rw [h1, if_pos e]
        clear e
        go_wp2
        go_round
        case rel => exact Or.inr (Or.inl ⟨rfl, by rw [g.out]⟩)
        case measure => simp [intOf]
      · have d : (a0 != 0) = true := by simp [e]
        have g : Hid (o1 = l0) := by unfold Hid at *; rw [h1, if_neg e]
        clear e
        go_wp2_with (go_at_call 117; refine (Y0 _).mono ?_; rintro e w' ⟨rfl, rfl⟩)
        go_round
        case rel => exact Or.inr (Or.inl ⟨rfl, by rw [g.out]⟩)
        case measure => simp [intOf]
    · by_cases e : a1 = 0
      · have d : (a1 != 0) = false := by simp [e]
        have g : Hid (o2 = o1) := by unfold Hid at *; rw [h2, if_pos e]
        clear e
        go_wp2
        go_round
        case rel => exact Or.inr (Or.inr (Or.inl ⟨rfl, by rw [g.out]⟩))
        case measure => simp [intOf]
      · have d : (a1 != 0) = true := by simp [e]
        have g : Hid (o2 = 64 + l1) := by unfold Hid at *; rw [h2, if_neg e]
        clear e
        go_wp2_with (go_at_call 117; refine (Y1 _).mono ?_; rintro e w' ⟨rfl, rfl⟩)
        go_round
        case rel => exact Or.inr (Or.inr (Or.inl ⟨rfl, by rw [g.out]⟩))
        case measure => simp [intOf]
    · by_cases e : a2 = 0
      · have d : (a2 != 0) = false := by simp [e]
        have g : Hid (o3 = o2) := by unfold Hid at *; rw [h3, if_pos e]
        clear e
        go_wp2
        go_round
        case rel => exact Or.inr (Or.inr (Or.inr (Or.inl ⟨rfl, by rw [g.out]⟩)))
        case measure => simp [intOf]
      · have d : (a2 != 0) = true := by simp [e]
        have g : Hid (o3 = 128 + l2) := by unfold Hid at *; rw [h3, if_neg e]
        clear e
        go_wp2_with (go_at_call 117; refine (Y2 _).mono ?_; rintro e w' ⟨rfl, rfl⟩)
        go_round
        case rel => exact Or.inr (Or.inr (Or.inr (Or.inl ⟨rfl, by rw [g.out]⟩)))
        case measure => simp [intOf]
    · by_cases e : a3 = 0
      · have d : (a3 != 0) = false := by simp [e]
        have g : Hid (o4 = o3) := by unfold Hid at *; rw [h4, if_pos e]
        clear e
        go_wp2
        go_round
        case rel => exact Or.inr (Or.inr (Or.inr (Or.inr (⟨rfl, by rw [g.out]⟩))))
        case measure => simp [intOf]
      · have d : (a3 != 0) = true := by simp [e]
        have g : Hid (o4 = 192 + l3) := by unfold Hid at *; rw [h4, if_neg e]
        clear e
        go_wp2_with (go_at_call 117; refine (Y3 _).mono ?_; rintro e w' ⟨rfl, rfl⟩)
        go_round
        case rel => exact Or.inr (Or.inr (Or.inr (Or.inr (⟨rfl, by rw [g.out]⟩))))
        case measure => simp [intOf]
    · go_wp2
      go_ret
      exact ⟨ret_int V.out.symm, by repeat (first | exact Below.refl _ _ | refine Below.alloc ?_ (by simp <;> omega) _)⟩

set_option maxHeartbeats 1000000 in
theorem word_any (x : Nat) (i : Int) (hx : x < M4) (w : World) :
    Calls Tryd.prog 68 #[four x, .int .i64 i] w fun e w' => e = .returned (.int .u64 (wordAt x i)) ∧ ∃ c1 : Array Value, w' = w.alloc (.cells c1 25) := by
  obtain ⟨a0, a1, a2, a3, ha0, ha1, ha2, ha3, ea, hxa⟩ := four_open x hx
  rw [ea]
  by_cases h0 : i < 0
  · have g : Hid (wordAt x i = 0) := by unfold Hid wordAt; rw [if_neg (by omega)]
    go_enter Tryd.func68, Tryd.ntmps68
    go_wp2
    go_ret
    exact ⟨ret_int g.out.symm, _, rfl⟩
  by_cases h1 : 4 ≤ i
  · have g : Hid (wordAt x i = 0) := by unfold Hid wordAt; rw [if_neg (by omega)]
    go_enter Tryd.func68, Tryd.ntmps68
    go_wp2
    go_ret
    exact ⟨ret_int g.out.symm, _, rfl⟩
  unfold Wd at ha0 ha1 ha2 ha3
  rcases (show i = 0 ∨ i = 1 ∨ i = 2 ∨ i = 3 by omega) with rfl | rfl | rfl | rfl
  · have g : Hid (wordAt x 0 = a0) := by unfold Hid wordAt; simp; omega
    clear hxa
    go_enter Tryd.func68, Tryd.ntmps68
    go_wp2
    go_ret
    exact ⟨ret_int g.out.symm, _, rfl⟩
  · have g : Hid (wordAt x 1 = a1) := by unfold Hid wordAt; simp; omega
    clear hxa
    go_enter Tryd.func68, Tryd.ntmps68
    go_wp2
    go_ret
    exact ⟨ret_int g.out.symm, _, rfl⟩
  · have g : Hid (wordAt x 2 = a2) := by unfold Hid wordAt; simp; omega
    clear hxa
    go_enter Tryd.func68, Tryd.ntmps68
    go_wp2
    go_ret
    exact ⟨ret_int g.out.symm, _, rfl⟩
  · have g : Hid (wordAt x 3 = a3) := by unfold Hid wordAt; simp; omega
    clear hxa
    go_enter Tryd.func68, Tryd.ntmps68
    go_wp2
    go_ret
    exact ⟨ret_int g.out.symm, _, rfl⟩

end Go.Proofs.YtedhfimjcpbcpaaDoor

/-
  The contracts of limb's Bit and Select: for numbers below 2^256 they return the document's answer and change no memory that was there. Conditions: as each theorem says.
-/
namespace Go.Proofs.YtedhfimjcpbcpaaDoor
open Go.RowKit
set_option linter.unusedVariables false

attribute [local go_sem] idx4_0 idx4_1 idx4_2 idx4_3

theorem and1 (a : Nat) (ha : a < 18446744073709551616) : bits .and .u64 (a : Int) 1 = ((a % 2 : Nat) : Int) := by
  have := bits_and_u64_nat a 1 ha (by omega)
  rw [Nat.and_one_is_mod] at this
  exact this
set_option maxHeartbeats 1000000 in
theorem select_any (c : Int) (x y z : Nat) (hx : x < M4) (hy : y < M4) (hc : (bits .and .u64 c 1 = 1 ∧ z = x) ∨ (bits .and .u64 c 1 = 0 ∧ z = y)) (w : World) :
    Calls Tryd.prog 119 #[.int .u64 c, four x, four y] w fun e w' => e = .returned (four z) ∧ Below w.heap.size w w' := by
  obtain ⟨a0, a1, a2, a3, ha0, ha1, ha2, ha3, ea, hxa⟩ := four_open x hx
  obtain ⟨b0, b1, b2, b3, hb0, hb1, hb2, hb3, eb, hxb⟩ := four_open y hy
  clear hxa hxb
  rcases hc with ⟨hc, rfl⟩ | ⟨hc, rfl⟩
  · rw [ea, eb]
    clear ea eb
    have f0 := and_ones a0 ha0
    have f1 := and_ones a1 ha1
    have f2 := and_ones a2 ha2
    have f3 := and_ones a3 ha3
    have g0 := andNot_ones b0
    have g1 := andNot_ones b1
    have g2 := andNot_ones b2
    have g3 := andNot_ones b3
    have k0 := or_zero' a0 ha0
    have k1 := or_zero' a1 ha1
    have k2 := or_zero' a2 ha2
    have k3 := or_zero' a3 ha3
    have wm : IntKind.u64.wrap (-1) = 18446744073709551615 := by decide
    go_enter Tryd.func119, Tryd.ntmps119
    go_wp2
    refine wp_unr 5 ?_
    refine unr_succ ?_
    go_wp2
    refine unr_succ ?_
    go_wp2
    refine unr_succ ?_
    go_wp2
    refine unr_succ ?_
    go_wp2
    refine unr_succ ?_
    go_wp2
    refine bodyPost_ret (v := .agg #[.int .u64 a0, .int .u64 a1, .int .u64 a2, .int .u64 a3]) (by simp [results, Tryd.results119, go_sem]) rfl ⟨rfl, ?_⟩
    repeat (first | exact Below.refl _ _ | refine Below.drew ?_ | refine Below.alloc ?_ (by simp <;> omega) _)
  · rw [ea, eb]
    clear ea eb
    have f0 := and_zero' a0
    have f1 := and_zero' a1
    have f2 := and_zero' a2
    have f3 := and_zero' a3
    have g0 := andNot_zero b0 hb0
    have g1 := andNot_zero b1 hb1
    have g2 := andNot_zero b2 hb2
    have g3 := andNot_zero b3 hb3
    have k0 := zero_or' b0 hb0
    have k1 := zero_or' b1 hb1
    have k2 := zero_or' b2 hb2
    have k3 := zero_or' b3 hb3
    have wm : IntKind.u64.wrap (-1) = 18446744073709551615 := by decide
    go_enter Tryd.func119, Tryd.ntmps119
    go_wp2
    refine wp_unr 5 ?_
    refine unr_succ ?_
    go_wp2
    refine unr_succ ?_
    go_wp2
    refine unr_succ ?_
    go_wp2
    refine unr_succ ?_
    go_wp2
    refine unr_succ ?_
    go_wp2
    refine bodyPost_ret (v := .agg #[.int .u64 b0, .int .u64 b1, .int .u64 b2, .int .u64 b3]) (by simp [results, Tryd.results119, go_sem]) rfl ⟨rfl, ?_⟩
    repeat (first | exact Below.refl _ _ | refine Below.drew ?_ | refine Below.alloc ?_ (by simp <;> omega) _)

end Go.Proofs.YtedhfimjcpbcpaaDoor

/-
  A ring's block of memory; the contracts of ring's within, add, sub. Conditions: as each theorem says.
-/
namespace Go.Proofs.YtedhfimjcpbcpaaDoor
open Go.RowKit
set_option linter.unusedVariables false

/-- The words of a modulus and its factor, in memory. -/
structure Five (W : World) (b : Nat) (m0 m1 m2 m3 f : Int) : Prop where
  lt : b < W.heap.size
  c0 : W.cell? ⟨b, 0, none⟩ = some (.int .u64 m0)
  c1 : W.cell? ⟨b, 1, none⟩ = some (.int .u64 m1)
  c2 : W.cell? ⟨b, 2, none⟩ = some (.int .u64 m2)
  c3 : W.cell? ⟨b, 3, none⟩ = some (.int .u64 m3)
  c4 : W.cell? ⟨b, 4, none⟩ = some (.int .u64 f)
theorem Five.below {W W' : World} {b : Nat} {m0 m1 m2 m3 f : Int} (h : Five W b m0 m1 m2 m3 f) (hb : Below W.heap.size W W') : Five W' b m0 m1 m2 m3 f :=
  ⟨Nat.lt_of_lt_of_le h.lt hb.size, by rw [hb.cell (p := ⟨b, 0, none⟩) h.lt]; exact h.c0, by rw [hb.cell (p := ⟨b, 1, none⟩) h.lt]; exact h.c1, by rw [hb.cell (p := ⟨b, 2, none⟩) h.lt]; exact h.c2, by rw [hb.cell (p := ⟨b, 3, none⟩) h.lt]; exact h.c3, by rw [hb.cell (p := ⟨b, 4, none⟩) h.lt]; exact h.c4⟩

/-- Block g holds these four words, and may be written. -/
structure Blk (W : World) (g : Nat) (v0 v1 v2 v3 : Int) : Prop where
  lt : g < W.heap.size
  c0 : W.cell? ⟨g, 0, none⟩ = some (.int .u64 v0)
  c1 : W.cell? ⟨g, 1, none⟩ = some (.int .u64 v1)
  c2 : W.cell? ⟨g, 2, none⟩ = some (.int .u64 v2)
  c3 : W.cell? ⟨g, 3, none⟩ = some (.int .u64 v3)
  fr : ∀ j, W.frozen? ⟨g, j, none⟩ = false
theorem Blk.below {W W' : World} {b : Nat} {v0 v1 v2 v3 : Int} (h : Blk W b v0 v1 v2 v3) (hb : Below W.heap.size W W') : Blk W' b v0 v1 v2 v3 :=
  ⟨Nat.lt_of_lt_of_le h.lt hb.size, (hb.cell (p := ⟨b, 0, none⟩) h.lt).trans h.c0, (hb.cell (p := ⟨b, 1, none⟩) h.lt).trans h.c1, (hb.cell (p := ⟨b, 2, none⟩) h.lt).trans h.c2, (hb.cell (p := ⟨b, 3, none⟩) h.lt).trans h.c3, fun j => (hb.frozen (p := ⟨b, j, none⟩) h.lt).trans (h.fr j)⟩
theorem Blk.alloc {W : World} {b : Nat} {v0 v1 v2 v3 : Int} (h : Blk W b v0 v1 v2 v3) (o : Obj) : Blk (W.alloc o) b v0 v1 v2 v3 := h.below (Below.alloc (Below.refl _ _) (Nat.le_refl _) o)
theorem Blk.drew {W : World} {b : Nat} {v0 v1 v2 v3 : Int} (h : Blk W b v0 v1 v2 v3) : Blk W.drew b v0 v1 v2 v3 := h.below (Below.refl _ _).drew
theorem Blk.new (W : World) (v0 v1 v2 v3 : Int) (t : TypeId) : Blk (W.alloc (.cells #[.int .u64 v0, .int .u64 v1, .int .u64 v2, .int .u64 v3] t)) W.heap.size v0 v1 v2 v3 :=
  ⟨by simp, by simp, by simp, by simp, by simp, fun j => by simp [go_sem]⟩
theorem Blk.other {W : World} {b : Nat} {v0 v1 v2 v3 : Int} (h : Blk W b v0 v1 v2 v3) (g i : Nat) (v : Value) (hg : g ≠ b) : Blk (W.setCell ⟨g, i, none⟩ v) b v0 v1 v2 v3 :=
  ⟨by simpa using h.lt, by rw [World.cell?_setCell_other _ _ _ _ (fun e => hg (congrArg Addr.block e))]; exact h.c0, by rw [World.cell?_setCell_other _ _ _ _ (fun e => hg (congrArg Addr.block e))]; exact h.c1, by rw [World.cell?_setCell_other _ _ _ _ (fun e => hg (congrArg Addr.block e))]; exact h.c2, by rw [World.cell?_setCell_other _ _ _ _ (fun e => hg (congrArg Addr.block e))]; exact h.c3, fun j => by simpa using h.fr j⟩
theorem Blk.set {W : World} {b : Nat} {v0 v1 v2 v3 : Int} (h : Blk W b v0 v1 v2 v3) (x0 x1 x2 x3 : Int) : Blk ((((W.setCell ⟨b, 0, none⟩ (.int .u64 x0)).setCell ⟨b, 1, none⟩ (.int .u64 x1)).setCell ⟨b, 2, none⟩ (.int .u64 x2)).setCell ⟨b, 3, none⟩ (.int .u64 x3)) b x0 x1 x2 x3 := by
  obtain ⟨l, c0, c1, c2, c3, fr⟩ := h
  refine ⟨by simpa using l, ?_, ?_, ?_, ?_, fun j => by simpa using fr j⟩ <;> simp [go_sem, c0, c1, c2, c3]
/-- A modulus in memory: odd, above 2, with its factor. -/
def Md (W : World) (b m : Nat) : Prop := m % 2 = 1 ∧ 1 < m ∧ m < M4 ∧ ∃ (m0 m1 m2 m3 : Int) (f : Nat), Wd m0 ∧ Wd m1 ∧ Wd m2 ∧ Wd m3 ∧ f < 18446744073709551616 ∧ four m = .agg #[.int .u64 m0, .int .u64 m1, .int .u64 m2, .int .u64 m3] ∧
  (m : Int) = m0 + 18446744073709551616 * m1 + 340282366920938463463374607431768211456 * m2 + 6277101735386680763835789423207666416102355444464034512896 * m3 ∧ m0.toNat * f % 18446744073709551616 = 18446744073709551615 ∧ Five W b m0 m1 m2 m3 (f : Int)
theorem Md.below {W W' : World} {b m : Nat} (h : Md W b m) (hb : Below W.heap.size W W') : Md W' b m := by
  obtain ⟨h1, h2, h3, m0, m1, m2, m3, f, k0, k1, k2, k3, k4, k5, k6, k7, k8⟩ := h
  exact ⟨h1, h2, h3, m0, m1, m2, m3, f, k0, k1, k2, k3, k4, k5, k6, k7, k8.below hb⟩

theorem within_pick (a c m : Nat) (ha : a < M4) (hm : m < M4) (hc : c ≤ 1) (h : a + c * M4 < 2 * m) :
    (bits .and .u64 (bits .or .u64 (c : Int) (bits .xor .u64 (bor a m) 1)) 1 = 1 ∧ (a + c * M4) % m = (a + M4 - m) % M4) ∨
    (bits .and .u64 (bits .or .u64 (c : Int) (bits .xor .u64 (bor a m) 1)) 1 = 0 ∧ (a + c * M4) % m = a) := by
  unfold bor
  rcases (show c = 0 ∨ c = 1 by omega) with rfl | rfl
  · by_cases hl : a < m
    · rw [if_pos hl]
      refine Or.inr ⟨by decide, ?_⟩
      rw [Nat.zero_mul, Nat.add_zero, Nat.mod_eq_of_lt hl]
    · rw [if_neg hl]
      refine Or.inl ⟨by decide, ?_⟩
      rw [Nat.zero_mul, Nat.add_zero, Nat.mod_eq_sub_mod (by omega), Nat.mod_eq_of_lt (by omega), show a + M4 - m = a - m + M4 by omega, Nat.add_mod_right, Nat.mod_eq_of_lt (by omega)]
  · refine Or.inl ⟨?_, ?_⟩
    · split <;> decide
    · rw [Nat.one_mul] at h ⊢
      rw [Nat.mod_eq_sub_mod (by omega), Nat.mod_eq_of_lt (by omega), Nat.mod_eq_of_lt (by omega)]

set_option maxHeartbeats 1000000 in
theorem within_any (W : World) (b m a c : Nat) (hM : Md W b m) (ha : a < M4) (hc : c ≤ 1) (h : a + c * M4 < 2 * m) :
    Calls Tryd.prog 102 #[.pointer (some ⟨b, 0, none⟩), four a, .int .u64 (c : Int)] W fun e w' => e = .returned (four ((a + c * M4) % m)) ∧ Below W.heap.size W w' := by
  obtain ⟨h1, h2, h3, m0, m1, m2, m3, f, k0, k1, k2, k3, k4, k5, k6, k7, k8⟩ := hM
  obtain ⟨a0, a1, a2, a3, -, -, -, -, ea, -⟩ := four_open a ha
  have cS : Hid (∀ w, Calls Tryd.prog 118 #[.agg #[.int .u64 a0, .int .u64 a1, .int .u64 a2, .int .u64 a3], .agg #[.int .u64 m0, .int .u64 m1, .int .u64 m2, .int .u64 m3]] w fun e w' => e = .returned (.tuple #[four ((a + M4 - m) % M4), .int .u64 (bor a m)]) ∧ Below w.heap.size w w') := by
    intro w; have := sub_any a m ha h3 w; rwa [ea, k5] at this
  obtain ⟨z, hz⟩ : ∃ z, (a + c * M4) % m = z := ⟨_, rfl⟩
  obtain ⟨x, hx⟩ : ∃ x, (a + M4 - m) % M4 = x := ⟨_, rfl⟩
  obtain ⟨t, ht⟩ : ∃ t, bor a m = t := ⟨_, rfl⟩
  have hp := within_pick a c m ha h3 hc h
  rw [hz, hx, ht] at hp
  rw [hx, ht] at cS
  have hxM : x < M4 := by rw [← hx]; exact Nat.mod_lt _ M4_pos
  have hzM : z < M4 := by rw [← hz]; exact Nat.lt_trans (Nat.mod_lt _ (by omega)) h3
  rw [hz]
  obtain ⟨z0, z1, z2, z3, -, -, -, -, ez, -⟩ := four_open z hzM
  obtain ⟨x0, x1, x2, x3, -, -, -, -, ex, -⟩ := four_open x hxM
  have cL : Hid (∀ w, Calls Tryd.prog 119 #[.int .u64 (bits .or .u64 (c : Int) (bits .xor .u64 t 1)), .agg #[.int .u64 x0, .int .u64 x1, .int .u64 x2, .int .u64 x3], .agg #[.int .u64 a0, .int .u64 a1, .int .u64 a2, .int .u64 a3]] w fun e w' => e = .returned (.agg #[.int .u64 z0, .int .u64 z1, .int .u64 z2, .int .u64 z3]) ∧ Below w.heap.size w w') := by
    intro w; have := select_any (bits .or .u64 (c : Int) (bits .xor .u64 t 1)) x a z hxM ha hp w; rwa [ea, ex, ez] at this
  rw [ex] at cS
  rw [ea, ez]
  clear ea ex ez hp hz hx ht k5 k6 k7
  obtain ⟨l, c0, c1, c2, c3, c4⟩ := k8
  have l1 : b < W.heap.size + 1 := by omega
  have l2 : b < W.heap.size + 1 + 1 := by omega
  have n0 : ¬ b = W.heap.size := by omega
  have n1 : ¬ b = W.heap.size + 1 := by omega
  have n2 : ¬ b = W.heap.size + 1 + 1 := by omega
  go_enter Tryd.func102, Tryd.ntmps102
  go_wp2_with fail
  have bR : Hid (Blk ((W.alloc (.cells #[.int .u64 a0, .int .u64 a1, .int .u64 a2, .int .u64 a3] 25)).alloc (.cells #[.int .u64 0, .int .u64 0, .int .u64 0, .int .u64 0] 25)) (W.heap.size + 1) 0 0 0 0) := by have := Blk.new (W.alloc (.cells #[.int .u64 a0, .int .u64 a1, .int .u64 a2, .int .u64 a3] 25)) 0 0 0 0 25; simp at this; exact this
  have bA : Hid (Blk ((W.alloc (.cells #[.int .u64 a0, .int .u64 a1, .int .u64 a2, .int .u64 a3] 25)).alloc (.cells #[.int .u64 0, .int .u64 0, .int .u64 0, .int .u64 0] 25)) W.heap.size a0 a1 a2 a3) := (Blk.new W a0 a1 a2 a3 25).alloc _
  go_cut [7, 8] (fun s u V => ∃ g, s = .pointer (some ⟨g, 0, none⟩) ∧ u = .int .u64 t ∧ Hid (Blk V g x0 x1 x2 x3 ∧ Blk V W.heap.size a0 a1 a2 a3 ∧ Blk V (W.heap.size + 1) 0 0 0 0 ∧ Below W.heap.size W V))
  case first =>
    go_region_with (go_at_call 118; refine (cS.out _).mono ?_; rintro e w1 ⟨rfl, g1⟩; first
      | (have bZ : Blk w1 (W.heap.size + 1 + 1) 0 0 0 0 := by
          refine Blk.below ?_ g1
          refine Blk.drew ?_
          have := Blk.new ((W.alloc (.cells #[.int .u64 a0, .int .u64 a1, .int .u64 a2, .int .u64 a3] 25)).alloc (.cells #[.int .u64 0, .int .u64 0, .int .u64 0, .int .u64 0] 25)) 0 0 0 0 25
          simp at this
          exact this
         obtain ⟨z0, z1, z2, z3, z4, z5⟩ := bZ)
      | skip)
    all_goals
      go_wp2_with fail
      go_meet
      refine ⟨_, rfl, rfl, ?_⟩
      have gs := g1.size
      simp at gs
      first
        | exact ⟨Blk.new _ _ _ _ _ _, (bA.out.drew.below g1).alloc _, (bR.out.drew.below g1).alloc _, by repeat (first | exact Below.refl _ _ | refine Below.drew ?_ | refine Below.alloc ?_ (by first | omega | (simp <;> omega)) _ | refine Below.trans ?_ (g1.mono (by first | omega | (simp <;> omega))))⟩
        | (have bZ : Blk w1 (W.heap.size + 1 + 1) 0 0 0 0 := ⟨z0, z1, z2, z3, z4, z5⟩
           refine ⟨bZ.set _ _ _ _, ((((bA.out.alloc _).drew.below g1).other _ _ _ (by omega)).other _ _ _ (by omega) |>.other _ _ _ (by omega)).other _ _ _ (by omega), ((((bR.out.alloc _).drew.below g1).other _ _ _ (by omega)).other _ _ _ (by omega) |>.other _ _ _ (by omega)).other _ _ _ (by omega), ?_⟩
           repeat (first | exact Below.refl _ _ | refine Below.drew ?_ | refine Below.setCell ?_ (by first | omega | (simp <;> omega)) _ | refine Below.alloc ?_ (by first | omega | (simp <;> omega)) _ | refine Below.trans ?_ (g1.mono (by first | omega | (simp <;> omega)))))
  case rest =>
  obtain ⟨g, rfl, rfl, H⟩ := hcut
  obtain ⟨l1, ca0, ca1, ca2, ca3, -⟩ := H.out.1
  obtain ⟨l2, cb0, cb1, cb2, cb3, -⟩ := H.out.2.1
  go_wp2_with fail
  refine (cL.out _).mono ?_
  rintro e w2 ⟨rfl, g2⟩
  obtain ⟨l3, cc0, cc1, cc2, cc3, cf⟩ := H.out.2.2.1.below g2
  go_wp2_with fail
  refine bodyPost_ret (v := .agg #[.int .u64 z0, .int .u64 z1, .int .u64 z2, .int .u64 z3]) (by simp [results, Tryd.results102, go_sem, cc0, cc1, cc2, cc3]) rfl ⟨rfl, ?_⟩
  have gs := H.out.2.2.2.size
  have gs2 := g2.size
  repeat (first | exact H.out.2.2.2 | refine Below.setCell ?_ (by first | omega | (simp <;> omega)) _ | refine Below.trans ?_ (g2.mono gs))

end Go.Proofs.YtedhfimjcpbcpaaDoor

/-
  The contract of ring's add: for a modulus in memory and two residues it returns their sum modulo m, and changes no memory that was there. Conditions: as the theorem says.
-/
namespace Go.Proofs.YtedhfimjcpbcpaaDoor
open Go.RowKit
set_option linter.unusedVariables false

set_option maxHeartbeats 1000000 in
theorem addR_ring (W : World) (b m x y : Nat) (hM : Md W b m) (hx : x < m) (hy : y < m) :
    Calls Tryd.prog 75 #[.pointer (some ⟨b, 0, none⟩), four x, four y] W fun e w' => e = .returned (four ((x + y) % m)) ∧ Below W.heap.size W w' := by
  have HM : Hid (Md W b m) := hM
  obtain ⟨h1, h2, h3, -⟩ := hM
  have hxM : x < M4 := Nat.lt_trans hx h3
  have hyM : y < M4 := Nat.lt_trans hy h3
  obtain ⟨s, hs⟩ : ∃ s, (x + y) % M4 = s := ⟨_, rfl⟩
  obtain ⟨c, hc⟩ : ∃ c, (x + y) / M4 = c := ⟨_, rfl⟩
  have hsum : s + c * M4 = x + y := by rw [← hs, ← hc, Nat.mul_comm]; exact Nat.mod_add_div _ _
  have hsM : s < M4 := by rw [← hs]; exact Nat.mod_lt _ M4_pos
  have hc1 : c ≤ 1 := by rw [← hc]; unfold M4 at *; omega
  have hzM : (x + y) % m < M4 := Nat.lt_trans (Nat.mod_lt _ (by omega)) h3
  obtain ⟨x0, x1, x2, x3, -, -, -, -, ex, -⟩ := four_open x hxM
  obtain ⟨y0, y1, y2, y3, -, -, -, -, ey, -⟩ := four_open y hyM
  obtain ⟨s0, s1, s2, s3, -, -, -, -, es, -⟩ := four_open s hsM
  obtain ⟨z0, z1, z2, z3, -, -, -, -, ez, -⟩ := four_open _ hzM
  have cA : Hid (∀ w, Calls Tryd.prog 27 #[.agg #[.int .u64 x0, .int .u64 x1, .int .u64 x2, .int .u64 x3], .agg #[.int .u64 y0, .int .u64 y1, .int .u64 y2, .int .u64 y3]] w fun e w' => e = .returned (.tuple #[.agg #[.int .u64 s0, .int .u64 s1, .int .u64 s2, .int .u64 s3], .int .u64 (c : Int)]) ∧ Below w.heap.size w w') := by
    intro w; have := add_any x y hxM hyM w; rwa [hs, hc, ex, ey, es] at this
  have cW : Hid (∀ w, Below W.heap.size W w → Calls Tryd.prog 102 #[.pointer (some ⟨b, 0, none⟩), .agg #[.int .u64 s0, .int .u64 s1, .int .u64 s2, .int .u64 s3], .int .u64 (c : Int)] w fun e w' => e = .returned (.agg #[.int .u64 z0, .int .u64 z1, .int .u64 z2, .int .u64 z3]) ∧ Below w.heap.size w w') := by
    intro w hw; have := within_any w b m s c (HM.out.below hw) hsM hc1 (by omega); rwa [hsum, es, ez] at this
  rw [ex, ey, ez]
  clear ex ey es ez hs hc hsum hsM hc1 hzM HM
  have bR : Hid (Blk (((W.alloc (.cells #[.int .u64 x0, .int .u64 x1, .int .u64 x2, .int .u64 x3] 25)).alloc (.cells #[.int .u64 y0, .int .u64 y1, .int .u64 y2, .int .u64 y3] 25)).alloc (.cells #[.int .u64 0, .int .u64 0, .int .u64 0, .int .u64 0] 25)) (W.heap.size + 1 + 1) 0 0 0 0) := by
    have hb := Blk.new ((W.alloc (.cells #[.int .u64 x0, .int .u64 x1, .int .u64 x2, .int .u64 x3] 25)).alloc (.cells #[.int .u64 y0, .int .u64 y1, .int .u64 y2, .int .u64 y3] 25)) 0 0 0 0 25
    simp only [World.size_alloc] at hb
    exact hb
  have bB : Hid (Below W.heap.size W (((W.alloc (.cells #[.int .u64 x0, .int .u64 x1, .int .u64 x2, .int .u64 x3] 25)).alloc (.cells #[.int .u64 y0, .int .u64 y1, .int .u64 y2, .int .u64 y3] 25)).alloc (.cells #[.int .u64 0, .int .u64 0, .int .u64 0, .int .u64 0] 25))) := by
    repeat (first | exact Below.refl _ _ | refine Below.alloc ?_ (by first | omega | (simp <;> omega)) _)
  go_enter Tryd.func75, Tryd.ntmps75
  go_wp2_with fail
  refine (cA.out _).mono ?_
  rintro e w1 ⟨rfl, g1⟩
  have BR := Hid.out bR |>.below g1
  have BB : Below W.heap.size W w1 := bB.out.trans (g1.mono bB.out.size)
  have HR : Hid (Blk w1 (W.heap.size + 1 + 1) 0 0 0 0) := BR
  have HB : Hid (Below W.heap.size W w1) := BB
  clear BR BB g1 bR bB
  go_wp2_with fail
  refine (cW.out _ HB.out).mono ?_
  rintro e w2 ⟨rfl, g2⟩
  obtain ⟨l3, cc0, cc1, cc2, cc3, cf⟩ := HR.out.below g2
  go_wp2_with fail
  refine bodyPost_ret (v := .agg #[.int .u64 z0, .int .u64 z1, .int .u64 z2, .int .u64 z3]) (by simp [results, Tryd.results75, go_sem, cc0, cc1, cc2, cc3]) rfl ⟨rfl, ?_⟩
  have gs := HB.out.size
  have gs2 := g2.size
  repeat (first | exact HB.out | refine Below.setCell ?_ (by first | omega | (simp <;> omega)) _ | refine Below.trans ?_ (g2.mono gs))

end Go.Proofs.YtedhfimjcpbcpaaDoor
