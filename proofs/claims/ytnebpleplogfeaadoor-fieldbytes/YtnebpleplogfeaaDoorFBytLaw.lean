/-
  The walk of the law FieldBytes: for any bytes and any element it returns true and changes no memory that was there, where the package's variables are as the program lays them. Conditions: as each theorem says.
-/
import Derived.Test.YtnebpleplogfeaaDoorFO
import Derived.Test.YtnebpleplogfeaaDoorFX
import Derived.Test.YtnebpleplogfeaaDoorFY
import Derived.Test.YtnebpleplogfeaaDoorHand
namespace Go.Proofs.YtnebpleplogfeaaDoor
open Go.RowKit
set_option linter.unusedVariables false
set_option linter.unusedSimpArgs false

attribute [local go_sem] ext_cell ext_frozen
set_option maxRecDepth 100000 in
set_option maxHeartbeats 16000000 in
theorem fbyt_far0 (l0 l1 : List Nat) (hb0 : Bb l0) (hb1 : Bb l1) (v0 v1 : Value) (x : L5) (hx : x.Wds) (hl : 100 < l0.length) (w : World) (h0 : SK .u8 w v0 l0) (h1 : SK .u8 w v1 l1) (hg : Gl w) : Calls Tryd.prog 6 #[v0, v1, .agg #[.int .u64 x.l0, .int .u64 x.l1, .int .u64 x.l2, .int .u64 x.l3, .int .u64 x.l4]] w fun e w' => e = .returned (.bool true) ∧ Below w.heap.size w w' := by
  have HG : Hid (Gl w) := hg
  have hs0 : Hid (SK .u8 w v0 l0) := h0
  have hs1 : Hid (SK .u8 w v1 l1) := h1
  have kw : Hid (∀ W, Gl W → Calls Tryd.prog 8 #[] W fun e w' => e = .returned (.bool true) ∧ Below W.heap.size W w') := fun W h => awake4_any W h
  have HE : Hid (∀ W : World, Els (W.alloc (.cells #[.int .u64 x.l0, .int .u64 x.l1, .int .u64 x.l2, .int .u64 x.l3, .int .u64 x.l4] 24)) W.heap.size 1 (fun _ => x)) := fun W => els_one W x
  have gl := hg.lt
  obtain ⟨a0, d0, rfl⟩ := h0.shape
  obtain ⟨a1, d1, rfl⟩ := h1.shape
  have hl' : (100 : Int) < (l0.length : Int) := by omega
  clear hg h0 h1 hx HE
  obtain ⟨x0, x1, x2, x3, x4⟩ := x
  dsimp only
  go_enter Tryd.func6, Tryd.ntmps6
  go_wp2_with fail
  refine calls_at (fun V => Bl5 V w.heap.size x0 x1 x2 x3 x4 ∧ SK .u8 V (.slice a0 l0.length d0) l0 ∧ SK .u8 V (.slice a1 l1.length d1) l1 ∧ Gl V ∧ Below w.heap.size w V) ⟨?_, ?_, ?_, ?_, ?_⟩ ?_
  · (repeat (first | refine Bl5.drew ?_ | refine Bl5.drewN ?_ _ | (refine Bl5.new _ _ _ _ _ _ _ _ ?_; simp; done) | refine Bl5.alloc ?_ _))
  · exact hs0.out.below ((Below.refl _ _).alloc (Nat.le_refl _) _)
  · exact hs1.out.below ((Below.refl _ _).alloc (Nat.le_refl _) _)
  · refine Gl.grown HG.out ?_
    (repeat (first | exact Below.refl _ _ | refine Below.drew ?_ | refine below_drewN ?_ _ | refine Below.alloc ?_ (by simp <;> omega) _))
  · (repeat (first | exact Below.refl _ _ | refine Below.drew ?_ | refine below_drewN ?_ _ | refine Below.alloc ?_ (by simp <;> omega) _ | refine Below.setCell ?_ (by simp <;> omega) _))
  rintro v1 ⟨k0, k1, k2, k3, k4⟩
  have A_1 : Hid (Bl5 v1 w.heap.size x0 x1 x2 x3 x4) := k0
  have S_1 : Hid (SK .u8 v1 (.slice a0 l0.length d0) l0) := k1
  have T_1 : Hid (SK .u8 v1 (.slice a1 l1.length d1) l1) := k2
  have Z_1 : Hid (Gl v1) := k3
  have G_1 : Hid (Below w.heap.size w v1) := k4
  clear k0 k1 k2 k3 k4
  refine (kw.out _ Z_1.out).mono ?_
  rintro e v2 ⟨rfl, g⟩
  have A_2 : Hid (Bl5 v2 w.heap.size x0 x1 x2 x3 x4) := A_1.out.below g
  have S_2 : Hid (SK .u8 v2 (.slice a0 l0.length d0) l0) := S_1.out.below g
  have T_2 : Hid (SK .u8 v2 (.slice a1 l1.length d1) l1) := T_1.out.below g
  have Z_2 : Hid (Gl v2) := Z_1.out.grown g
  have G_2 : Hid (Below w.heap.size w v2) := G_1.out.trans (g.mono G_1.out.size)
  clear A_1 S_1 T_1 Z_1 G_1 g
  go_wp2_with fail
  go_ret
  exact ⟨rfl, G_2.out⟩

set_option maxRecDepth 100000 in
set_option maxHeartbeats 16000000 in
theorem fbyt_far1 (l0 l1 : List Nat) (hb0 : Bb l0) (hb1 : Bb l1) (v0 v1 : Value) (x : L5) (hx : x.Wds) (hm : l0.length ≤ 100) (hl : 100 < l1.length) (w : World) (h0 : SK .u8 w v0 l0) (h1 : SK .u8 w v1 l1) (hg : Gl w) : Calls Tryd.prog 6 #[v0, v1, .agg #[.int .u64 x.l0, .int .u64 x.l1, .int .u64 x.l2, .int .u64 x.l3, .int .u64 x.l4]] w fun e w' => e = .returned (.bool true) ∧ Below w.heap.size w w' := by
  have HG : Hid (Gl w) := hg
  have hs0 : Hid (SK .u8 w v0 l0) := h0
  have hs1 : Hid (SK .u8 w v1 l1) := h1
  have kw : Hid (∀ W, Gl W → Calls Tryd.prog 8 #[] W fun e w' => e = .returned (.bool true) ∧ Below W.heap.size W w') := fun W h => awake4_any W h
  have HE : Hid (∀ W : World, Els (W.alloc (.cells #[.int .u64 x.l0, .int .u64 x.l1, .int .u64 x.l2, .int .u64 x.l3, .int .u64 x.l4] 24)) W.heap.size 1 (fun _ => x)) := fun W => els_one W x
  have gl := hg.lt
  obtain ⟨a0, d0, rfl⟩ := h0.shape
  obtain ⟨a1, d1, rfl⟩ := h1.shape
  have hm' : ¬ (100 : Int) < (l0.length : Int) := by omega
  have hl' : (100 : Int) < (l1.length : Int) := by omega
  clear hg h0 h1 hx HE
  obtain ⟨x0, x1, x2, x3, x4⟩ := x
  dsimp only
  go_enter Tryd.func6, Tryd.ntmps6
  go_wp2_with fail
  refine calls_at (fun V => Bl5 V w.heap.size x0 x1 x2 x3 x4 ∧ SK .u8 V (.slice a0 l0.length d0) l0 ∧ SK .u8 V (.slice a1 l1.length d1) l1 ∧ Gl V ∧ Below w.heap.size w V) ⟨?_, ?_, ?_, ?_, ?_⟩ ?_
  · (repeat (first | refine Bl5.drew ?_ | refine Bl5.drewN ?_ _ | (refine Bl5.new _ _ _ _ _ _ _ _ ?_; simp; done) | refine Bl5.alloc ?_ _))
  · exact hs0.out.below ((Below.refl _ _).alloc (Nat.le_refl _) _)
  · exact hs1.out.below ((Below.refl _ _).alloc (Nat.le_refl _) _)
  · refine Gl.grown HG.out ?_
    (repeat (first | exact Below.refl _ _ | refine Below.drew ?_ | refine below_drewN ?_ _ | refine Below.alloc ?_ (by simp <;> omega) _))
  · (repeat (first | exact Below.refl _ _ | refine Below.drew ?_ | refine below_drewN ?_ _ | refine Below.alloc ?_ (by simp <;> omega) _ | refine Below.setCell ?_ (by simp <;> omega) _))
  rintro v1 ⟨k0, k1, k2, k3, k4⟩
  have A_1 : Hid (Bl5 v1 w.heap.size x0 x1 x2 x3 x4) := k0
  have S_1 : Hid (SK .u8 v1 (.slice a0 l0.length d0) l0) := k1
  have T_1 : Hid (SK .u8 v1 (.slice a1 l1.length d1) l1) := k2
  have Z_1 : Hid (Gl v1) := k3
  have G_1 : Hid (Below w.heap.size w v1) := k4
  clear k0 k1 k2 k3 k4
  refine (kw.out _ Z_1.out).mono ?_
  rintro e v2 ⟨rfl, g⟩
  have A_2 : Hid (Bl5 v2 w.heap.size x0 x1 x2 x3 x4) := A_1.out.below g
  have S_2 : Hid (SK .u8 v2 (.slice a0 l0.length d0) l0) := S_1.out.below g
  have T_2 : Hid (SK .u8 v2 (.slice a1 l1.length d1) l1) := T_1.out.below g
  have Z_2 : Hid (Gl v2) := Z_1.out.grown g
  have G_2 : Hid (Below w.heap.size w v2) := G_1.out.trans (g.mono G_1.out.size)
  clear A_1 S_1 T_1 Z_1 G_1 g
  go_wp2_with fail
  go_ret
  exact ⟨rfl, G_2.out⟩

set_option maxRecDepth 100000 in
set_option maxHeartbeats 16000000 in
theorem fbyt_wild (l0 l1 : List Nat) (hb0 : Bb l0) (hb1 : Bb l1) (v0 v1 : Value) (x : L5) (hx : x.Wds) (hm : l0.length ≤ 100) (hl : l1.length ≤ 100) (ht : ¬ x.Tm) (w : World) (h0 : SK .u8 w v0 l0) (h1 : SK .u8 w v1 l1) (hg : Gl w) : Calls Tryd.prog 6 #[v0, v1, .agg #[.int .u64 x.l0, .int .u64 x.l1, .int .u64 x.l2, .int .u64 x.l3, .int .u64 x.l4]] w fun e w' => e = .returned (.bool true) ∧ Below w.heap.size w w' := by
  have HG : Hid (Gl w) := hg
  have hs0 : Hid (SK .u8 w v0 l0) := h0
  have hs1 : Hid (SK .u8 w v1 l1) := h1
  have kw : Hid (∀ W, Gl W → Calls Tryd.prog 8 #[] W fun e w' => e = .returned (.bool true) ∧ Below W.heap.size W w') := fun W h => awake4_any W h
  have HE : Hid (∀ W : World, Els (W.alloc (.cells #[.int .u64 x.l0, .int .u64 x.l1, .int .u64 x.l2, .int .u64 x.l3, .int .u64 x.l4] 24)) W.heap.size 1 (fun _ => x)) := fun W => els_one W x
  have gl := hg.lt
  obtain ⟨a0, d0, rfl⟩ := h0.shape
  obtain ⟨a1, d1, rfl⟩ := h1.shape
  have hm' : ¬ (100 : Int) < (l0.length : Int) := by omega
  have hl' : ¬ (100 : Int) < (l1.length : Int) := by omega
  have kt' : ∀ W g, Els W g 1 (fun _ => x) → Calls Tryd.prog 9 #[.slice (some ⟨g, 0, none⟩) 1 1] W fun e w' => e = .returned (.bool false) ∧ Below W.heap.size W w' := fun W g h => tame_any (fun _ => x) 1 g (by omega) (fun _ _ => hx) W h false ⟨fun h => by simp at h, fun h => absurd (h 0 (by omega)) ht⟩
  clear hg h0 h1 hx ht
  obtain ⟨x0, x1, x2, x3, x4⟩ := x
  dsimp only at kt' HE ⊢
  have Kt : Hid (∀ W g, Els W g 1 (fun _ => ⟨x0, x1, x2, x3, x4⟩) → Calls Tryd.prog 9 #[.slice (some ⟨g, 0, none⟩) 1 1] W fun e w' => e = .returned (.bool false) ∧ Below W.heap.size W w') := kt'
  clear kt'
  go_enter Tryd.func6, Tryd.ntmps6
  go_wp2_with fail
  refine calls_at (fun V => Bl5 V w.heap.size x0 x1 x2 x3 x4 ∧ SK .u8 V (.slice a0 l0.length d0) l0 ∧ SK .u8 V (.slice a1 l1.length d1) l1 ∧ Gl V ∧ Below w.heap.size w V) ⟨?_, ?_, ?_, ?_, ?_⟩ ?_
  · (repeat (first | refine Bl5.drew ?_ | refine Bl5.drewN ?_ _ | (refine Bl5.new _ _ _ _ _ _ _ _ ?_; simp; done) | refine Bl5.alloc ?_ _))
  · exact hs0.out.below ((Below.refl _ _).alloc (Nat.le_refl _) _)
  · exact hs1.out.below ((Below.refl _ _).alloc (Nat.le_refl _) _)
  · refine Gl.grown HG.out ?_
    (repeat (first | exact Below.refl _ _ | refine Below.drew ?_ | refine below_drewN ?_ _ | refine Below.alloc ?_ (by simp <;> omega) _))
  · (repeat (first | exact Below.refl _ _ | refine Below.drew ?_ | refine below_drewN ?_ _ | refine Below.alloc ?_ (by simp <;> omega) _ | refine Below.setCell ?_ (by simp <;> omega) _))
  rintro v1 ⟨k0, k1, k2, k3, k4⟩
  have A_1 : Hid (Bl5 v1 w.heap.size x0 x1 x2 x3 x4) := k0
  have S_1 : Hid (SK .u8 v1 (.slice a0 l0.length d0) l0) := k1
  have T_1 : Hid (SK .u8 v1 (.slice a1 l1.length d1) l1) := k2
  have Z_1 : Hid (Gl v1) := k3
  have G_1 : Hid (Below w.heap.size w v1) := k4
  clear k0 k1 k2 k3 k4
  refine (kw.out _ Z_1.out).mono ?_
  rintro e v2 ⟨rfl, g⟩
  have A_2 : Hid (Bl5 v2 w.heap.size x0 x1 x2 x3 x4) := A_1.out.below g
  have S_2 : Hid (SK .u8 v2 (.slice a0 l0.length d0) l0) := S_1.out.below g
  have T_2 : Hid (SK .u8 v2 (.slice a1 l1.length d1) l1) := T_1.out.below g
  have Z_2 : Hid (Gl v2) := Z_1.out.grown g
  have G_2 : Hid (Below w.heap.size w v2) := G_1.out.trans (g.mono G_1.out.size)
  clear A_1 S_1 T_1 Z_1 G_1 g
  obtain ⟨cal, ca0, ca1, ca2, ca3, ca4, caf⟩ := A_2.out
  go_wp2_with fail
  clear cal ca0 ca1 ca2 ca3 ca4 caf
  refine calls_at (fun V => Els V v2.heap.size 1 (fun _ => ⟨x0, x1, x2, x3, x4⟩) ∧ Bl5 V w.heap.size x0 x1 x2 x3 x4 ∧ SK .u8 V (.slice a0 l0.length d0) l0 ∧ SK .u8 V (.slice a1 l1.length d1) l1 ∧ Gl V ∧ Below w.heap.size w V) ⟨HE.out v2, A_2.out.alloc _, S_2.out.below ((Below.refl _ _).alloc (Nat.le_refl _) _), T_2.out.below ((Below.refl _ _).alloc (Nat.le_refl _) _), Z_2.out.grown ((Below.refl _ _).alloc (Nat.le_refl _) _), G_2.out.alloc G_2.out.size _⟩ ?_
  rintro v3 ⟨hE, kA, kS, kT, kZ, kG⟩
  have A_3 : Hid (Bl5 v3 w.heap.size x0 x1 x2 x3 x4) := kA
  have S_3 : Hid (SK .u8 v3 (.slice a0 l0.length d0) l0) := kS
  have T_3 : Hid (SK .u8 v3 (.slice a1 l1.length d1) l1) := kT
  have Z_3 : Hid (Gl v3) := kZ
  have G_3 : Hid (Below w.heap.size w v3) := kG
  have hE' : Hid (Els v3 v2.heap.size 1 (fun _ => ⟨x0, x1, x2, x3, x4⟩)) := hE
  clear hE kA kS kT kZ kG A_2 S_2 T_2 Z_2 G_2
  refine (Kt.out _ _ hE'.out).mono ?_
  rintro e v4 ⟨rfl, g⟩
  have A_4 : Hid (Bl5 v4 w.heap.size x0 x1 x2 x3 x4) := A_3.out.below g
  have S_4 : Hid (SK .u8 v4 (.slice a0 l0.length d0) l0) := S_3.out.below g
  have T_4 : Hid (SK .u8 v4 (.slice a1 l1.length d1) l1) := T_3.out.below g
  have Z_4 : Hid (Gl v4) := Z_3.out.grown g
  have G_4 : Hid (Below w.heap.size w v4) := G_3.out.trans (g.mono G_3.out.size)
  clear A_3 S_3 T_3 Z_3 G_3 g
  clear hE'
  go_wp2_with fail
  go_ret
  exact ⟨rfl, G_4.out⟩

set_option maxRecDepth 100000 in
set_option maxHeartbeats 16000000 in
theorem fbyt_0y (l0 l1 : List Nat) (hb0 : Bb l0) (hb1 : Bb l1) (v0 v1 : Value) (x : L5) (hx : x.Wds) (hm : l0.length ≤ 100) (hl : l1.length ≤ 100) (ht : x.Tm) (c1 : l0.length = 32) (c2 : hvN (turn l0) l0.length < P25) (c3 : l1.length ≤ 64) (w : World) (h0 : SK .u8 w v0 l0) (h1 : SK .u8 w v1 l1) (hg : Gl w) : Calls Tryd.prog 6 #[v0, v1, .agg #[.int .u64 x.l0, .int .u64 x.l1, .int .u64 x.l2, .int .u64 x.l3, .int .u64 x.l4]] w fun e w' => e = .returned (.bool true) ∧ Below w.heap.size w w' := by
  have HG : Hid (Gl w) := hg
  have hs0 : Hid (SK .u8 w v0 l0) := h0
  have hs1 : Hid (SK .u8 w v1 l1) := h1
  have kw : Hid (∀ W, Gl W → Calls Tryd.prog 8 #[] W fun e w' => e = .returned (.bool true) ∧ Below W.heap.size W w') := fun W h => awake4_any W h
  have HE : Hid (∀ W : World, Els (W.alloc (.cells #[.int .u64 x.l0, .int .u64 x.l1, .int .u64 x.l2, .int .u64 x.l3, .int .u64 x.l4] 24)) W.heap.size 1 (fun _ => x)) := fun W => els_one W x
  have gl := hg.lt
  obtain ⟨a0, d0, rfl⟩ := h0.shape
  obtain ⟨a1, d1, rfl⟩ := h1.shape
  have hm' : ¬ (100 : Int) < (l0.length : Int) := by omega
  have hl' : ¬ (100 : Int) < (l1.length : Int) := by omega
  have kt' : ∀ W g, Els W g 1 (fun _ => x) → Calls Tryd.prog 9 #[.slice (some ⟨g, 0, none⟩) 1 1] W fun e w' => e = .returned (.bool true) ∧ Below W.heap.size W w' := fun W g h => tame_any (fun _ => x) 1 g (by omega) (fun _ _ => hx) W h true ⟨fun _ _ _ => ht, fun _ => rfl⟩
  obtain ⟨z, ok, eo, e1, e2, kO⟩ := of_all l0 hb0
  have KL : Hid (∀ v w, SK .u8 w v l0 → Calls Tryd.prog 32 #[v] w fun e w' => ∃ v, e = .returned v ∧ Num w' v (hvN (turn l0) l0.length) ∧ Below w.heap.size w w') := fun v w h => littleN_any l0 hb0 v w h (by omega)
  rw [decide_eq_true ⟨c1, c2⟩] at eo
  subst eo
  have iz := fun v w h => is_yes z (e1 rfl).1 _ (e1 rfl).2 v w h
  have c1' : (l0.length : Int) = 32 := by omega
  have hN : hvN (turn l0) l0.length < 16777216 ^ 22 := Nat.lt_of_lt_of_le (hvN_lt _ (turn_bb l0 hb0) _) (by rw [c1]; exact pow256 32 22 (by omega))
  obtain ⟨od, hod⟩ : ∃ o, ord ((hvN (turn l0) l0.length : Nat) : Int) (P25 : Int) = o := ⟨_, rfl⟩
  have hlt : od < 0 := by
    rw [← hod]; unfold ord
    split
    · omega
    · split <;> omega
  have KC : Hid (∀ u v w, Num w u (hvN (turn l0) l0.length) → Num w v P25 → Calls Tryd.prog 29 #[u, v] w fun e w' => e = .returned (.int .i64 od) ∧ Below w.heap.size w w') := by
    intro u v w h h'
    rw [← hod]
    exact cmp_num _ P25 u v w h h' 22 hN P25_lt22 (by omega)
  have KP : Hid (∀ w, Calls Tryd.prog 33 #[] w fun e w' => ∃ v, e = .returned v ∧ Num w' v P25 ∧ Below w.heap.size w w') := fun w => pD_num w
  have c3' : (l1.length : Int) ≤ 64 := by omega
  have hd : decide ((l1.length : Int) ≤ 64) = true := decide_eq_true c3'
  have hd2 : decide ((64 : Int) < (l1.length : Int)) = false := decide_eq_false (by omega)
  obtain ⟨y, hy, ey, kW⟩ := wide_yes l1 hb1 c3
  have iy := fun v w h => is_yes y hy _ ey v w h
  have hM : hvN l1 l1.length < 16777216 ^ 40 := Nat.lt_of_lt_of_le (hvN_lt _ hb1 _) (pow256 _ 40 (by omega))
  have KB : Hid (∀ v w, SK .u8 w v l1 → Calls Tryd.prog 36 #[v] w fun e w' => ∃ v, e = .returned v ∧ Num w' v (hvN l1 l1.length) ∧ Below w.heap.size w w') := fun v w h => bigN_any l1 hb1 v w h (by omega)
  have KM : Hid (∀ v w, Num w v (hvN l1 l1.length) → Calls Tryd.prog 35 #[v] w fun e w' => ∃ v, e = .returned v ∧ Num w' v (hvN l1 l1.length % P25) ∧ Below w.heap.size w w') := fun v w h => modD_num _ v w h hM
  have kx := bytes_fe x ht
  have ox := of_nn x ht
  have hX := Nat.lt_trans x.nn_lt P25_lt22
  generalize x.nn = X at *
  generalize hvN (turn l0) l0.length = NN at *
  generalize hvN l1 l1.length = MM at *
  have TL : Hid (∀ v w, Num w v X → Calls Tryd.prog 39 #[v, .int .i64 32] w fun e w' => ∃ v, e = .returned v ∧ SK .u8 w' v (leB X 32) ∧ Below w.heap.size w w') := fun v w h => toLittle32 X v w h 22 hX (by omega)
  have SM : Hid (∀ g v w, Fil X g 32 w → SK .u8 w v (leB X 32) → Calls Tryd.prog 37 #[.slice (some ⟨g, 0, none⟩) 32 32, v] w fun e w' => e = .returned (.bool true) ∧ Below w.heap.size w w') := fun g v w h h' => same32 X g v w h h'
  clear hg h0 h1 hx ht hb0 hb1 hm hl c1 c2 c3 e1 e2 hX hN hod hy ey hM
  obtain ⟨x0, x1, x2, x3, x4⟩ := x
  obtain ⟨z0, z1, z2, z3, z4⟩ := z
  obtain ⟨y0, y1, y2, y3, y4⟩ := y
  dsimp only at kt' kO kx ox HE iz kW iy ⊢
  have KO : Hid (∀ v w, SK .u8 w v l0 → Calls Tryd.prog 31 #[v] w fun e w' => e = .returned (.tuple #[.agg #[.int .u64 z0, .int .u64 z1, .int .u64 z2, .int .u64 z3, .int .u64 z4], .bool true]) ∧ Below w.heap.size w w') := kO
  have KW : Hid (∀ v w, SK .u8 w v l1 → Calls Tryd.prog 34 #[v] w fun e w' => e = .returned (.tuple #[.agg #[.int .u64 y0, .int .u64 y1, .int .u64 y2, .int .u64 y3, .int .u64 y4], .bool true]) ∧ Below w.heap.size w w') := kW
  have IZ : Hid (∀ v w, Num w v NN → Calls Tryd.prog 11 #[.agg #[.int .u64 z0, .int .u64 z1, .int .u64 z2, .int .u64 z3, .int .u64 z4], v] w fun e w' => e = .returned (.bool true) ∧ Below w.heap.size w w') := iz
  have IY : Hid (∀ v w, Num w v (MM % P25) → Calls Tryd.prog 11 #[.agg #[.int .u64 y0, .int .u64 y1, .int .u64 y2, .int .u64 y3, .int .u64 y4], v] w fun e w' => e = .returned (.bool true) ∧ Below w.heap.size w w') := iy
  have OX : Hid (∀ w, Calls Tryd.prog 10 #[.agg #[.int .u64 x0, .int .u64 x1, .int .u64 x2, .int .u64 x3, .int .u64 x4]] w fun e w' => ∃ v, e = .returned v ∧ Num w' v X ∧ Below w.heap.size w w') := ox
  have KX : Hid (∀ w, Calls Tryd.prog 38 #[.agg #[.int .u64 x0, .int .u64 x1, .int .u64 x2, .int .u64 x3, .int .u64 x4]] w fun e w' => ∃ g, e = .returned (.slice (some ⟨g, 0, none⟩) 32 32) ∧ Fil X g 32 w' ∧ w.heap.size ≤ g ∧ Below w.heap.size w w') := kx
  have Kt : Hid (∀ W g, Els W g 1 (fun _ => ⟨x0, x1, x2, x3, x4⟩) → Calls Tryd.prog 9 #[.slice (some ⟨g, 0, none⟩) 1 1] W fun e w' => e = .returned (.bool true) ∧ Below W.heap.size W w') := kt'
  clear kt' kO kx ox kW iz iy
  go_enter Tryd.func6, Tryd.ntmps6
  go_wp2_with fail
  refine calls_at (fun V => Bl5 V w.heap.size x0 x1 x2 x3 x4 ∧ SK .u8 V (.slice a0 l0.length d0) l0 ∧ SK .u8 V (.slice a1 l1.length d1) l1 ∧ Gl V ∧ Below w.heap.size w V) ⟨?_, ?_, ?_, ?_, ?_⟩ ?_
  · (repeat (first | refine Bl5.drew ?_ | refine Bl5.drewN ?_ _ | (refine Bl5.new _ _ _ _ _ _ _ _ ?_; simp; done) | refine Bl5.alloc ?_ _))
  · exact hs0.out.below ((Below.refl _ _).alloc (Nat.le_refl _) _)
  · exact hs1.out.below ((Below.refl _ _).alloc (Nat.le_refl _) _)
  · refine Gl.grown HG.out ?_
    (repeat (first | exact Below.refl _ _ | refine Below.drew ?_ | refine below_drewN ?_ _ | refine Below.alloc ?_ (by simp <;> omega) _))
  · (repeat (first | exact Below.refl _ _ | refine Below.drew ?_ | refine below_drewN ?_ _ | refine Below.alloc ?_ (by simp <;> omega) _ | refine Below.setCell ?_ (by simp <;> omega) _))
  rintro v1 ⟨k0, k1, k2, k3, k4⟩
  have A_1 : Hid (Bl5 v1 w.heap.size x0 x1 x2 x3 x4) := k0
  have S_1 : Hid (SK .u8 v1 (.slice a0 l0.length d0) l0) := k1
  have T_1 : Hid (SK .u8 v1 (.slice a1 l1.length d1) l1) := k2
  have Z_1 : Hid (Gl v1) := k3
  have G_1 : Hid (Below w.heap.size w v1) := k4
  clear k0 k1 k2 k3 k4
  refine (kw.out _ Z_1.out).mono ?_
  rintro e v2 ⟨rfl, g⟩
  have A_2 : Hid (Bl5 v2 w.heap.size x0 x1 x2 x3 x4) := A_1.out.below g
  have S_2 : Hid (SK .u8 v2 (.slice a0 l0.length d0) l0) := S_1.out.below g
  have T_2 : Hid (SK .u8 v2 (.slice a1 l1.length d1) l1) := T_1.out.below g
  have Z_2 : Hid (Gl v2) := Z_1.out.grown g
  have G_2 : Hid (Below w.heap.size w v2) := G_1.out.trans (g.mono G_1.out.size)
  clear A_1 S_1 T_1 Z_1 G_1 g
  obtain ⟨cal, ca0, ca1, ca2, ca3, ca4, caf⟩ := A_2.out
  go_wp2_with fail
  clear cal ca0 ca1 ca2 ca3 ca4 caf
  refine calls_at (fun V => Els V v2.heap.size 1 (fun _ => ⟨x0, x1, x2, x3, x4⟩) ∧ Bl5 V w.heap.size x0 x1 x2 x3 x4 ∧ SK .u8 V (.slice a0 l0.length d0) l0 ∧ SK .u8 V (.slice a1 l1.length d1) l1 ∧ Gl V ∧ Below w.heap.size w V) ⟨HE.out v2, A_2.out.alloc _, S_2.out.below ((Below.refl _ _).alloc (Nat.le_refl _) _), T_2.out.below ((Below.refl _ _).alloc (Nat.le_refl _) _), Z_2.out.grown ((Below.refl _ _).alloc (Nat.le_refl _) _), G_2.out.alloc G_2.out.size _⟩ ?_
  rintro v3 ⟨hE, kA, kS, kT, kZ, kG⟩
  have A_3 : Hid (Bl5 v3 w.heap.size x0 x1 x2 x3 x4) := kA
  have S_3 : Hid (SK .u8 v3 (.slice a0 l0.length d0) l0) := kS
  have T_3 : Hid (SK .u8 v3 (.slice a1 l1.length d1) l1) := kT
  have Z_3 : Hid (Gl v3) := kZ
  have G_3 : Hid (Below w.heap.size w v3) := kG
  have hE' : Hid (Els v3 v2.heap.size 1 (fun _ => ⟨x0, x1, x2, x3, x4⟩)) := hE
  clear hE kA kS kT kZ kG A_2 S_2 T_2 Z_2 G_2
  refine (Kt.out _ _ hE'.out).mono ?_
  rintro e v4 ⟨rfl, g⟩
  have A_4 : Hid (Bl5 v4 w.heap.size x0 x1 x2 x3 x4) := A_3.out.below g
  have S_4 : Hid (SK .u8 v4 (.slice a0 l0.length d0) l0) := S_3.out.below g
  have T_4 : Hid (SK .u8 v4 (.slice a1 l1.length d1) l1) := T_3.out.below g
  have Z_4 : Hid (Gl v4) := Z_3.out.grown g
  have G_4 : Hid (Below w.heap.size w v4) := G_3.out.trans (g.mono G_3.out.size)
  clear A_3 S_3 T_3 Z_3 G_3 g
  clear hE'
  go_wp2_with fail
  refine (KO.out _ _ S_4.out).mono ?_
  rintro e v5 ⟨rfl, g⟩
  have A_5 : Hid (Bl5 v5 w.heap.size x0 x1 x2 x3 x4) := A_4.out.below g
  have S_5 : Hid (SK .u8 v5 (.slice a0 l0.length d0) l0) := S_4.out.below g
  have T_5 : Hid (SK .u8 v5 (.slice a1 l1.length d1) l1) := T_4.out.below g
  have Z_5 : Hid (Gl v5) := Z_4.out.grown g
  have G_5 : Hid (Below w.heap.size w v5) := G_4.out.trans (g.mono G_4.out.size)
  clear A_4 S_4 T_4 Z_4 G_4 g
  go_wp2_with fail
  have szR : w.heap.size ≤ v5.heap.size := G_5.out.size
  have nbRA : ¬ (v5.heap.size = w.heap.size) := by have := A_5.out.lt; omega
  refine calls_at (fun V => Bl5 V w.heap.size x0 x1 x2 x3 x4 ∧ SK .u8 V (.slice a0 l0.length d0) l0 ∧ SK .u8 V (.slice a1 l1.length d1) l1 ∧ Gl V ∧ Bl5 V v5.heap.size z0 z1 z2 z3 z4 ∧ Below w.heap.size w V) ⟨A_5.out.alloc _, S_5.out.below ((Below.refl _ _).alloc (Nat.le_refl _) _), T_5.out.below ((Below.refl _ _).alloc (Nat.le_refl _) _), Z_5.out.grown ((Below.refl _ _).alloc (Nat.le_refl _) _), Bl5.new v5 _ _ _ _ _ _ _ rfl, G_5.out.alloc G_5.out.size _⟩ ?_
  rintro v6 ⟨k0, k1, k2, k3, k4, k5⟩
  have A_6 : Hid (Bl5 v6 w.heap.size x0 x1 x2 x3 x4) := k0
  have S_6 : Hid (SK .u8 v6 (.slice a0 l0.length d0) l0) := k1
  have T_6 : Hid (SK .u8 v6 (.slice a1 l1.length d1) l1) := k2
  have Z_6 : Hid (Gl v6) := k3
  have R_6 : Hid (Bl5 v6 v5.heap.size z0 z1 z2 z3 z4) := k4
  have G_6 : Hid (Below w.heap.size w v6) := k5
  clear k0 k1 k2 k3 k4 k5 A_5 S_5 T_5 Z_5 G_5
  refine (KL.out _ _ S_6.out).mono ?_
  rintro e v7 ⟨v, rfl, hn, g⟩
  obtain ⟨Ua, Uc, Ud, rfl⟩ := hn.shape
  have U_7 : Hid (Num v7 (.slice Ua Uc Ud) (NN)) := hn
  have A_7 : Hid (Bl5 v7 w.heap.size x0 x1 x2 x3 x4) := A_6.out.below g
  have R_7 : Hid (Bl5 v7 v5.heap.size z0 z1 z2 z3 z4) := R_6.out.below g
  have S_7 : Hid (SK .u8 v7 (.slice a0 l0.length d0) l0) := S_6.out.below g
  have T_7 : Hid (SK .u8 v7 (.slice a1 l1.length d1) l1) := T_6.out.below g
  have Z_7 : Hid (Gl v7) := Z_6.out.grown g
  have G_7 : Hid (Below w.heap.size w v7) := G_6.out.trans (g.mono G_6.out.size)
  clear A_6 R_6 S_6 T_6 Z_6 G_6 g hn
  go_wp2_with fail
  refine (KP.out _).mono ?_
  rintro e v8 ⟨v, rfl, hn, g⟩
  obtain ⟨Qa, Qc, Qd, rfl⟩ := hn.shape
  have Q_8 : Hid (Num v8 (.slice Qa Qc Qd) (P25)) := hn
  have A_8 : Hid (Bl5 v8 w.heap.size x0 x1 x2 x3 x4) := A_7.out.below g
  have R_8 : Hid (Bl5 v8 v5.heap.size z0 z1 z2 z3 z4) := R_7.out.below g
  have S_8 : Hid (SK .u8 v8 (.slice a0 l0.length d0) l0) := S_7.out.below g
  have T_8 : Hid (SK .u8 v8 (.slice a1 l1.length d1) l1) := T_7.out.below g
  have U_8 : Hid (Num v8 (.slice Ua Uc Ud) (NN)) := U_7.out.below g
  have Z_8 : Hid (Gl v8) := Z_7.out.grown g
  have G_8 : Hid (Below w.heap.size w v8) := G_7.out.trans (g.mono G_7.out.size)
  clear A_7 R_7 S_7 T_7 U_7 Z_7 G_7 g hn
  go_wp2_with fail
  refine (KC.out _ _ _ U_8.out Q_8.out).mono ?_
  rintro e v9 ⟨rfl, g⟩
  have A_9 : Hid (Bl5 v9 w.heap.size x0 x1 x2 x3 x4) := A_8.out.below g
  have R_9 : Hid (Bl5 v9 v5.heap.size z0 z1 z2 z3 z4) := R_8.out.below g
  have S_9 : Hid (SK .u8 v9 (.slice a0 l0.length d0) l0) := S_8.out.below g
  have T_9 : Hid (SK .u8 v9 (.slice a1 l1.length d1) l1) := T_8.out.below g
  have U_9 : Hid (Num v9 (.slice Ua Uc Ud) (NN)) := U_8.out.below g
  have Z_9 : Hid (Gl v9) := Z_8.out.grown g
  have G_9 : Hid (Below w.heap.size w v9) := G_8.out.trans (g.mono G_8.out.size)
  clear A_8 R_8 S_8 T_8 U_8 Q_8 Z_8 G_8 g
  obtain ⟨crl, cr0, cr1, cr2, cr3, cr4, crf⟩ := R_9.out
  go_wp2_with fail
  refine (IZ.out _ _ U_9.out).mono ?_
  rintro e v10 ⟨rfl, g⟩
  clear crl cr0 cr1 cr2 cr3 cr4 crf
  have A_10 : Hid (Bl5 v10 w.heap.size x0 x1 x2 x3 x4) := A_9.out.below g
  have R_10 : Hid (Bl5 v10 v5.heap.size z0 z1 z2 z3 z4) := R_9.out.below g
  have S_10 : Hid (SK .u8 v10 (.slice a0 l0.length d0) l0) := S_9.out.below g
  have T_10 : Hid (SK .u8 v10 (.slice a1 l1.length d1) l1) := T_9.out.below g
  have Z_10 : Hid (Gl v10) := Z_9.out.grown g
  have G_10 : Hid (Below w.heap.size w v10) := G_9.out.trans (g.mono G_9.out.size)
  clear A_9 R_9 S_9 T_9 U_9 Z_9 G_9 g
  go_wp2_with fail
  refine (KW.out _ _ T_10.out).mono ?_
  rintro e v11 ⟨rfl, g⟩
  have A_11 : Hid (Bl5 v11 w.heap.size x0 x1 x2 x3 x4) := A_10.out.below g
  have R_11 : Hid (Bl5 v11 v5.heap.size z0 z1 z2 z3 z4) := R_10.out.below g
  have S_11 : Hid (SK .u8 v11 (.slice a0 l0.length d0) l0) := S_10.out.below g
  have T_11 : Hid (SK .u8 v11 (.slice a1 l1.length d1) l1) := T_10.out.below g
  have Z_11 : Hid (Gl v11) := Z_10.out.grown g
  have G_11 : Hid (Below w.heap.size w v11) := G_10.out.trans (g.mono G_10.out.size)
  clear A_10 R_10 S_10 T_10 Z_10 G_10 g
  go_wp2_with fail
  have szY : w.heap.size ≤ v11.heap.size := G_11.out.size
  have nbYA : ¬ (v11.heap.size = w.heap.size) := by have := A_11.out.lt; omega
  have nbYR : ¬ (v11.heap.size = v5.heap.size) := by have := R_11.out.lt; omega
  refine wp_cut (fun V => Bl5 V w.heap.size x0 x1 x2 x3 x4 ∧ Bl5 V v5.heap.size z0 z1 z2 z3 z4 ∧ SK .u8 V (.slice a0 l0.length d0) l0 ∧ SK .u8 V (.slice a1 l1.length d1) l1 ∧ Gl V ∧ Bl5 V v11.heap.size y0 y1 y2 y3 y4 ∧ Below w.heap.size w V) ⟨A_11.out.alloc _, R_11.out.alloc _, S_11.out.below ((Below.refl _ _).alloc (Nat.le_refl _) _), T_11.out.below ((Below.refl _ _).alloc (Nat.le_refl _) _), Z_11.out.grown ((Below.refl _ _).alloc (Nat.le_refl _) _), Bl5.new v11 _ _ _ _ _ _ _ rfl, G_11.out.alloc G_11.out.size _⟩ ?_
  rintro v12 ⟨k0, k1, k2, k3, k4, k5, k6⟩
  have A_12 : Hid (Bl5 v12 w.heap.size x0 x1 x2 x3 x4) := k0
  have R_12 : Hid (Bl5 v12 v5.heap.size z0 z1 z2 z3 z4) := k1
  have S_12 : Hid (SK .u8 v12 (.slice a0 l0.length d0) l0) := k2
  have T_12 : Hid (SK .u8 v12 (.slice a1 l1.length d1) l1) := k3
  have Z_12 : Hid (Gl v12) := k4
  have Y_12 : Hid (Bl5 v12 v11.heap.size y0 y1 y2 y3 y4) := k5
  have G_12 : Hid (Below w.heap.size w v12) := k6
  clear k0 k1 k2 k3 k4 k5 k6 A_11 R_11 S_11 T_11 Z_11 G_11
  have K : v12.drew.cell? ⟨v11.heap.size, 0, none⟩ = some (.int .u64 y0) ∧ v12.drew.cell? ⟨v11.heap.size, 1, none⟩ = some (.int .u64 y1) ∧ v12.drew.cell? ⟨v11.heap.size, 2, none⟩ = some (.int .u64 y2) ∧ v12.drew.cell? ⟨v11.heap.size, 3, none⟩ = some (.int .u64 y3) ∧ v12.drew.cell? ⟨v11.heap.size, 4, none⟩ = some (.int .u64 y4) := ⟨Y_12.out.drew.c0, Y_12.out.drew.c1, Y_12.out.drew.c2, Y_12.out.drew.c3, Y_12.out.drew.c4⟩
  have A_12' : Hid (Bl5 v12.drew w.heap.size x0 x1 x2 x3 x4) := A_12.out.drew
  have R_12' : Hid (Bl5 v12.drew v5.heap.size z0 z1 z2 z3 z4) := R_12.out.drew
  have Y_12' : Hid (Bl5 v12.drew v11.heap.size y0 y1 y2 y3 y4) := Y_12.out.drew
  have S_12' : Hid (SK .u8 v12.drew (.slice a0 l0.length d0) l0) := S_12.out.below (Below.refl _ _).drew
  have T_12' : Hid (SK .u8 v12.drew (.slice a1 l1.length d1) l1) := T_12.out.below (Below.refl _ _).drew
  have Z_12' : Hid (Gl v12.drew) := Z_12.out.grown (Below.refl _ _).drew
  have G_12' : Hid (Below w.heap.size w v12.drew) := G_12.out.drew
  go_wp2_with fail
  refine wp_region_held_drew (S := fun w' => w'.cell? ⟨v11.heap.size, 0, none⟩ = some (.int .u64 y0) ∧ w'.cell? ⟨v11.heap.size, 1, none⟩ = some (.int .u64 y1) ∧ w'.cell? ⟨v11.heap.size, 2, none⟩ = some (.int .u64 y2) ∧ w'.cell? ⟨v11.heap.size, 3, none⟩ = some (.int .u64 y3) ∧ w'.cell? ⟨v11.heap.size, 4, none⟩ = some (.int .u64 y4)) (by kernel_rfl) K (fun hHeld => ?_)
  refine h_take 0 (v := ?v0) rfl (by kernel_rfl) (by kernel_rfl) (by kernel_rfl) (fun _ _ _ h => h) (by rfl) ?hy0 (by assumption) ?_
  case hy0 =>
    intro w' hSw
    try dsimp only at hSw
    go_simp
    try with_reducible rfl
  try simp only [Act.put, List.setIfInBounds_toArray, List.set_cons_zero, List.set_cons_succ]
  refine h_take 1 (v := ?v1) rfl (by kernel_rfl) (by kernel_rfl) (by kernel_rfl) (fun _ _ _ h => h) (by rfl) ?hy1 (by assumption) ?_
  case hy1 =>
    intro w' hSw
    try dsimp only at hSw
    go_simp
    try with_reducible rfl
  try simp only [Act.put, List.setIfInBounds_toArray, List.set_cons_zero, List.set_cons_succ]
  refine h_take 2 (v := ?v2) rfl (by kernel_rfl) (by kernel_rfl) (by kernel_rfl) (fun _ _ _ h => h) (by rfl) ?hy2 (by assumption) ?_
  case hy2 =>
    intro w' hSw
    try dsimp only at hSw
    go_simp
    try with_reducible rfl
  try simp only [Act.put, List.setIfInBounds_toArray, List.set_cons_zero, List.set_cons_succ]
  refine h_take 3 (v := ?v3) rfl (by kernel_rfl) (by kernel_rfl) (by kernel_rfl) (fun _ _ _ h => h) (by rfl) ?hy3 (by assumption) ?_
  case hy3 =>
    intro w' hSw
    try dsimp only at hSw
    go_simp
    try with_reducible rfl
  try simp only [Act.put, List.setIfInBounds_toArray, List.set_cons_zero, List.set_cons_succ]
  refine h_take 4 (v := ?v4) rfl (by kernel_rfl) (by kernel_rfl) (by kernel_rfl) (fun _ _ _ h => h) (by rfl) ?hy4 (by assumption) ?_
  case hy4 =>
    intro w' hSw
    try dsimp only at hSw
    go_simp
    try with_reducible rfl
  try simp only [Act.put, List.setIfInBounds_toArray, List.set_cons_zero, List.set_cons_succ]
  refine h_take 5 (v := ?v5) rfl (by kernel_rfl) (by kernel_rfl) (by kernel_rfl) (fun _ _ _ h => h) (by rfl) ?hy5 (by assumption) ?_
  case hy5 =>
    intro w' hSw
    try dsimp only at hSw
    go_simp
    try with_reducible rfl
  try simp only [Act.put, List.setIfInBounds_toArray, List.set_cons_zero, List.set_cons_succ]
  refine h_take 6 (v := ?v6) rfl (by kernel_rfl) (by kernel_rfl) (by kernel_rfl) (fun _ _ _ h => h) (by rfl) ?hy6 (by assumption) ?_
  case hy6 =>
    intro w' hSw
    try dsimp only at hSw
    go_simp
    try with_reducible rfl
  try simp only [Act.put, List.setIfInBounds_toArray, List.set_cons_zero, List.set_cons_succ]
  refine h_take 7 (v := ?v7) rfl (by kernel_rfl) (by kernel_rfl) (by kernel_rfl) (fun _ _ _ h => h) (by rfl) ?hy7 (by assumption) ?_
  case hy7 =>
    intro w' hSw
    try dsimp only at hSw
    go_simp
    try with_reducible rfl
  try simp only [Act.put, List.setIfInBounds_toArray, List.set_cons_zero, List.set_cons_succ]
  refine h_take 8 (v := ?v8) rfl (by kernel_rfl) (by kernel_rfl) (by kernel_rfl) (fun _ _ _ h => h) (by rfl) ?hy8 (by assumption) ?_
  case hy8 =>
    intro w' hSw
    try dsimp only at hSw
    go_simp
    try with_reducible rfl
  try simp only [Act.put, List.setIfInBounds_toArray, List.set_cons_zero, List.set_cons_succ]
  refine h_take 9 (v := ?v9) rfl (by kernel_rfl) (by kernel_rfl) (by kernel_rfl) (fun _ _ _ h => h) (by rfl) ?hy9 (by assumption) ?_
  case hy9 =>
    intro w' hSw
    try dsimp only at hSw
    go_simp
    try with_reducible rfl
  try simp only [Act.put, List.setIfInBounds_toArray, List.set_cons_zero, List.set_cons_succ]
  refine h_call 10 rfl (by kernel_rfl) (by rfl) (fun Kk hK => ?_)
  go_simp
  (refine (KB.out _ _ T_12'.out).mono ?_)
  rintro e v13 ⟨v, rfl, hn, g⟩
  obtain ⟨Ba, Bc, Bd, rfl⟩ := hn.shape
  have B_13 : Hid (Num v13 (.slice Ba Bc Bd) (MM)) := hn
  clear hn
  have A_13 : Hid (Bl5 v13 w.heap.size x0 x1 x2 x3 x4) := A_12'.out.below g
  have R_13 : Hid (Bl5 v13 v5.heap.size z0 z1 z2 z3 z4) := R_12'.out.below g
  have Y_13 : Hid (Bl5 v13 v11.heap.size y0 y1 y2 y3 y4) := Y_12'.out.below g
  have S_13 : Hid (SK .u8 v13 (.slice a0 l0.length d0) l0) := S_12'.out.below g
  have T_13 : Hid (SK .u8 v13 (.slice a1 l1.length d1) l1) := T_12'.out.below g
  have Z_13 : Hid (Gl v13) := Z_12'.out.grown g
  have G_13 : Hid (Below w.heap.size w v13) := G_12'.out.trans (g.mono G_12'.out.size)
  clear g K
  have K : v13.cell? ⟨v11.heap.size, 0, none⟩ = some (.int .u64 y0) ∧ v13.cell? ⟨v11.heap.size, 1, none⟩ = some (.int .u64 y1) ∧ v13.cell? ⟨v11.heap.size, 2, none⟩ = some (.int .u64 y2) ∧ v13.cell? ⟨v11.heap.size, 3, none⟩ = some (.int .u64 y3) ∧ v13.cell? ⟨v11.heap.size, 4, none⟩ = some (.int .u64 y4) := ⟨Y_13.out.c0, Y_13.out.c1, Y_13.out.c2, Y_13.out.c3, Y_13.out.c4⟩
  go_wp2_with fail
  clear hHeld
  refine hK.out _ _ K (fun hHeld => ?_)
  clear hK Kk
  try simp only [Act.put, List.setIfInBounds_toArray, List.set_cons_zero, List.set_cons_succ]
  refine h_call 11 rfl (by kernel_rfl) (by rfl) (fun Kk hK => ?_)
  go_simp
  (refine (KM.out _ _ B_13.out).mono ?_)
  rintro e v14 ⟨v, rfl, hn, g⟩
  obtain ⟨Da, Dc, Dd, rfl⟩ := hn.shape
  have D_14 : Hid (Num v14 (.slice Da Dc Dd) (MM % P25)) := hn
  clear hn
  have A_14 : Hid (Bl5 v14 w.heap.size x0 x1 x2 x3 x4) := A_13.out.below g
  have R_14 : Hid (Bl5 v14 v5.heap.size z0 z1 z2 z3 z4) := R_13.out.below g
  have Y_14 : Hid (Bl5 v14 v11.heap.size y0 y1 y2 y3 y4) := Y_13.out.below g
  have S_14 : Hid (SK .u8 v14 (.slice a0 l0.length d0) l0) := S_13.out.below g
  have T_14 : Hid (SK .u8 v14 (.slice a1 l1.length d1) l1) := T_13.out.below g
  have B_14 : Hid (Num v14 (.slice Ba Bc Bd) (MM)) := B_13.out.below g
  have Z_14 : Hid (Gl v14) := Z_13.out.grown g
  have G_14 : Hid (Below w.heap.size w v14) := G_13.out.trans (g.mono G_13.out.size)
  clear g K
  have K : v14.cell? ⟨v11.heap.size, 0, none⟩ = some (.int .u64 y0) ∧ v14.cell? ⟨v11.heap.size, 1, none⟩ = some (.int .u64 y1) ∧ v14.cell? ⟨v11.heap.size, 2, none⟩ = some (.int .u64 y2) ∧ v14.cell? ⟨v11.heap.size, 3, none⟩ = some (.int .u64 y3) ∧ v14.cell? ⟨v11.heap.size, 4, none⟩ = some (.int .u64 y4) := ⟨Y_14.out.c0, Y_14.out.c1, Y_14.out.c2, Y_14.out.c3, Y_14.out.c4⟩
  go_wp2_with fail
  clear hHeld
  refine hK.out _ _ K (fun hHeld => ?_)
  clear hK Kk
  try simp only [Act.put, List.setIfInBounds_toArray, List.set_cons_zero, List.set_cons_succ]
  refine h_call 12 rfl (by kernel_rfl) (by rfl) (fun Kk hK => ?_)
  go_simp
  (refine (IY.out _ _ D_14.out).mono ?_)
  rintro e v15 ⟨rfl, g⟩
  have A_15 : Hid (Bl5 v15 w.heap.size x0 x1 x2 x3 x4) := A_14.out.below g
  have R_15 : Hid (Bl5 v15 v5.heap.size z0 z1 z2 z3 z4) := R_14.out.below g
  have Y_15 : Hid (Bl5 v15 v11.heap.size y0 y1 y2 y3 y4) := Y_14.out.below g
  have S_15 : Hid (SK .u8 v15 (.slice a0 l0.length d0) l0) := S_14.out.below g
  have T_15 : Hid (SK .u8 v15 (.slice a1 l1.length d1) l1) := T_14.out.below g
  have B_15 : Hid (Num v15 (.slice Ba Bc Bd) (MM)) := B_14.out.below g
  have D_15 : Hid (Num v15 (.slice Da Dc Dd) (MM % P25)) := D_14.out.below g
  have Z_15 : Hid (Gl v15) := Z_14.out.grown g
  have G_15 : Hid (Below w.heap.size w v15) := G_14.out.trans (g.mono G_14.out.size)
  clear g K
  have K : v15.cell? ⟨v11.heap.size, 0, none⟩ = some (.int .u64 y0) ∧ v15.cell? ⟨v11.heap.size, 1, none⟩ = some (.int .u64 y1) ∧ v15.cell? ⟨v11.heap.size, 2, none⟩ = some (.int .u64 y2) ∧ v15.cell? ⟨v11.heap.size, 3, none⟩ = some (.int .u64 y3) ∧ v15.cell? ⟨v11.heap.size, 4, none⟩ = some (.int .u64 y4) := ⟨Y_15.out.c0, Y_15.out.c1, Y_15.out.c2, Y_15.out.c3, Y_15.out.c4⟩
  go_wp2_with fail
  clear hHeld
  refine hK.out _ _ K (fun hHeld => ?_)
  clear hK Kk
  try simp only [Act.put, List.setIfInBounds_toArray, List.set_cons_zero, List.set_cons_succ]
  refine h_take 13 (v := ?v13) rfl (by kernel_rfl) (by kernel_rfl) (by kernel_rfl) (fun _ _ _ h => h) (by rfl) ?hy13 (by assumption) ?_
  case hy13 =>
    intro w' hSw
    try dsimp only at hSw
    go_simp
    try with_reducible rfl
  try simp only [Act.put, List.setIfInBounds_toArray, List.set_cons_zero, List.set_cons_succ]
  refine h_take 14 (v := ?v14) rfl (by kernel_rfl) (by kernel_rfl) (by kernel_rfl) (fun _ _ _ h => h) (by rfl) ?hy14 (by assumption) ?_
  case hy14 =>
    intro w' hSw
    try dsimp only at hSw
    go_simp
    try with_reducible rfl
  try simp only [Act.put, List.setIfInBounds_toArray, List.set_cons_zero, List.set_cons_succ]
  refine h_take 15 (v := ?v15) rfl (by kernel_rfl) (by kernel_rfl) (by kernel_rfl) (fun _ _ _ h => h) (by rfl) ?hy15 (by assumption) ?_
  case hy15 =>
    intro w' hSw
    try dsimp only at hSw
    go_simp
    try with_reducible rfl
  try simp only [Act.put, List.setIfInBounds_toArray, List.set_cons_zero, List.set_cons_succ]
  refine h_take 16 (v := ?v16) rfl (by kernel_rfl) (by kernel_rfl) (by kernel_rfl) (fun _ _ _ h => h) (by rfl) ?hy16 (by assumption) ?_
  case hy16 =>
    intro w' hSw
    try dsimp only at hSw
    go_simp
    try with_reducible rfl
  try simp only [Act.put, List.setIfInBounds_toArray, List.set_cons_zero, List.set_cons_succ]
  refine h_take 17 (v := ?v17) rfl (by kernel_rfl) (by kernel_rfl) (by kernel_rfl) (fun _ _ _ h => h) (by rfl) ?hy17 (by assumption) ?_
  case hy17 =>
    intro w' hSw
    try dsimp only at hSw
    go_simp
    try with_reducible rfl
  try simp only [Act.put, List.setIfInBounds_toArray, List.set_cons_zero, List.set_cons_succ]
  refine h_take 18 (v := ?v18) rfl (by kernel_rfl) (by kernel_rfl) (by kernel_rfl) (fun _ _ _ h => h) (by rfl) ?hy18 (by assumption) ?_
  case hy18 =>
    intro w' hSw
    try dsimp only at hSw
    go_simp
    try with_reducible rfl
  try simp only [Act.put, List.setIfInBounds_toArray, List.set_cons_zero, List.set_cons_succ]
  refine h_take 19 (v := ?v19) rfl (by kernel_rfl) (by kernel_rfl) (by kernel_rfl) (fun _ _ _ h => h) (by rfl) ?hy19 (by assumption) ?_
  case hy19 =>
    intro w' hSw
    try dsimp only at hSw
    go_simp
    try with_reducible rfl
  try simp only [Act.put, List.setIfInBounds_toArray, List.set_cons_zero, List.set_cons_succ]
  refine h_skip 20 rfl (by kernel_rfl) (by kernel_rfl) (by kernel_rfl) (fun _ _ _ h => h) (by rfl) (by assumption) ?_
  try simp only [Act.put, List.setIfInBounds_toArray, List.set_cons_zero, List.set_cons_succ]
  refine h_skip 21 rfl (by kernel_rfl) (by kernel_rfl) (by kernel_rfl) (fun _ _ _ h => h) (by rfl) (by assumption) ?_
  try simp only [Act.put, List.setIfInBounds_toArray, List.set_cons_zero, List.set_cons_succ]
  refine h_skip 22 rfl (by kernel_rfl) (by kernel_rfl) (by kernel_rfl) (fun _ _ _ h => h) (by rfl) (by assumption) ?_
  try simp only [Act.put, List.setIfInBounds_toArray, List.set_cons_zero, List.set_cons_succ]
  refine h_take 23 (v := ?v23) rfl (by kernel_rfl) (by kernel_rfl) (by kernel_rfl) (fun _ _ _ h => h) (by rfl) ?hy23 (by assumption) ?_
  case hy23 =>
    intro w' hSw
    try dsimp only at hSw
    go_simp
    try with_reducible rfl
  try simp only [Act.put, List.setIfInBounds_toArray, List.set_cons_zero, List.set_cons_succ]
  refine h_take 24 (v := ?v24) rfl (by kernel_rfl) (by kernel_rfl) (by kernel_rfl) (fun _ _ _ h => h) (by rfl) ?hy24 (by assumption) ?_
  case hy24 =>
    intro w' hSw
    try dsimp only at hSw
    go_simp
    try with_reducible rfl
  try simp only [Act.put, List.setIfInBounds_toArray, List.set_cons_zero, List.set_cons_succ]
  refine wpAnyH_done (by kernel_rfl) ?_ _
  clear K hHeld
  have K : v15.drew.cell? ⟨w.heap.size, 0, none⟩ = some (.int .u64 x0) ∧ v15.drew.cell? ⟨w.heap.size, 1, none⟩ = some (.int .u64 x1) ∧ v15.drew.cell? ⟨w.heap.size, 2, none⟩ = some (.int .u64 x2) ∧ v15.drew.cell? ⟨w.heap.size, 3, none⟩ = some (.int .u64 x3) ∧ v15.drew.cell? ⟨w.heap.size, 4, none⟩ = some (.int .u64 x4) := ⟨A_15.out.drew.c0, A_15.out.drew.c1, A_15.out.drew.c2, A_15.out.drew.c3, A_15.out.drew.c4⟩
  have A_15' : Hid (Bl5 v15.drew w.heap.size x0 x1 x2 x3 x4) := A_15.out.drew
  have R_15' : Hid (Bl5 v15.drew v5.heap.size z0 z1 z2 z3 z4) := R_15.out.drew
  have Y_15' : Hid (Bl5 v15.drew v11.heap.size y0 y1 y2 y3 y4) := Y_15.out.drew
  have S_15' : Hid (SK .u8 v15.drew (.slice a0 l0.length d0) l0) := S_15.out.below (Below.refl _ _).drew
  have T_15' : Hid (SK .u8 v15.drew (.slice a1 l1.length d1) l1) := T_15.out.below (Below.refl _ _).drew
  have B_15' : Hid (Num v15.drew (.slice Ba Bc Bd) (MM)) := B_15.out.below (Below.refl _ _).drew
  have D_15' : Hid (Num v15.drew (.slice Da Dc Dd) (MM % P25)) := D_15.out.below (Below.refl _ _).drew
  have Z_15' : Hid (Gl v15.drew) := Z_15.out.grown (Below.refl _ _).drew
  have G_15' : Hid (Below w.heap.size w v15.drew) := G_15.out.drew
  go_wp2_with fail
  go_region_held3 (fun w' => w'.cell? ⟨w.heap.size, 0, none⟩ = some (.int .u64 x0) ∧ w'.cell? ⟨w.heap.size, 1, none⟩ = some (.int .u64 x1) ∧ w'.cell? ⟨w.heap.size, 2, none⟩ = some (.int .u64 x2) ∧ w'.cell? ⟨w.heap.size, 3, none⟩ = some (.int .u64 x3) ∧ w'.cell? ⟨w.heap.size, 4, none⟩ = some (.int .u64 x4)) (first | with_reducible assumption | go_keep)
    (first
      | (go_at_call 37; have gg := G_18; clear gg; (refine (SM.out _ _ _ FF_18.out TT_18.out).mono ?_); (rintro e v19 ⟨rfl, g⟩; have A_19 : Hid (Bl5 v19 w.heap.size x0 x1 x2 x3 x4) := A_18.out.below g; have R_19 : Hid (Bl5 v19 v5.heap.size z0 z1 z2 z3 z4) := R_18.out.below g; have Y_19 : Hid (Bl5 v19 v11.heap.size y0 y1 y2 y3 y4) := Y_18.out.below g; have S_19 : Hid (SK .u8 v19 (.slice a0 l0.length d0) l0) := S_18.out.below g; have T_19 : Hid (SK .u8 v19 (.slice a1 l1.length d1) l1) := T_18.out.below g; have B_19 : Hid (Num v19 (.slice Ba Bc Bd) (MM)) := B_18.out.below g; have D_19 : Hid (Num v19 (.slice Da Dc Dd) (MM % P25)) := D_18.out.below g; have FF_19 : Hid (Fil X h 32 v19) := FF_18.out.below g; have E_19 : Hid (Num v19 (.slice Ea Ec Ed) (X)) := E_18.out.below g; have TT_19 : Hid (SK .u8 v19 (.slice ta (leB X 32).length td) (leB X 32)) := TT_18.out.below g; have Z_19 : Hid (Gl v19) := Z_18.out.grown g; have G_19 : Hid (Below w.heap.size w v19) := G_18.out.trans (g.mono G_18.out.size); clear g; clear K; have K : v19.cell? ⟨w.heap.size, 0, none⟩ = some (.int .u64 x0) ∧ v19.cell? ⟨w.heap.size, 1, none⟩ = some (.int .u64 x1) ∧ v19.cell? ⟨w.heap.size, 2, none⟩ = some (.int .u64 x2) ∧ v19.cell? ⟨w.heap.size, 3, none⟩ = some (.int .u64 x3) ∧ v19.cell? ⟨w.heap.size, 4, none⟩ = some (.int .u64 x4) := ⟨A_19.out.c0, A_19.out.c1, A_19.out.c2, A_19.out.c3, A_19.out.c4⟩))
      | (go_at_call 39; have gg := G_17; clear gg; (refine (TL.out _ _ E_17.out).mono ?_); (rintro e v18 ⟨v, rfl, hf, g⟩; obtain ⟨ta, td, rfl⟩ := hf.shape; have TT_18 : Hid (SK .u8 v18 (.slice ta (leB X 32).length td) (leB X 32)) := hf; clear hf; have A_18 : Hid (Bl5 v18 w.heap.size x0 x1 x2 x3 x4) := A_17.out.below g; have R_18 : Hid (Bl5 v18 v5.heap.size z0 z1 z2 z3 z4) := R_17.out.below g; have Y_18 : Hid (Bl5 v18 v11.heap.size y0 y1 y2 y3 y4) := Y_17.out.below g; have S_18 : Hid (SK .u8 v18 (.slice a0 l0.length d0) l0) := S_17.out.below g; have T_18 : Hid (SK .u8 v18 (.slice a1 l1.length d1) l1) := T_17.out.below g; have B_18 : Hid (Num v18 (.slice Ba Bc Bd) (MM)) := B_17.out.below g; have D_18 : Hid (Num v18 (.slice Da Dc Dd) (MM % P25)) := D_17.out.below g; have FF_18 : Hid (Fil X h 32 v18) := FF_17.out.below g; have E_18 : Hid (Num v18 (.slice Ea Ec Ed) (X)) := E_17.out.below g; have Z_18 : Hid (Gl v18) := Z_17.out.grown g; have G_18 : Hid (Below w.heap.size w v18) := G_17.out.trans (g.mono G_17.out.size); clear g; clear K; have K : v18.cell? ⟨w.heap.size, 0, none⟩ = some (.int .u64 x0) ∧ v18.cell? ⟨w.heap.size, 1, none⟩ = some (.int .u64 x1) ∧ v18.cell? ⟨w.heap.size, 2, none⟩ = some (.int .u64 x2) ∧ v18.cell? ⟨w.heap.size, 3, none⟩ = some (.int .u64 x3) ∧ v18.cell? ⟨w.heap.size, 4, none⟩ = some (.int .u64 x4) := ⟨A_18.out.c0, A_18.out.c1, A_18.out.c2, A_18.out.c3, A_18.out.c4⟩))
      | (go_at_call 10; have gg := G_16; clear gg; (refine (OX.out _).mono ?_); (rintro e v17 ⟨v, rfl, hn, g⟩; obtain ⟨Ea, Ec, Ed, rfl⟩ := hn.shape; have E_17 : Hid (Num v17 (.slice Ea Ec Ed) (X)) := hn; clear hn; have A_17 : Hid (Bl5 v17 w.heap.size x0 x1 x2 x3 x4) := A_16.out.below g; have R_17 : Hid (Bl5 v17 v5.heap.size z0 z1 z2 z3 z4) := R_16.out.below g; have Y_17 : Hid (Bl5 v17 v11.heap.size y0 y1 y2 y3 y4) := Y_16.out.below g; have S_17 : Hid (SK .u8 v17 (.slice a0 l0.length d0) l0) := S_16.out.below g; have T_17 : Hid (SK .u8 v17 (.slice a1 l1.length d1) l1) := T_16.out.below g; have B_17 : Hid (Num v17 (.slice Ba Bc Bd) (MM)) := B_16.out.below g; have D_17 : Hid (Num v17 (.slice Da Dc Dd) (MM % P25)) := D_16.out.below g; have FF_17 : Hid (Fil X h 32 v17) := FF_16.out.below g; have Z_17 : Hid (Gl v17) := Z_16.out.grown g; have G_17 : Hid (Below w.heap.size w v17) := G_16.out.trans (g.mono G_16.out.size); clear g; clear K; have K : v17.cell? ⟨w.heap.size, 0, none⟩ = some (.int .u64 x0) ∧ v17.cell? ⟨w.heap.size, 1, none⟩ = some (.int .u64 x1) ∧ v17.cell? ⟨w.heap.size, 2, none⟩ = some (.int .u64 x2) ∧ v17.cell? ⟨w.heap.size, 3, none⟩ = some (.int .u64 x3) ∧ v17.cell? ⟨w.heap.size, 4, none⟩ = some (.int .u64 x4) := ⟨A_17.out.c0, A_17.out.c1, A_17.out.c2, A_17.out.c3, A_17.out.c4⟩))
      | (go_at_call 38; have gg := G_15'; clear gg; (refine (KX.out _).mono ?_); (rintro e v16 ⟨h, rfl, hf, -, g⟩; have FF_16 : Hid (Fil X h 32 v16) := hf; clear hf; have A_16 : Hid (Bl5 v16 w.heap.size x0 x1 x2 x3 x4) := A_15'.out.below g; have R_16 : Hid (Bl5 v16 v5.heap.size z0 z1 z2 z3 z4) := R_15'.out.below g; have Y_16 : Hid (Bl5 v16 v11.heap.size y0 y1 y2 y3 y4) := Y_15'.out.below g; have S_16 : Hid (SK .u8 v16 (.slice a0 l0.length d0) l0) := S_15'.out.below g; have T_16 : Hid (SK .u8 v16 (.slice a1 l1.length d1) l1) := T_15'.out.below g; have B_16 : Hid (Num v16 (.slice Ba Bc Bd) (MM)) := B_15'.out.below g; have D_16 : Hid (Num v16 (.slice Da Dc Dd) (MM % P25)) := D_15'.out.below g; have Z_16 : Hid (Gl v16) := Z_15'.out.grown g; have G_16 : Hid (Below w.heap.size w v16) := G_15'.out.trans (g.mono G_15'.out.size); clear g; clear K; have K : v16.cell? ⟨w.heap.size, 0, none⟩ = some (.int .u64 x0) ∧ v16.cell? ⟨w.heap.size, 1, none⟩ = some (.int .u64 x1) ∧ v16.cell? ⟨w.heap.size, 2, none⟩ = some (.int .u64 x2) ∧ v16.cell? ⟨w.heap.size, 3, none⟩ = some (.int .u64 x3) ∧ v16.cell? ⟨w.heap.size, 4, none⟩ = some (.int .u64 x4) := ⟨A_16.out.c0, A_16.out.c1, A_16.out.c2, A_16.out.c3, A_16.out.c4⟩))
      | fail)
  clear K 
  go_wp2_with fail
  go_ret
  exact ⟨rfl, G_19.out⟩

set_option maxRecDepth 100000 in
set_option maxHeartbeats 16000000 in
theorem fbyt_0n (l0 l1 : List Nat) (hb0 : Bb l0) (hb1 : Bb l1) (v0 v1 : Value) (x : L5) (hx : x.Wds) (hm : l0.length ≤ 100) (hl : l1.length ≤ 100) (ht : x.Tm) (c1 : l0.length = 32) (c2 : hvN (turn l0) l0.length < P25) (c3 : ¬ l1.length ≤ 64) (w : World) (h0 : SK .u8 w v0 l0) (h1 : SK .u8 w v1 l1) (hg : Gl w) : Calls Tryd.prog 6 #[v0, v1, .agg #[.int .u64 x.l0, .int .u64 x.l1, .int .u64 x.l2, .int .u64 x.l3, .int .u64 x.l4]] w fun e w' => e = .returned (.bool true) ∧ Below w.heap.size w w' := by
  have HG : Hid (Gl w) := hg
  have hs0 : Hid (SK .u8 w v0 l0) := h0
  have hs1 : Hid (SK .u8 w v1 l1) := h1
  have kw : Hid (∀ W, Gl W → Calls Tryd.prog 8 #[] W fun e w' => e = .returned (.bool true) ∧ Below W.heap.size W w') := fun W h => awake4_any W h
  have HE : Hid (∀ W : World, Els (W.alloc (.cells #[.int .u64 x.l0, .int .u64 x.l1, .int .u64 x.l2, .int .u64 x.l3, .int .u64 x.l4] 24)) W.heap.size 1 (fun _ => x)) := fun W => els_one W x
  have gl := hg.lt
  obtain ⟨a0, d0, rfl⟩ := h0.shape
  obtain ⟨a1, d1, rfl⟩ := h1.shape
  have hm' : ¬ (100 : Int) < (l0.length : Int) := by omega
  have hl' : ¬ (100 : Int) < (l1.length : Int) := by omega
  have kt' : ∀ W g, Els W g 1 (fun _ => x) → Calls Tryd.prog 9 #[.slice (some ⟨g, 0, none⟩) 1 1] W fun e w' => e = .returned (.bool true) ∧ Below W.heap.size W w' := fun W g h => tame_any (fun _ => x) 1 g (by omega) (fun _ _ => hx) W h true ⟨fun _ _ _ => ht, fun _ => rfl⟩
  obtain ⟨z, ok, eo, e1, e2, kO⟩ := of_all l0 hb0
  have KL : Hid (∀ v w, SK .u8 w v l0 → Calls Tryd.prog 32 #[v] w fun e w' => ∃ v, e = .returned v ∧ Num w' v (hvN (turn l0) l0.length) ∧ Below w.heap.size w w') := fun v w h => littleN_any l0 hb0 v w h (by omega)
  rw [decide_eq_true ⟨c1, c2⟩] at eo
  subst eo
  have iz := fun v w h => is_yes z (e1 rfl).1 _ (e1 rfl).2 v w h
  have c1' : (l0.length : Int) = 32 := by omega
  have hN : hvN (turn l0) l0.length < 16777216 ^ 22 := Nat.lt_of_lt_of_le (hvN_lt _ (turn_bb l0 hb0) _) (by rw [c1]; exact pow256 32 22 (by omega))
  obtain ⟨od, hod⟩ : ∃ o, ord ((hvN (turn l0) l0.length : Nat) : Int) (P25 : Int) = o := ⟨_, rfl⟩
  have hlt : od < 0 := by
    rw [← hod]; unfold ord
    split
    · omega
    · split <;> omega
  have KC : Hid (∀ u v w, Num w u (hvN (turn l0) l0.length) → Num w v P25 → Calls Tryd.prog 29 #[u, v] w fun e w' => e = .returned (.int .i64 od) ∧ Below w.heap.size w w') := by
    intro u v w h h'
    rw [← hod]
    exact cmp_num _ P25 u v w h h' 22 hN P25_lt22 (by omega)
  have KP : Hid (∀ w, Calls Tryd.prog 33 #[] w fun e w' => ∃ v, e = .returned v ∧ Num w' v P25 ∧ Below w.heap.size w w') := fun w => pD_num w
  have c3' : ¬ (l1.length : Int) ≤ 64 := by omega
  have hd : decide ((l1.length : Int) ≤ 64) = false := decide_eq_false c3'
  have NY := neq5 0 0 0 0 0
  have kW : ∀ w, Calls Tryd.prog 34 #[.slice a1 l1.length d1] w fun e w' => e = .returned (.tuple #[.agg #[.int .u64 0, .int .u64 0, .int .u64 0, .int .u64 0, .int .u64 0], .bool false]) ∧ Below w.heap.size w w' := fun w => wide_no a1 l1.length d1 (by omega) w
  have kx := bytes_fe x ht
  have ox := of_nn x ht
  have hX := Nat.lt_trans x.nn_lt P25_lt22
  generalize x.nn = X at *
  generalize hvN (turn l0) l0.length = NN at *
  generalize hvN l1 l1.length = MM at *
  have TL : Hid (∀ v w, Num w v X → Calls Tryd.prog 39 #[v, .int .i64 32] w fun e w' => ∃ v, e = .returned v ∧ SK .u8 w' v (leB X 32) ∧ Below w.heap.size w w') := fun v w h => toLittle32 X v w h 22 hX (by omega)
  have SM : Hid (∀ g v w, Fil X g 32 w → SK .u8 w v (leB X 32) → Calls Tryd.prog 37 #[.slice (some ⟨g, 0, none⟩) 32 32, v] w fun e w' => e = .returned (.bool true) ∧ Below w.heap.size w w') := fun g v w h h' => same32 X g v w h h'
  clear hg h0 h1 hx ht hb0 hb1 hm hl c1 c2 c3 e1 e2 hX hN hod
  obtain ⟨x0, x1, x2, x3, x4⟩ := x
  obtain ⟨z0, z1, z2, z3, z4⟩ := z
  dsimp only at kt' kO kx ox HE iz ⊢
  have KO : Hid (∀ v w, SK .u8 w v l0 → Calls Tryd.prog 31 #[v] w fun e w' => e = .returned (.tuple #[.agg #[.int .u64 z0, .int .u64 z1, .int .u64 z2, .int .u64 z3, .int .u64 z4], .bool true]) ∧ Below w.heap.size w w') := kO
  have KW : Hid (∀ w, Calls Tryd.prog 34 #[.slice a1 l1.length d1] w fun e w' => e = .returned (.tuple #[.agg #[.int .u64 0, .int .u64 0, .int .u64 0, .int .u64 0, .int .u64 0], .bool false]) ∧ Below w.heap.size w w') := kW
  have IZ : Hid (∀ v w, Num w v NN → Calls Tryd.prog 11 #[.agg #[.int .u64 z0, .int .u64 z1, .int .u64 z2, .int .u64 z3, .int .u64 z4], v] w fun e w' => e = .returned (.bool true) ∧ Below w.heap.size w w') := iz
  have OX : Hid (∀ w, Calls Tryd.prog 10 #[.agg #[.int .u64 x0, .int .u64 x1, .int .u64 x2, .int .u64 x3, .int .u64 x4]] w fun e w' => ∃ v, e = .returned v ∧ Num w' v X ∧ Below w.heap.size w w') := ox
  have KX : Hid (∀ w, Calls Tryd.prog 38 #[.agg #[.int .u64 x0, .int .u64 x1, .int .u64 x2, .int .u64 x3, .int .u64 x4]] w fun e w' => ∃ g, e = .returned (.slice (some ⟨g, 0, none⟩) 32 32) ∧ Fil X g 32 w' ∧ w.heap.size ≤ g ∧ Below w.heap.size w w') := kx
  have Kt : Hid (∀ W g, Els W g 1 (fun _ => ⟨x0, x1, x2, x3, x4⟩) → Calls Tryd.prog 9 #[.slice (some ⟨g, 0, none⟩) 1 1] W fun e w' => e = .returned (.bool true) ∧ Below W.heap.size W w') := kt'
  clear kt' kO kx ox kW iz
  go_enter Tryd.func6, Tryd.ntmps6
  go_wp2_with fail
  refine calls_at (fun V => Bl5 V w.heap.size x0 x1 x2 x3 x4 ∧ SK .u8 V (.slice a0 l0.length d0) l0 ∧ SK .u8 V (.slice a1 l1.length d1) l1 ∧ Gl V ∧ Below w.heap.size w V) ⟨?_, ?_, ?_, ?_, ?_⟩ ?_
  · (repeat (first | refine Bl5.drew ?_ | refine Bl5.drewN ?_ _ | (refine Bl5.new _ _ _ _ _ _ _ _ ?_; simp; done) | refine Bl5.alloc ?_ _))
  · exact hs0.out.below ((Below.refl _ _).alloc (Nat.le_refl _) _)
  · exact hs1.out.below ((Below.refl _ _).alloc (Nat.le_refl _) _)
  · refine Gl.grown HG.out ?_
    (repeat (first | exact Below.refl _ _ | refine Below.drew ?_ | refine below_drewN ?_ _ | refine Below.alloc ?_ (by simp <;> omega) _))
  · (repeat (first | exact Below.refl _ _ | refine Below.drew ?_ | refine below_drewN ?_ _ | refine Below.alloc ?_ (by simp <;> omega) _ | refine Below.setCell ?_ (by simp <;> omega) _))
  rintro v1 ⟨k0, k1, k2, k3, k4⟩
  have A_1 : Hid (Bl5 v1 w.heap.size x0 x1 x2 x3 x4) := k0
  have S_1 : Hid (SK .u8 v1 (.slice a0 l0.length d0) l0) := k1
  have T_1 : Hid (SK .u8 v1 (.slice a1 l1.length d1) l1) := k2
  have Z_1 : Hid (Gl v1) := k3
  have G_1 : Hid (Below w.heap.size w v1) := k4
  clear k0 k1 k2 k3 k4
  refine (kw.out _ Z_1.out).mono ?_
  rintro e v2 ⟨rfl, g⟩
  have A_2 : Hid (Bl5 v2 w.heap.size x0 x1 x2 x3 x4) := A_1.out.below g
  have S_2 : Hid (SK .u8 v2 (.slice a0 l0.length d0) l0) := S_1.out.below g
  have T_2 : Hid (SK .u8 v2 (.slice a1 l1.length d1) l1) := T_1.out.below g
  have Z_2 : Hid (Gl v2) := Z_1.out.grown g
  have G_2 : Hid (Below w.heap.size w v2) := G_1.out.trans (g.mono G_1.out.size)
  clear A_1 S_1 T_1 Z_1 G_1 g
  obtain ⟨cal, ca0, ca1, ca2, ca3, ca4, caf⟩ := A_2.out
  go_wp2_with fail
  clear cal ca0 ca1 ca2 ca3 ca4 caf
  refine calls_at (fun V => Els V v2.heap.size 1 (fun _ => ⟨x0, x1, x2, x3, x4⟩) ∧ Bl5 V w.heap.size x0 x1 x2 x3 x4 ∧ SK .u8 V (.slice a0 l0.length d0) l0 ∧ SK .u8 V (.slice a1 l1.length d1) l1 ∧ Gl V ∧ Below w.heap.size w V) ⟨HE.out v2, A_2.out.alloc _, S_2.out.below ((Below.refl _ _).alloc (Nat.le_refl _) _), T_2.out.below ((Below.refl _ _).alloc (Nat.le_refl _) _), Z_2.out.grown ((Below.refl _ _).alloc (Nat.le_refl _) _), G_2.out.alloc G_2.out.size _⟩ ?_
  rintro v3 ⟨hE, kA, kS, kT, kZ, kG⟩
  have A_3 : Hid (Bl5 v3 w.heap.size x0 x1 x2 x3 x4) := kA
  have S_3 : Hid (SK .u8 v3 (.slice a0 l0.length d0) l0) := kS
  have T_3 : Hid (SK .u8 v3 (.slice a1 l1.length d1) l1) := kT
  have Z_3 : Hid (Gl v3) := kZ
  have G_3 : Hid (Below w.heap.size w v3) := kG
  have hE' : Hid (Els v3 v2.heap.size 1 (fun _ => ⟨x0, x1, x2, x3, x4⟩)) := hE
  clear hE kA kS kT kZ kG A_2 S_2 T_2 Z_2 G_2
  refine (Kt.out _ _ hE'.out).mono ?_
  rintro e v4 ⟨rfl, g⟩
  have A_4 : Hid (Bl5 v4 w.heap.size x0 x1 x2 x3 x4) := A_3.out.below g
  have S_4 : Hid (SK .u8 v4 (.slice a0 l0.length d0) l0) := S_3.out.below g
  have T_4 : Hid (SK .u8 v4 (.slice a1 l1.length d1) l1) := T_3.out.below g
  have Z_4 : Hid (Gl v4) := Z_3.out.grown g
  have G_4 : Hid (Below w.heap.size w v4) := G_3.out.trans (g.mono G_3.out.size)
  clear A_3 S_3 T_3 Z_3 G_3 g
  clear hE'
  go_wp2_with fail
  refine (KO.out _ _ S_4.out).mono ?_
  rintro e v5 ⟨rfl, g⟩
  have A_5 : Hid (Bl5 v5 w.heap.size x0 x1 x2 x3 x4) := A_4.out.below g
  have S_5 : Hid (SK .u8 v5 (.slice a0 l0.length d0) l0) := S_4.out.below g
  have T_5 : Hid (SK .u8 v5 (.slice a1 l1.length d1) l1) := T_4.out.below g
  have Z_5 : Hid (Gl v5) := Z_4.out.grown g
  have G_5 : Hid (Below w.heap.size w v5) := G_4.out.trans (g.mono G_4.out.size)
  clear A_4 S_4 T_4 Z_4 G_4 g
  go_wp2_with fail
  have szR : w.heap.size ≤ v5.heap.size := G_5.out.size
  have nbRA : ¬ (v5.heap.size = w.heap.size) := by have := A_5.out.lt; omega
  refine calls_at (fun V => Bl5 V w.heap.size x0 x1 x2 x3 x4 ∧ SK .u8 V (.slice a0 l0.length d0) l0 ∧ SK .u8 V (.slice a1 l1.length d1) l1 ∧ Gl V ∧ Bl5 V v5.heap.size z0 z1 z2 z3 z4 ∧ Below w.heap.size w V) ⟨A_5.out.alloc _, S_5.out.below ((Below.refl _ _).alloc (Nat.le_refl _) _), T_5.out.below ((Below.refl _ _).alloc (Nat.le_refl _) _), Z_5.out.grown ((Below.refl _ _).alloc (Nat.le_refl _) _), Bl5.new v5 _ _ _ _ _ _ _ rfl, G_5.out.alloc G_5.out.size _⟩ ?_
  rintro v6 ⟨k0, k1, k2, k3, k4, k5⟩
  have A_6 : Hid (Bl5 v6 w.heap.size x0 x1 x2 x3 x4) := k0
  have S_6 : Hid (SK .u8 v6 (.slice a0 l0.length d0) l0) := k1
  have T_6 : Hid (SK .u8 v6 (.slice a1 l1.length d1) l1) := k2
  have Z_6 : Hid (Gl v6) := k3
  have R_6 : Hid (Bl5 v6 v5.heap.size z0 z1 z2 z3 z4) := k4
  have G_6 : Hid (Below w.heap.size w v6) := k5
  clear k0 k1 k2 k3 k4 k5 A_5 S_5 T_5 Z_5 G_5
  refine (KL.out _ _ S_6.out).mono ?_
  rintro e v7 ⟨v, rfl, hn, g⟩
  obtain ⟨Ua, Uc, Ud, rfl⟩ := hn.shape
  have U_7 : Hid (Num v7 (.slice Ua Uc Ud) (NN)) := hn
  have A_7 : Hid (Bl5 v7 w.heap.size x0 x1 x2 x3 x4) := A_6.out.below g
  have R_7 : Hid (Bl5 v7 v5.heap.size z0 z1 z2 z3 z4) := R_6.out.below g
  have S_7 : Hid (SK .u8 v7 (.slice a0 l0.length d0) l0) := S_6.out.below g
  have T_7 : Hid (SK .u8 v7 (.slice a1 l1.length d1) l1) := T_6.out.below g
  have Z_7 : Hid (Gl v7) := Z_6.out.grown g
  have G_7 : Hid (Below w.heap.size w v7) := G_6.out.trans (g.mono G_6.out.size)
  clear A_6 R_6 S_6 T_6 Z_6 G_6 g hn
  go_wp2_with fail
  refine (KP.out _).mono ?_
  rintro e v8 ⟨v, rfl, hn, g⟩
  obtain ⟨Qa, Qc, Qd, rfl⟩ := hn.shape
  have Q_8 : Hid (Num v8 (.slice Qa Qc Qd) (P25)) := hn
  have A_8 : Hid (Bl5 v8 w.heap.size x0 x1 x2 x3 x4) := A_7.out.below g
  have R_8 : Hid (Bl5 v8 v5.heap.size z0 z1 z2 z3 z4) := R_7.out.below g
  have S_8 : Hid (SK .u8 v8 (.slice a0 l0.length d0) l0) := S_7.out.below g
  have T_8 : Hid (SK .u8 v8 (.slice a1 l1.length d1) l1) := T_7.out.below g
  have U_8 : Hid (Num v8 (.slice Ua Uc Ud) (NN)) := U_7.out.below g
  have Z_8 : Hid (Gl v8) := Z_7.out.grown g
  have G_8 : Hid (Below w.heap.size w v8) := G_7.out.trans (g.mono G_7.out.size)
  clear A_7 R_7 S_7 T_7 U_7 Z_7 G_7 g hn
  go_wp2_with fail
  refine (KC.out _ _ _ U_8.out Q_8.out).mono ?_
  rintro e v9 ⟨rfl, g⟩
  have A_9 : Hid (Bl5 v9 w.heap.size x0 x1 x2 x3 x4) := A_8.out.below g
  have R_9 : Hid (Bl5 v9 v5.heap.size z0 z1 z2 z3 z4) := R_8.out.below g
  have S_9 : Hid (SK .u8 v9 (.slice a0 l0.length d0) l0) := S_8.out.below g
  have T_9 : Hid (SK .u8 v9 (.slice a1 l1.length d1) l1) := T_8.out.below g
  have U_9 : Hid (Num v9 (.slice Ua Uc Ud) (NN)) := U_8.out.below g
  have Z_9 : Hid (Gl v9) := Z_8.out.grown g
  have G_9 : Hid (Below w.heap.size w v9) := G_8.out.trans (g.mono G_8.out.size)
  clear A_8 R_8 S_8 T_8 U_8 Q_8 Z_8 G_8 g
  obtain ⟨crl, cr0, cr1, cr2, cr3, cr4, crf⟩ := R_9.out
  go_wp2_with fail
  refine (IZ.out _ _ U_9.out).mono ?_
  rintro e v10 ⟨rfl, g⟩
  clear crl cr0 cr1 cr2 cr3 cr4 crf
  have A_10 : Hid (Bl5 v10 w.heap.size x0 x1 x2 x3 x4) := A_9.out.below g
  have R_10 : Hid (Bl5 v10 v5.heap.size z0 z1 z2 z3 z4) := R_9.out.below g
  have S_10 : Hid (SK .u8 v10 (.slice a0 l0.length d0) l0) := S_9.out.below g
  have T_10 : Hid (SK .u8 v10 (.slice a1 l1.length d1) l1) := T_9.out.below g
  have Z_10 : Hid (Gl v10) := Z_9.out.grown g
  have G_10 : Hid (Below w.heap.size w v10) := G_9.out.trans (g.mono G_9.out.size)
  clear A_9 R_9 S_9 T_9 U_9 Z_9 G_9 g
  go_wp2_with fail
  refine (KW.out _).mono ?_
  rintro e v11 ⟨rfl, g⟩
  have A_11 : Hid (Bl5 v11 w.heap.size x0 x1 x2 x3 x4) := A_10.out.below g
  have R_11 : Hid (Bl5 v11 v5.heap.size z0 z1 z2 z3 z4) := R_10.out.below g
  have S_11 : Hid (SK .u8 v11 (.slice a0 l0.length d0) l0) := S_10.out.below g
  have T_11 : Hid (SK .u8 v11 (.slice a1 l1.length d1) l1) := T_10.out.below g
  have Z_11 : Hid (Gl v11) := Z_10.out.grown g
  have G_11 : Hid (Below w.heap.size w v11) := G_10.out.trans (g.mono G_10.out.size)
  clear A_10 R_10 S_10 T_10 Z_10 G_10 g
  go_wp2_with fail
  have szY : w.heap.size ≤ v11.heap.size := G_11.out.size
  have nbYA : ¬ (v11.heap.size = w.heap.size) := by have := A_11.out.lt; omega
  have nbYR : ¬ (v11.heap.size = v5.heap.size) := by have := R_11.out.lt; omega
  refine wp_cut (fun V => Bl5 V w.heap.size x0 x1 x2 x3 x4 ∧ Bl5 V v5.heap.size z0 z1 z2 z3 z4 ∧ SK .u8 V (.slice a0 l0.length d0) l0 ∧ SK .u8 V (.slice a1 l1.length d1) l1 ∧ Gl V ∧ Bl5 V v11.heap.size 0 0 0 0 0 ∧ Below w.heap.size w V) ⟨A_11.out.alloc _, R_11.out.alloc _, S_11.out.below ((Below.refl _ _).alloc (Nat.le_refl _) _), T_11.out.below ((Below.refl _ _).alloc (Nat.le_refl _) _), Z_11.out.grown ((Below.refl _ _).alloc (Nat.le_refl _) _), Bl5.new v11 _ _ _ _ _ _ _ rfl, G_11.out.alloc G_11.out.size _⟩ ?_
  rintro v12 ⟨k0, k1, k2, k3, k4, k5, k6⟩
  have A_12 : Hid (Bl5 v12 w.heap.size x0 x1 x2 x3 x4) := k0
  have R_12 : Hid (Bl5 v12 v5.heap.size z0 z1 z2 z3 z4) := k1
  have S_12 : Hid (SK .u8 v12 (.slice a0 l0.length d0) l0) := k2
  have T_12 : Hid (SK .u8 v12 (.slice a1 l1.length d1) l1) := k3
  have Z_12 : Hid (Gl v12) := k4
  have Y_12 : Hid (Bl5 v12 v11.heap.size 0 0 0 0 0) := k5
  have G_12 : Hid (Below w.heap.size w v12) := k6
  clear k0 k1 k2 k3 k4 k5 k6 A_11 R_11 S_11 T_11 Z_11 G_11
  obtain ⟨cyl, cy0, cy1, cy2, cy3, cy4, cyf⟩ := Y_12.out
  refine wp_region_ext (by kernel_rfl) (by kernel_rfl) ?_
  repeat (go_big_quiet_step ((first
  
    | fail)))
  refine wpQuiet_nil ?_
  intro W1 hw
  obtain ⟨m, rfl⟩ := hw
  have g := ext_below v12 m
  obtain ⟨v13, hW⟩ : ∃ V, ext v12 m = V := ⟨_, rfl⟩
  rw [hW] at g ⊢
  clear hW
  clear cyl cy0 cy1 cy2 cy3 cy4 cyf
  have A_13 : Hid (Bl5 v13 w.heap.size x0 x1 x2 x3 x4) := A_12.out.below g
  have R_13 : Hid (Bl5 v13 v5.heap.size z0 z1 z2 z3 z4) := R_12.out.below g
  have Y_13 : Hid (Bl5 v13 v11.heap.size 0 0 0 0 0) := Y_12.out.below g
  have S_13 : Hid (SK .u8 v13 (.slice a0 l0.length d0) l0) := S_12.out.below g
  have T_13 : Hid (SK .u8 v13 (.slice a1 l1.length d1) l1) := T_12.out.below g
  have Z_13 : Hid (Gl v13) := Z_12.out.grown g
  have G_13 : Hid (Below w.heap.size w v13) := G_12.out.trans (g.mono G_12.out.size)
  clear A_12 R_12 Y_12 S_12 T_12 Z_12 G_12 g
  have K : v13.drew.cell? ⟨w.heap.size, 0, none⟩ = some (.int .u64 x0) ∧ v13.drew.cell? ⟨w.heap.size, 1, none⟩ = some (.int .u64 x1) ∧ v13.drew.cell? ⟨w.heap.size, 2, none⟩ = some (.int .u64 x2) ∧ v13.drew.cell? ⟨w.heap.size, 3, none⟩ = some (.int .u64 x3) ∧ v13.drew.cell? ⟨w.heap.size, 4, none⟩ = some (.int .u64 x4) := ⟨A_13.out.drew.c0, A_13.out.drew.c1, A_13.out.drew.c2, A_13.out.drew.c3, A_13.out.drew.c4⟩
  have A_13' : Hid (Bl5 v13.drew w.heap.size x0 x1 x2 x3 x4) := A_13.out.drew
  have R_13' : Hid (Bl5 v13.drew v5.heap.size z0 z1 z2 z3 z4) := R_13.out.drew
  have Y_13' : Hid (Bl5 v13.drew v11.heap.size 0 0 0 0 0) := Y_13.out.drew
  have S_13' : Hid (SK .u8 v13.drew (.slice a0 l0.length d0) l0) := S_13.out.below (Below.refl _ _).drew
  have T_13' : Hid (SK .u8 v13.drew (.slice a1 l1.length d1) l1) := T_13.out.below (Below.refl _ _).drew
  have Z_13' : Hid (Gl v13.drew) := Z_13.out.grown (Below.refl _ _).drew
  have G_13' : Hid (Below w.heap.size w v13.drew) := G_13.out.drew
  go_wp2_with fail
  go_region_held3 (fun w' => w'.cell? ⟨w.heap.size, 0, none⟩ = some (.int .u64 x0) ∧ w'.cell? ⟨w.heap.size, 1, none⟩ = some (.int .u64 x1) ∧ w'.cell? ⟨w.heap.size, 2, none⟩ = some (.int .u64 x2) ∧ w'.cell? ⟨w.heap.size, 3, none⟩ = some (.int .u64 x3) ∧ w'.cell? ⟨w.heap.size, 4, none⟩ = some (.int .u64 x4)) (first | with_reducible assumption | go_keep)
    (first
      | (go_at_call 37; have gg := G_16; clear gg; (refine (SM.out _ _ _ FF_16.out TT_16.out).mono ?_); (rintro e v17 ⟨rfl, g⟩; have A_17 : Hid (Bl5 v17 w.heap.size x0 x1 x2 x3 x4) := A_16.out.below g; have R_17 : Hid (Bl5 v17 v5.heap.size z0 z1 z2 z3 z4) := R_16.out.below g; have Y_17 : Hid (Bl5 v17 v11.heap.size 0 0 0 0 0) := Y_16.out.below g; have S_17 : Hid (SK .u8 v17 (.slice a0 l0.length d0) l0) := S_16.out.below g; have T_17 : Hid (SK .u8 v17 (.slice a1 l1.length d1) l1) := T_16.out.below g; have FF_17 : Hid (Fil X h 32 v17) := FF_16.out.below g; have E_17 : Hid (Num v17 (.slice Ea Ec Ed) (X)) := E_16.out.below g; have TT_17 : Hid (SK .u8 v17 (.slice ta (leB X 32).length td) (leB X 32)) := TT_16.out.below g; have Z_17 : Hid (Gl v17) := Z_16.out.grown g; have G_17 : Hid (Below w.heap.size w v17) := G_16.out.trans (g.mono G_16.out.size); clear g; clear K; have K : v17.cell? ⟨w.heap.size, 0, none⟩ = some (.int .u64 x0) ∧ v17.cell? ⟨w.heap.size, 1, none⟩ = some (.int .u64 x1) ∧ v17.cell? ⟨w.heap.size, 2, none⟩ = some (.int .u64 x2) ∧ v17.cell? ⟨w.heap.size, 3, none⟩ = some (.int .u64 x3) ∧ v17.cell? ⟨w.heap.size, 4, none⟩ = some (.int .u64 x4) := ⟨A_17.out.c0, A_17.out.c1, A_17.out.c2, A_17.out.c3, A_17.out.c4⟩))
      | (go_at_call 39; have gg := G_15; clear gg; (refine (TL.out _ _ E_15.out).mono ?_); (rintro e v16 ⟨v, rfl, hf, g⟩; obtain ⟨ta, td, rfl⟩ := hf.shape; have TT_16 : Hid (SK .u8 v16 (.slice ta (leB X 32).length td) (leB X 32)) := hf; clear hf; have A_16 : Hid (Bl5 v16 w.heap.size x0 x1 x2 x3 x4) := A_15.out.below g; have R_16 : Hid (Bl5 v16 v5.heap.size z0 z1 z2 z3 z4) := R_15.out.below g; have Y_16 : Hid (Bl5 v16 v11.heap.size 0 0 0 0 0) := Y_15.out.below g; have S_16 : Hid (SK .u8 v16 (.slice a0 l0.length d0) l0) := S_15.out.below g; have T_16 : Hid (SK .u8 v16 (.slice a1 l1.length d1) l1) := T_15.out.below g; have FF_16 : Hid (Fil X h 32 v16) := FF_15.out.below g; have E_16 : Hid (Num v16 (.slice Ea Ec Ed) (X)) := E_15.out.below g; have Z_16 : Hid (Gl v16) := Z_15.out.grown g; have G_16 : Hid (Below w.heap.size w v16) := G_15.out.trans (g.mono G_15.out.size); clear g; clear K; have K : v16.cell? ⟨w.heap.size, 0, none⟩ = some (.int .u64 x0) ∧ v16.cell? ⟨w.heap.size, 1, none⟩ = some (.int .u64 x1) ∧ v16.cell? ⟨w.heap.size, 2, none⟩ = some (.int .u64 x2) ∧ v16.cell? ⟨w.heap.size, 3, none⟩ = some (.int .u64 x3) ∧ v16.cell? ⟨w.heap.size, 4, none⟩ = some (.int .u64 x4) := ⟨A_16.out.c0, A_16.out.c1, A_16.out.c2, A_16.out.c3, A_16.out.c4⟩))
      | (go_at_call 10; have gg := G_14; clear gg; (refine (OX.out _).mono ?_); (rintro e v15 ⟨v, rfl, hn, g⟩; obtain ⟨Ea, Ec, Ed, rfl⟩ := hn.shape; have E_15 : Hid (Num v15 (.slice Ea Ec Ed) (X)) := hn; clear hn; have A_15 : Hid (Bl5 v15 w.heap.size x0 x1 x2 x3 x4) := A_14.out.below g; have R_15 : Hid (Bl5 v15 v5.heap.size z0 z1 z2 z3 z4) := R_14.out.below g; have Y_15 : Hid (Bl5 v15 v11.heap.size 0 0 0 0 0) := Y_14.out.below g; have S_15 : Hid (SK .u8 v15 (.slice a0 l0.length d0) l0) := S_14.out.below g; have T_15 : Hid (SK .u8 v15 (.slice a1 l1.length d1) l1) := T_14.out.below g; have FF_15 : Hid (Fil X h 32 v15) := FF_14.out.below g; have Z_15 : Hid (Gl v15) := Z_14.out.grown g; have G_15 : Hid (Below w.heap.size w v15) := G_14.out.trans (g.mono G_14.out.size); clear g; clear K; have K : v15.cell? ⟨w.heap.size, 0, none⟩ = some (.int .u64 x0) ∧ v15.cell? ⟨w.heap.size, 1, none⟩ = some (.int .u64 x1) ∧ v15.cell? ⟨w.heap.size, 2, none⟩ = some (.int .u64 x2) ∧ v15.cell? ⟨w.heap.size, 3, none⟩ = some (.int .u64 x3) ∧ v15.cell? ⟨w.heap.size, 4, none⟩ = some (.int .u64 x4) := ⟨A_15.out.c0, A_15.out.c1, A_15.out.c2, A_15.out.c3, A_15.out.c4⟩))
      | (go_at_call 38; have gg := G_13'; clear gg; (refine (KX.out _).mono ?_); (rintro e v14 ⟨h, rfl, hf, -, g⟩; have FF_14 : Hid (Fil X h 32 v14) := hf; clear hf; have A_14 : Hid (Bl5 v14 w.heap.size x0 x1 x2 x3 x4) := A_13'.out.below g; have R_14 : Hid (Bl5 v14 v5.heap.size z0 z1 z2 z3 z4) := R_13'.out.below g; have Y_14 : Hid (Bl5 v14 v11.heap.size 0 0 0 0 0) := Y_13'.out.below g; have S_14 : Hid (SK .u8 v14 (.slice a0 l0.length d0) l0) := S_13'.out.below g; have T_14 : Hid (SK .u8 v14 (.slice a1 l1.length d1) l1) := T_13'.out.below g; have Z_14 : Hid (Gl v14) := Z_13'.out.grown g; have G_14 : Hid (Below w.heap.size w v14) := G_13'.out.trans (g.mono G_13'.out.size); clear g; clear K; have K : v14.cell? ⟨w.heap.size, 0, none⟩ = some (.int .u64 x0) ∧ v14.cell? ⟨w.heap.size, 1, none⟩ = some (.int .u64 x1) ∧ v14.cell? ⟨w.heap.size, 2, none⟩ = some (.int .u64 x2) ∧ v14.cell? ⟨w.heap.size, 3, none⟩ = some (.int .u64 x3) ∧ v14.cell? ⟨w.heap.size, 4, none⟩ = some (.int .u64 x4) := ⟨A_14.out.c0, A_14.out.c1, A_14.out.c2, A_14.out.c3, A_14.out.c4⟩))
      | fail)
  clear K 
  go_wp2_with fail
  go_ret
  exact ⟨rfl, G_17.out⟩

set_option maxRecDepth 100000 in
set_option maxHeartbeats 16000000 in
theorem fbyt_1y (l0 l1 : List Nat) (hb0 : Bb l0) (hb1 : Bb l1) (v0 v1 : Value) (x : L5) (hx : x.Wds) (hm : l0.length ≤ 100) (hl : l1.length ≤ 100) (ht : x.Tm) (c1 : l0.length = 32) (c2 : ¬ hvN (turn l0) l0.length < P25) (c3 : l1.length ≤ 64) (w : World) (h0 : SK .u8 w v0 l0) (h1 : SK .u8 w v1 l1) (hg : Gl w) : Calls Tryd.prog 6 #[v0, v1, .agg #[.int .u64 x.l0, .int .u64 x.l1, .int .u64 x.l2, .int .u64 x.l3, .int .u64 x.l4]] w fun e w' => e = .returned (.bool true) ∧ Below w.heap.size w w' := by
  have HG : Hid (Gl w) := hg
  have hs0 : Hid (SK .u8 w v0 l0) := h0
  have hs1 : Hid (SK .u8 w v1 l1) := h1
  have kw : Hid (∀ W, Gl W → Calls Tryd.prog 8 #[] W fun e w' => e = .returned (.bool true) ∧ Below W.heap.size W w') := fun W h => awake4_any W h
  have HE : Hid (∀ W : World, Els (W.alloc (.cells #[.int .u64 x.l0, .int .u64 x.l1, .int .u64 x.l2, .int .u64 x.l3, .int .u64 x.l4] 24)) W.heap.size 1 (fun _ => x)) := fun W => els_one W x
  have gl := hg.lt
  obtain ⟨a0, d0, rfl⟩ := h0.shape
  obtain ⟨a1, d1, rfl⟩ := h1.shape
  have hm' : ¬ (100 : Int) < (l0.length : Int) := by omega
  have hl' : ¬ (100 : Int) < (l1.length : Int) := by omega
  have kt' : ∀ W g, Els W g 1 (fun _ => x) → Calls Tryd.prog 9 #[.slice (some ⟨g, 0, none⟩) 1 1] W fun e w' => e = .returned (.bool true) ∧ Below W.heap.size W w' := fun W g h => tame_any (fun _ => x) 1 g (by omega) (fun _ _ => hx) W h true ⟨fun _ _ _ => ht, fun _ => rfl⟩
  obtain ⟨z, ok, eo, e1, e2, kO⟩ := of_all l0 hb0
  have KL : Hid (∀ v w, SK .u8 w v l0 → Calls Tryd.prog 32 #[v] w fun e w' => ∃ v, e = .returned v ∧ Num w' v (hvN (turn l0) l0.length) ∧ Below w.heap.size w w') := fun v w h => littleN_any l0 hb0 v w h (by omega)
  rw [decide_eq_false (fun h => c2 h.2)] at eo
  subst eo
  have ez := e2 rfl
  subst ez
  have NZ := neq5 0 0 0 0 0
  have c1' : (l0.length : Int) = 32 := by omega
  have hN : hvN (turn l0) l0.length < 16777216 ^ 22 := Nat.lt_of_lt_of_le (hvN_lt _ (turn_bb l0 hb0) _) (by rw [c1]; exact pow256 32 22 (by omega))
  obtain ⟨od, hod⟩ : ∃ o, ord ((hvN (turn l0) l0.length : Nat) : Int) (P25 : Int) = o := ⟨_, rfl⟩
  have hlt : ¬ od < 0 := by
    rw [← hod]; unfold ord
    split
    · omega
    · split <;> omega
  have KC : Hid (∀ u v w, Num w u (hvN (turn l0) l0.length) → Num w v P25 → Calls Tryd.prog 29 #[u, v] w fun e w' => e = .returned (.int .i64 od) ∧ Below w.heap.size w w') := by
    intro u v w h h'
    rw [← hod]
    exact cmp_num _ P25 u v w h h' 22 hN P25_lt22 (by omega)
  have KP : Hid (∀ w, Calls Tryd.prog 33 #[] w fun e w' => ∃ v, e = .returned v ∧ Num w' v P25 ∧ Below w.heap.size w w') := fun w => pD_num w
  have c3' : (l1.length : Int) ≤ 64 := by omega
  have hd : decide ((l1.length : Int) ≤ 64) = true := decide_eq_true c3'
  have hd2 : decide ((64 : Int) < (l1.length : Int)) = false := decide_eq_false (by omega)
  obtain ⟨y, hy, ey, kW⟩ := wide_yes l1 hb1 c3
  have iy := fun v w h => is_yes y hy _ ey v w h
  have hM : hvN l1 l1.length < 16777216 ^ 40 := Nat.lt_of_lt_of_le (hvN_lt _ hb1 _) (pow256 _ 40 (by omega))
  have KB : Hid (∀ v w, SK .u8 w v l1 → Calls Tryd.prog 36 #[v] w fun e w' => ∃ v, e = .returned v ∧ Num w' v (hvN l1 l1.length) ∧ Below w.heap.size w w') := fun v w h => bigN_any l1 hb1 v w h (by omega)
  have KM : Hid (∀ v w, Num w v (hvN l1 l1.length) → Calls Tryd.prog 35 #[v] w fun e w' => ∃ v, e = .returned v ∧ Num w' v (hvN l1 l1.length % P25) ∧ Below w.heap.size w w') := fun v w h => modD_num _ v w h hM
  have kx := bytes_fe x ht
  have ox := of_nn x ht
  have hX := Nat.lt_trans x.nn_lt P25_lt22
  generalize x.nn = X at *
  generalize hvN (turn l0) l0.length = NN at *
  generalize hvN l1 l1.length = MM at *
  have TL : Hid (∀ v w, Num w v X → Calls Tryd.prog 39 #[v, .int .i64 32] w fun e w' => ∃ v, e = .returned v ∧ SK .u8 w' v (leB X 32) ∧ Below w.heap.size w w') := fun v w h => toLittle32 X v w h 22 hX (by omega)
  have SM : Hid (∀ g v w, Fil X g 32 w → SK .u8 w v (leB X 32) → Calls Tryd.prog 37 #[.slice (some ⟨g, 0, none⟩) 32 32, v] w fun e w' => e = .returned (.bool true) ∧ Below w.heap.size w w') := fun g v w h h' => same32 X g v w h h'
  clear hg h0 h1 hx ht hb0 hb1 hm hl c1 c2 c3 e1 e2 hX hN hod hy ey hM
  obtain ⟨x0, x1, x2, x3, x4⟩ := x
  obtain ⟨y0, y1, y2, y3, y4⟩ := y
  dsimp only at kt' kO kx ox HE kW iy ⊢
  have KO : Hid (∀ v w, SK .u8 w v l0 → Calls Tryd.prog 31 #[v] w fun e w' => e = .returned (.tuple #[.agg #[.int .u64 0, .int .u64 0, .int .u64 0, .int .u64 0, .int .u64 0], .bool false]) ∧ Below w.heap.size w w') := kO
  have KW : Hid (∀ v w, SK .u8 w v l1 → Calls Tryd.prog 34 #[v] w fun e w' => e = .returned (.tuple #[.agg #[.int .u64 y0, .int .u64 y1, .int .u64 y2, .int .u64 y3, .int .u64 y4], .bool true]) ∧ Below w.heap.size w w') := kW
  have IY : Hid (∀ v w, Num w v (MM % P25) → Calls Tryd.prog 11 #[.agg #[.int .u64 y0, .int .u64 y1, .int .u64 y2, .int .u64 y3, .int .u64 y4], v] w fun e w' => e = .returned (.bool true) ∧ Below w.heap.size w w') := iy
  have OX : Hid (∀ w, Calls Tryd.prog 10 #[.agg #[.int .u64 x0, .int .u64 x1, .int .u64 x2, .int .u64 x3, .int .u64 x4]] w fun e w' => ∃ v, e = .returned v ∧ Num w' v X ∧ Below w.heap.size w w') := ox
  have KX : Hid (∀ w, Calls Tryd.prog 38 #[.agg #[.int .u64 x0, .int .u64 x1, .int .u64 x2, .int .u64 x3, .int .u64 x4]] w fun e w' => ∃ g, e = .returned (.slice (some ⟨g, 0, none⟩) 32 32) ∧ Fil X g 32 w' ∧ w.heap.size ≤ g ∧ Below w.heap.size w w') := kx
  have Kt : Hid (∀ W g, Els W g 1 (fun _ => ⟨x0, x1, x2, x3, x4⟩) → Calls Tryd.prog 9 #[.slice (some ⟨g, 0, none⟩) 1 1] W fun e w' => e = .returned (.bool true) ∧ Below W.heap.size W w') := kt'
  clear kt' kO kx ox kW iy
  go_enter Tryd.func6, Tryd.ntmps6
  go_wp2_with fail
  refine calls_at (fun V => Bl5 V w.heap.size x0 x1 x2 x3 x4 ∧ SK .u8 V (.slice a0 l0.length d0) l0 ∧ SK .u8 V (.slice a1 l1.length d1) l1 ∧ Gl V ∧ Below w.heap.size w V) ⟨?_, ?_, ?_, ?_, ?_⟩ ?_
  · (repeat (first | refine Bl5.drew ?_ | refine Bl5.drewN ?_ _ | (refine Bl5.new _ _ _ _ _ _ _ _ ?_; simp; done) | refine Bl5.alloc ?_ _))
  · exact hs0.out.below ((Below.refl _ _).alloc (Nat.le_refl _) _)
  · exact hs1.out.below ((Below.refl _ _).alloc (Nat.le_refl _) _)
  · refine Gl.grown HG.out ?_
    (repeat (first | exact Below.refl _ _ | refine Below.drew ?_ | refine below_drewN ?_ _ | refine Below.alloc ?_ (by simp <;> omega) _))
  · (repeat (first | exact Below.refl _ _ | refine Below.drew ?_ | refine below_drewN ?_ _ | refine Below.alloc ?_ (by simp <;> omega) _ | refine Below.setCell ?_ (by simp <;> omega) _))
  rintro v1 ⟨k0, k1, k2, k3, k4⟩
  have A_1 : Hid (Bl5 v1 w.heap.size x0 x1 x2 x3 x4) := k0
  have S_1 : Hid (SK .u8 v1 (.slice a0 l0.length d0) l0) := k1
  have T_1 : Hid (SK .u8 v1 (.slice a1 l1.length d1) l1) := k2
  have Z_1 : Hid (Gl v1) := k3
  have G_1 : Hid (Below w.heap.size w v1) := k4
  clear k0 k1 k2 k3 k4
  refine (kw.out _ Z_1.out).mono ?_
  rintro e v2 ⟨rfl, g⟩
  have A_2 : Hid (Bl5 v2 w.heap.size x0 x1 x2 x3 x4) := A_1.out.below g
  have S_2 : Hid (SK .u8 v2 (.slice a0 l0.length d0) l0) := S_1.out.below g
  have T_2 : Hid (SK .u8 v2 (.slice a1 l1.length d1) l1) := T_1.out.below g
  have Z_2 : Hid (Gl v2) := Z_1.out.grown g
  have G_2 : Hid (Below w.heap.size w v2) := G_1.out.trans (g.mono G_1.out.size)
  clear A_1 S_1 T_1 Z_1 G_1 g
  obtain ⟨cal, ca0, ca1, ca2, ca3, ca4, caf⟩ := A_2.out
  go_wp2_with fail
  clear cal ca0 ca1 ca2 ca3 ca4 caf
  refine calls_at (fun V => Els V v2.heap.size 1 (fun _ => ⟨x0, x1, x2, x3, x4⟩) ∧ Bl5 V w.heap.size x0 x1 x2 x3 x4 ∧ SK .u8 V (.slice a0 l0.length d0) l0 ∧ SK .u8 V (.slice a1 l1.length d1) l1 ∧ Gl V ∧ Below w.heap.size w V) ⟨HE.out v2, A_2.out.alloc _, S_2.out.below ((Below.refl _ _).alloc (Nat.le_refl _) _), T_2.out.below ((Below.refl _ _).alloc (Nat.le_refl _) _), Z_2.out.grown ((Below.refl _ _).alloc (Nat.le_refl _) _), G_2.out.alloc G_2.out.size _⟩ ?_
  rintro v3 ⟨hE, kA, kS, kT, kZ, kG⟩
  have A_3 : Hid (Bl5 v3 w.heap.size x0 x1 x2 x3 x4) := kA
  have S_3 : Hid (SK .u8 v3 (.slice a0 l0.length d0) l0) := kS
  have T_3 : Hid (SK .u8 v3 (.slice a1 l1.length d1) l1) := kT
  have Z_3 : Hid (Gl v3) := kZ
  have G_3 : Hid (Below w.heap.size w v3) := kG
  have hE' : Hid (Els v3 v2.heap.size 1 (fun _ => ⟨x0, x1, x2, x3, x4⟩)) := hE
  clear hE kA kS kT kZ kG A_2 S_2 T_2 Z_2 G_2
  refine (Kt.out _ _ hE'.out).mono ?_
  rintro e v4 ⟨rfl, g⟩
  have A_4 : Hid (Bl5 v4 w.heap.size x0 x1 x2 x3 x4) := A_3.out.below g
  have S_4 : Hid (SK .u8 v4 (.slice a0 l0.length d0) l0) := S_3.out.below g
  have T_4 : Hid (SK .u8 v4 (.slice a1 l1.length d1) l1) := T_3.out.below g
  have Z_4 : Hid (Gl v4) := Z_3.out.grown g
  have G_4 : Hid (Below w.heap.size w v4) := G_3.out.trans (g.mono G_3.out.size)
  clear A_3 S_3 T_3 Z_3 G_3 g
  clear hE'
  go_wp2_with fail
  refine (KO.out _ _ S_4.out).mono ?_
  rintro e v5 ⟨rfl, g⟩
  have A_5 : Hid (Bl5 v5 w.heap.size x0 x1 x2 x3 x4) := A_4.out.below g
  have S_5 : Hid (SK .u8 v5 (.slice a0 l0.length d0) l0) := S_4.out.below g
  have T_5 : Hid (SK .u8 v5 (.slice a1 l1.length d1) l1) := T_4.out.below g
  have Z_5 : Hid (Gl v5) := Z_4.out.grown g
  have G_5 : Hid (Below w.heap.size w v5) := G_4.out.trans (g.mono G_4.out.size)
  clear A_4 S_4 T_4 Z_4 G_4 g
  go_wp2_with fail
  have szR : w.heap.size ≤ v5.heap.size := G_5.out.size
  have nbRA : ¬ (v5.heap.size = w.heap.size) := by have := A_5.out.lt; omega
  refine calls_at (fun V => Bl5 V w.heap.size x0 x1 x2 x3 x4 ∧ SK .u8 V (.slice a0 l0.length d0) l0 ∧ SK .u8 V (.slice a1 l1.length d1) l1 ∧ Gl V ∧ Bl5 V v5.heap.size 0 0 0 0 0 ∧ Below w.heap.size w V) ⟨A_5.out.alloc _, S_5.out.below ((Below.refl _ _).alloc (Nat.le_refl _) _), T_5.out.below ((Below.refl _ _).alloc (Nat.le_refl _) _), Z_5.out.grown ((Below.refl _ _).alloc (Nat.le_refl _) _), Bl5.new v5 _ _ _ _ _ _ _ rfl, G_5.out.alloc G_5.out.size _⟩ ?_
  rintro v6 ⟨k0, k1, k2, k3, k4, k5⟩
  have A_6 : Hid (Bl5 v6 w.heap.size x0 x1 x2 x3 x4) := k0
  have S_6 : Hid (SK .u8 v6 (.slice a0 l0.length d0) l0) := k1
  have T_6 : Hid (SK .u8 v6 (.slice a1 l1.length d1) l1) := k2
  have Z_6 : Hid (Gl v6) := k3
  have R_6 : Hid (Bl5 v6 v5.heap.size 0 0 0 0 0) := k4
  have G_6 : Hid (Below w.heap.size w v6) := k5
  clear k0 k1 k2 k3 k4 k5 A_5 S_5 T_5 Z_5 G_5
  refine (KL.out _ _ S_6.out).mono ?_
  rintro e v7 ⟨v, rfl, hn, g⟩
  obtain ⟨Ua, Uc, Ud, rfl⟩ := hn.shape
  have U_7 : Hid (Num v7 (.slice Ua Uc Ud) (NN)) := hn
  have A_7 : Hid (Bl5 v7 w.heap.size x0 x1 x2 x3 x4) := A_6.out.below g
  have R_7 : Hid (Bl5 v7 v5.heap.size 0 0 0 0 0) := R_6.out.below g
  have S_7 : Hid (SK .u8 v7 (.slice a0 l0.length d0) l0) := S_6.out.below g
  have T_7 : Hid (SK .u8 v7 (.slice a1 l1.length d1) l1) := T_6.out.below g
  have Z_7 : Hid (Gl v7) := Z_6.out.grown g
  have G_7 : Hid (Below w.heap.size w v7) := G_6.out.trans (g.mono G_6.out.size)
  clear A_6 R_6 S_6 T_6 Z_6 G_6 g hn
  go_wp2_with fail
  refine (KP.out _).mono ?_
  rintro e v8 ⟨v, rfl, hn, g⟩
  obtain ⟨Qa, Qc, Qd, rfl⟩ := hn.shape
  have Q_8 : Hid (Num v8 (.slice Qa Qc Qd) (P25)) := hn
  have A_8 : Hid (Bl5 v8 w.heap.size x0 x1 x2 x3 x4) := A_7.out.below g
  have R_8 : Hid (Bl5 v8 v5.heap.size 0 0 0 0 0) := R_7.out.below g
  have S_8 : Hid (SK .u8 v8 (.slice a0 l0.length d0) l0) := S_7.out.below g
  have T_8 : Hid (SK .u8 v8 (.slice a1 l1.length d1) l1) := T_7.out.below g
  have U_8 : Hid (Num v8 (.slice Ua Uc Ud) (NN)) := U_7.out.below g
  have Z_8 : Hid (Gl v8) := Z_7.out.grown g
  have G_8 : Hid (Below w.heap.size w v8) := G_7.out.trans (g.mono G_7.out.size)
  clear A_7 R_7 S_7 T_7 U_7 Z_7 G_7 g hn
  go_wp2_with fail
  refine (KC.out _ _ _ U_8.out Q_8.out).mono ?_
  rintro e v9 ⟨rfl, g⟩
  have A_9 : Hid (Bl5 v9 w.heap.size x0 x1 x2 x3 x4) := A_8.out.below g
  have R_9 : Hid (Bl5 v9 v5.heap.size 0 0 0 0 0) := R_8.out.below g
  have S_9 : Hid (SK .u8 v9 (.slice a0 l0.length d0) l0) := S_8.out.below g
  have T_9 : Hid (SK .u8 v9 (.slice a1 l1.length d1) l1) := T_8.out.below g
  have U_9 : Hid (Num v9 (.slice Ua Uc Ud) (NN)) := U_8.out.below g
  have Z_9 : Hid (Gl v9) := Z_8.out.grown g
  have G_9 : Hid (Below w.heap.size w v9) := G_8.out.trans (g.mono G_8.out.size)
  clear A_8 R_8 S_8 T_8 U_8 Q_8 Z_8 G_8 g
  obtain ⟨crl, cr0, cr1, cr2, cr3, cr4, crf⟩ := R_9.out
  go_wp2_with fail
  refine (KW.out _ _ T_9.out).mono ?_
  rintro e v10 ⟨rfl, g⟩
  clear crl cr0 cr1 cr2 cr3 cr4 crf
  have A_10 : Hid (Bl5 v10 w.heap.size x0 x1 x2 x3 x4) := A_9.out.below g
  have R_10 : Hid (Bl5 v10 v5.heap.size 0 0 0 0 0) := R_9.out.below g
  have S_10 : Hid (SK .u8 v10 (.slice a0 l0.length d0) l0) := S_9.out.below g
  have T_10 : Hid (SK .u8 v10 (.slice a1 l1.length d1) l1) := T_9.out.below g
  have U_10 : Hid (Num v10 (.slice Ua Uc Ud) (NN)) := U_9.out.below g
  have Z_10 : Hid (Gl v10) := Z_9.out.grown g
  have G_10 : Hid (Below w.heap.size w v10) := G_9.out.trans (g.mono G_9.out.size)
  clear A_9 R_9 S_9 T_9 U_9 Z_9 G_9 g
  go_wp2_with fail
  have szY : w.heap.size ≤ v10.heap.size := G_10.out.size
  have nbYA : ¬ (v10.heap.size = w.heap.size) := by have := A_10.out.lt; omega
  have nbYR : ¬ (v10.heap.size = v5.heap.size) := by have := R_10.out.lt; omega
  refine wp_cut (fun V => Bl5 V w.heap.size x0 x1 x2 x3 x4 ∧ Bl5 V v5.heap.size 0 0 0 0 0 ∧ SK .u8 V (.slice a0 l0.length d0) l0 ∧ SK .u8 V (.slice a1 l1.length d1) l1 ∧ Num V (.slice Ua Uc Ud) (NN) ∧ Gl V ∧ Bl5 V v10.heap.size y0 y1 y2 y3 y4 ∧ Below w.heap.size w V) ⟨A_10.out.alloc _, R_10.out.alloc _, S_10.out.below ((Below.refl _ _).alloc (Nat.le_refl _) _), T_10.out.below ((Below.refl _ _).alloc (Nat.le_refl _) _), U_10.out.below ((Below.refl _ _).alloc (Nat.le_refl _) _), Z_10.out.grown ((Below.refl _ _).alloc (Nat.le_refl _) _), Bl5.new v10 _ _ _ _ _ _ _ rfl, G_10.out.alloc G_10.out.size _⟩ ?_
  rintro v11 ⟨k0, k1, k2, k3, k4, k5, k6, k7⟩
  have A_11 : Hid (Bl5 v11 w.heap.size x0 x1 x2 x3 x4) := k0
  have R_11 : Hid (Bl5 v11 v5.heap.size 0 0 0 0 0) := k1
  have S_11 : Hid (SK .u8 v11 (.slice a0 l0.length d0) l0) := k2
  have T_11 : Hid (SK .u8 v11 (.slice a1 l1.length d1) l1) := k3
  have U_11 : Hid (Num v11 (.slice Ua Uc Ud) (NN)) := k4
  have Z_11 : Hid (Gl v11) := k5
  have Y_11 : Hid (Bl5 v11 v10.heap.size y0 y1 y2 y3 y4) := k6
  have G_11 : Hid (Below w.heap.size w v11) := k7
  clear k0 k1 k2 k3 k4 k5 k6 k7 A_10 R_10 S_10 T_10 U_10 Z_10 G_10
  have K : v11.drew.cell? ⟨v10.heap.size, 0, none⟩ = some (.int .u64 y0) ∧ v11.drew.cell? ⟨v10.heap.size, 1, none⟩ = some (.int .u64 y1) ∧ v11.drew.cell? ⟨v10.heap.size, 2, none⟩ = some (.int .u64 y2) ∧ v11.drew.cell? ⟨v10.heap.size, 3, none⟩ = some (.int .u64 y3) ∧ v11.drew.cell? ⟨v10.heap.size, 4, none⟩ = some (.int .u64 y4) := ⟨Y_11.out.drew.c0, Y_11.out.drew.c1, Y_11.out.drew.c2, Y_11.out.drew.c3, Y_11.out.drew.c4⟩
  have A_11' : Hid (Bl5 v11.drew w.heap.size x0 x1 x2 x3 x4) := A_11.out.drew
  have R_11' : Hid (Bl5 v11.drew v5.heap.size 0 0 0 0 0) := R_11.out.drew
  have Y_11' : Hid (Bl5 v11.drew v10.heap.size y0 y1 y2 y3 y4) := Y_11.out.drew
  have S_11' : Hid (SK .u8 v11.drew (.slice a0 l0.length d0) l0) := S_11.out.below (Below.refl _ _).drew
  have T_11' : Hid (SK .u8 v11.drew (.slice a1 l1.length d1) l1) := T_11.out.below (Below.refl _ _).drew
  have U_11' : Hid (Num v11.drew (.slice Ua Uc Ud) (NN)) := U_11.out.below (Below.refl _ _).drew
  have Z_11' : Hid (Gl v11.drew) := Z_11.out.grown (Below.refl _ _).drew
  have G_11' : Hid (Below w.heap.size w v11.drew) := G_11.out.drew
  go_wp2_with fail
  refine wp_region_held_drew (S := fun w' => w'.cell? ⟨v10.heap.size, 0, none⟩ = some (.int .u64 y0) ∧ w'.cell? ⟨v10.heap.size, 1, none⟩ = some (.int .u64 y1) ∧ w'.cell? ⟨v10.heap.size, 2, none⟩ = some (.int .u64 y2) ∧ w'.cell? ⟨v10.heap.size, 3, none⟩ = some (.int .u64 y3) ∧ w'.cell? ⟨v10.heap.size, 4, none⟩ = some (.int .u64 y4)) (by kernel_rfl) K (fun hHeld => ?_)
  refine h_take 0 (v := ?v0) rfl (by kernel_rfl) (by kernel_rfl) (by kernel_rfl) (fun _ _ _ h => h) (by rfl) ?hy0 (by assumption) ?_
  case hy0 =>
    intro w' hSw
    try dsimp only at hSw
    go_simp
    try with_reducible rfl
  try simp only [Act.put, List.setIfInBounds_toArray, List.set_cons_zero, List.set_cons_succ]
  refine h_take 1 (v := ?v1) rfl (by kernel_rfl) (by kernel_rfl) (by kernel_rfl) (fun _ _ _ h => h) (by rfl) ?hy1 (by assumption) ?_
  case hy1 =>
    intro w' hSw
    try dsimp only at hSw
    go_simp
    try with_reducible rfl
  try simp only [Act.put, List.setIfInBounds_toArray, List.set_cons_zero, List.set_cons_succ]
  refine h_take 2 (v := ?v2) rfl (by kernel_rfl) (by kernel_rfl) (by kernel_rfl) (fun _ _ _ h => h) (by rfl) ?hy2 (by assumption) ?_
  case hy2 =>
    intro w' hSw
    try dsimp only at hSw
    go_simp
    try with_reducible rfl
  try simp only [Act.put, List.setIfInBounds_toArray, List.set_cons_zero, List.set_cons_succ]
  refine h_take 3 (v := ?v3) rfl (by kernel_rfl) (by kernel_rfl) (by kernel_rfl) (fun _ _ _ h => h) (by rfl) ?hy3 (by assumption) ?_
  case hy3 =>
    intro w' hSw
    try dsimp only at hSw
    go_simp
    try with_reducible rfl
  try simp only [Act.put, List.setIfInBounds_toArray, List.set_cons_zero, List.set_cons_succ]
  refine h_take 4 (v := ?v4) rfl (by kernel_rfl) (by kernel_rfl) (by kernel_rfl) (fun _ _ _ h => h) (by rfl) ?hy4 (by assumption) ?_
  case hy4 =>
    intro w' hSw
    try dsimp only at hSw
    go_simp
    try with_reducible rfl
  try simp only [Act.put, List.setIfInBounds_toArray, List.set_cons_zero, List.set_cons_succ]
  refine h_take 5 (v := ?v5) rfl (by kernel_rfl) (by kernel_rfl) (by kernel_rfl) (fun _ _ _ h => h) (by rfl) ?hy5 (by assumption) ?_
  case hy5 =>
    intro w' hSw
    try dsimp only at hSw
    go_simp
    try with_reducible rfl
  try simp only [Act.put, List.setIfInBounds_toArray, List.set_cons_zero, List.set_cons_succ]
  refine h_take 6 (v := ?v6) rfl (by kernel_rfl) (by kernel_rfl) (by kernel_rfl) (fun _ _ _ h => h) (by rfl) ?hy6 (by assumption) ?_
  case hy6 =>
    intro w' hSw
    try dsimp only at hSw
    go_simp
    try with_reducible rfl
  try simp only [Act.put, List.setIfInBounds_toArray, List.set_cons_zero, List.set_cons_succ]
  refine h_take 7 (v := ?v7) rfl (by kernel_rfl) (by kernel_rfl) (by kernel_rfl) (fun _ _ _ h => h) (by rfl) ?hy7 (by assumption) ?_
  case hy7 =>
    intro w' hSw
    try dsimp only at hSw
    go_simp
    try with_reducible rfl
  try simp only [Act.put, List.setIfInBounds_toArray, List.set_cons_zero, List.set_cons_succ]
  refine h_take 8 (v := ?v8) rfl (by kernel_rfl) (by kernel_rfl) (by kernel_rfl) (fun _ _ _ h => h) (by rfl) ?hy8 (by assumption) ?_
  case hy8 =>
    intro w' hSw
    try dsimp only at hSw
    go_simp
    try with_reducible rfl
  try simp only [Act.put, List.setIfInBounds_toArray, List.set_cons_zero, List.set_cons_succ]
  refine h_take 9 (v := ?v9) rfl (by kernel_rfl) (by kernel_rfl) (by kernel_rfl) (fun _ _ _ h => h) (by rfl) ?hy9 (by assumption) ?_
  case hy9 =>
    intro w' hSw
    try dsimp only at hSw
    go_simp
    try with_reducible rfl
  try simp only [Act.put, List.setIfInBounds_toArray, List.set_cons_zero, List.set_cons_succ]
  refine h_call 10 rfl (by kernel_rfl) (by rfl) (fun Kk hK => ?_)
  go_simp
  (refine (KB.out _ _ T_11'.out).mono ?_)
  rintro e v12 ⟨v, rfl, hn, g⟩
  obtain ⟨Ba, Bc, Bd, rfl⟩ := hn.shape
  have B_12 : Hid (Num v12 (.slice Ba Bc Bd) (MM)) := hn
  clear hn
  have A_12 : Hid (Bl5 v12 w.heap.size x0 x1 x2 x3 x4) := A_11'.out.below g
  have R_12 : Hid (Bl5 v12 v5.heap.size 0 0 0 0 0) := R_11'.out.below g
  have Y_12 : Hid (Bl5 v12 v10.heap.size y0 y1 y2 y3 y4) := Y_11'.out.below g
  have S_12 : Hid (SK .u8 v12 (.slice a0 l0.length d0) l0) := S_11'.out.below g
  have T_12 : Hid (SK .u8 v12 (.slice a1 l1.length d1) l1) := T_11'.out.below g
  have U_12 : Hid (Num v12 (.slice Ua Uc Ud) (NN)) := U_11'.out.below g
  have Z_12 : Hid (Gl v12) := Z_11'.out.grown g
  have G_12 : Hid (Below w.heap.size w v12) := G_11'.out.trans (g.mono G_11'.out.size)
  clear g K
  have K : v12.cell? ⟨v10.heap.size, 0, none⟩ = some (.int .u64 y0) ∧ v12.cell? ⟨v10.heap.size, 1, none⟩ = some (.int .u64 y1) ∧ v12.cell? ⟨v10.heap.size, 2, none⟩ = some (.int .u64 y2) ∧ v12.cell? ⟨v10.heap.size, 3, none⟩ = some (.int .u64 y3) ∧ v12.cell? ⟨v10.heap.size, 4, none⟩ = some (.int .u64 y4) := ⟨Y_12.out.c0, Y_12.out.c1, Y_12.out.c2, Y_12.out.c3, Y_12.out.c4⟩
  go_wp2_with fail
  clear hHeld
  refine hK.out _ _ K (fun hHeld => ?_)
  clear hK Kk
  try simp only [Act.put, List.setIfInBounds_toArray, List.set_cons_zero, List.set_cons_succ]
  refine h_call 11 rfl (by kernel_rfl) (by rfl) (fun Kk hK => ?_)
  go_simp
  (refine (KM.out _ _ B_12.out).mono ?_)
  rintro e v13 ⟨v, rfl, hn, g⟩
  obtain ⟨Da, Dc, Dd, rfl⟩ := hn.shape
  have D_13 : Hid (Num v13 (.slice Da Dc Dd) (MM % P25)) := hn
  clear hn
  have A_13 : Hid (Bl5 v13 w.heap.size x0 x1 x2 x3 x4) := A_12.out.below g
  have R_13 : Hid (Bl5 v13 v5.heap.size 0 0 0 0 0) := R_12.out.below g
  have Y_13 : Hid (Bl5 v13 v10.heap.size y0 y1 y2 y3 y4) := Y_12.out.below g
  have S_13 : Hid (SK .u8 v13 (.slice a0 l0.length d0) l0) := S_12.out.below g
  have T_13 : Hid (SK .u8 v13 (.slice a1 l1.length d1) l1) := T_12.out.below g
  have U_13 : Hid (Num v13 (.slice Ua Uc Ud) (NN)) := U_12.out.below g
  have B_13 : Hid (Num v13 (.slice Ba Bc Bd) (MM)) := B_12.out.below g
  have Z_13 : Hid (Gl v13) := Z_12.out.grown g
  have G_13 : Hid (Below w.heap.size w v13) := G_12.out.trans (g.mono G_12.out.size)
  clear g K
  have K : v13.cell? ⟨v10.heap.size, 0, none⟩ = some (.int .u64 y0) ∧ v13.cell? ⟨v10.heap.size, 1, none⟩ = some (.int .u64 y1) ∧ v13.cell? ⟨v10.heap.size, 2, none⟩ = some (.int .u64 y2) ∧ v13.cell? ⟨v10.heap.size, 3, none⟩ = some (.int .u64 y3) ∧ v13.cell? ⟨v10.heap.size, 4, none⟩ = some (.int .u64 y4) := ⟨Y_13.out.c0, Y_13.out.c1, Y_13.out.c2, Y_13.out.c3, Y_13.out.c4⟩
  go_wp2_with fail
  clear hHeld
  refine hK.out _ _ K (fun hHeld => ?_)
  clear hK Kk
  try simp only [Act.put, List.setIfInBounds_toArray, List.set_cons_zero, List.set_cons_succ]
  refine h_call 12 rfl (by kernel_rfl) (by rfl) (fun Kk hK => ?_)
  go_simp
  (refine (IY.out _ _ D_13.out).mono ?_)
  rintro e v14 ⟨rfl, g⟩
  have A_14 : Hid (Bl5 v14 w.heap.size x0 x1 x2 x3 x4) := A_13.out.below g
  have R_14 : Hid (Bl5 v14 v5.heap.size 0 0 0 0 0) := R_13.out.below g
  have Y_14 : Hid (Bl5 v14 v10.heap.size y0 y1 y2 y3 y4) := Y_13.out.below g
  have S_14 : Hid (SK .u8 v14 (.slice a0 l0.length d0) l0) := S_13.out.below g
  have T_14 : Hid (SK .u8 v14 (.slice a1 l1.length d1) l1) := T_13.out.below g
  have U_14 : Hid (Num v14 (.slice Ua Uc Ud) (NN)) := U_13.out.below g
  have B_14 : Hid (Num v14 (.slice Ba Bc Bd) (MM)) := B_13.out.below g
  have D_14 : Hid (Num v14 (.slice Da Dc Dd) (MM % P25)) := D_13.out.below g
  have Z_14 : Hid (Gl v14) := Z_13.out.grown g
  have G_14 : Hid (Below w.heap.size w v14) := G_13.out.trans (g.mono G_13.out.size)
  clear g K
  have K : v14.cell? ⟨v10.heap.size, 0, none⟩ = some (.int .u64 y0) ∧ v14.cell? ⟨v10.heap.size, 1, none⟩ = some (.int .u64 y1) ∧ v14.cell? ⟨v10.heap.size, 2, none⟩ = some (.int .u64 y2) ∧ v14.cell? ⟨v10.heap.size, 3, none⟩ = some (.int .u64 y3) ∧ v14.cell? ⟨v10.heap.size, 4, none⟩ = some (.int .u64 y4) := ⟨Y_14.out.c0, Y_14.out.c1, Y_14.out.c2, Y_14.out.c3, Y_14.out.c4⟩
  go_wp2_with fail
  clear hHeld
  refine hK.out _ _ K (fun hHeld => ?_)
  clear hK Kk
  try simp only [Act.put, List.setIfInBounds_toArray, List.set_cons_zero, List.set_cons_succ]
  refine h_take 13 (v := ?v13) rfl (by kernel_rfl) (by kernel_rfl) (by kernel_rfl) (fun _ _ _ h => h) (by rfl) ?hy13 (by assumption) ?_
  case hy13 =>
    intro w' hSw
    try dsimp only at hSw
    go_simp
    try with_reducible rfl
  try simp only [Act.put, List.setIfInBounds_toArray, List.set_cons_zero, List.set_cons_succ]
  refine h_take 14 (v := ?v14) rfl (by kernel_rfl) (by kernel_rfl) (by kernel_rfl) (fun _ _ _ h => h) (by rfl) ?hy14 (by assumption) ?_
  case hy14 =>
    intro w' hSw
    try dsimp only at hSw
    go_simp
    try with_reducible rfl
  try simp only [Act.put, List.setIfInBounds_toArray, List.set_cons_zero, List.set_cons_succ]
  refine h_take 15 (v := ?v15) rfl (by kernel_rfl) (by kernel_rfl) (by kernel_rfl) (fun _ _ _ h => h) (by rfl) ?hy15 (by assumption) ?_
  case hy15 =>
    intro w' hSw
    try dsimp only at hSw
    go_simp
    try with_reducible rfl
  try simp only [Act.put, List.setIfInBounds_toArray, List.set_cons_zero, List.set_cons_succ]
  refine h_take 16 (v := ?v16) rfl (by kernel_rfl) (by kernel_rfl) (by kernel_rfl) (fun _ _ _ h => h) (by rfl) ?hy16 (by assumption) ?_
  case hy16 =>
    intro w' hSw
    try dsimp only at hSw
    go_simp
    try with_reducible rfl
  try simp only [Act.put, List.setIfInBounds_toArray, List.set_cons_zero, List.set_cons_succ]
  refine h_take 17 (v := ?v17) rfl (by kernel_rfl) (by kernel_rfl) (by kernel_rfl) (fun _ _ _ h => h) (by rfl) ?hy17 (by assumption) ?_
  case hy17 =>
    intro w' hSw
    try dsimp only at hSw
    go_simp
    try with_reducible rfl
  try simp only [Act.put, List.setIfInBounds_toArray, List.set_cons_zero, List.set_cons_succ]
  refine h_take 18 (v := ?v18) rfl (by kernel_rfl) (by kernel_rfl) (by kernel_rfl) (fun _ _ _ h => h) (by rfl) ?hy18 (by assumption) ?_
  case hy18 =>
    intro w' hSw
    try dsimp only at hSw
    go_simp
    try with_reducible rfl
  try simp only [Act.put, List.setIfInBounds_toArray, List.set_cons_zero, List.set_cons_succ]
  refine h_take 19 (v := ?v19) rfl (by kernel_rfl) (by kernel_rfl) (by kernel_rfl) (fun _ _ _ h => h) (by rfl) ?hy19 (by assumption) ?_
  case hy19 =>
    intro w' hSw
    try dsimp only at hSw
    go_simp
    try with_reducible rfl
  try simp only [Act.put, List.setIfInBounds_toArray, List.set_cons_zero, List.set_cons_succ]
  refine h_skip 20 rfl (by kernel_rfl) (by kernel_rfl) (by kernel_rfl) (fun _ _ _ h => h) (by rfl) (by assumption) ?_
  try simp only [Act.put, List.setIfInBounds_toArray, List.set_cons_zero, List.set_cons_succ]
  refine h_skip 21 rfl (by kernel_rfl) (by kernel_rfl) (by kernel_rfl) (fun _ _ _ h => h) (by rfl) (by assumption) ?_
  try simp only [Act.put, List.setIfInBounds_toArray, List.set_cons_zero, List.set_cons_succ]
  refine h_skip 22 rfl (by kernel_rfl) (by kernel_rfl) (by kernel_rfl) (fun _ _ _ h => h) (by rfl) (by assumption) ?_
  try simp only [Act.put, List.setIfInBounds_toArray, List.set_cons_zero, List.set_cons_succ]
  refine h_take 23 (v := ?v23) rfl (by kernel_rfl) (by kernel_rfl) (by kernel_rfl) (fun _ _ _ h => h) (by rfl) ?hy23 (by assumption) ?_
  case hy23 =>
    intro w' hSw
    try dsimp only at hSw
    go_simp
    try with_reducible rfl
  try simp only [Act.put, List.setIfInBounds_toArray, List.set_cons_zero, List.set_cons_succ]
  refine h_take 24 (v := ?v24) rfl (by kernel_rfl) (by kernel_rfl) (by kernel_rfl) (fun _ _ _ h => h) (by rfl) ?hy24 (by assumption) ?_
  case hy24 =>
    intro w' hSw
    try dsimp only at hSw
    go_simp
    try with_reducible rfl
  try simp only [Act.put, List.setIfInBounds_toArray, List.set_cons_zero, List.set_cons_succ]
  refine wpAnyH_done (by kernel_rfl) ?_ _
  clear K hHeld
  have K : v14.drew.cell? ⟨w.heap.size, 0, none⟩ = some (.int .u64 x0) ∧ v14.drew.cell? ⟨w.heap.size, 1, none⟩ = some (.int .u64 x1) ∧ v14.drew.cell? ⟨w.heap.size, 2, none⟩ = some (.int .u64 x2) ∧ v14.drew.cell? ⟨w.heap.size, 3, none⟩ = some (.int .u64 x3) ∧ v14.drew.cell? ⟨w.heap.size, 4, none⟩ = some (.int .u64 x4) := ⟨A_14.out.drew.c0, A_14.out.drew.c1, A_14.out.drew.c2, A_14.out.drew.c3, A_14.out.drew.c4⟩
  have A_14' : Hid (Bl5 v14.drew w.heap.size x0 x1 x2 x3 x4) := A_14.out.drew
  have R_14' : Hid (Bl5 v14.drew v5.heap.size 0 0 0 0 0) := R_14.out.drew
  have Y_14' : Hid (Bl5 v14.drew v10.heap.size y0 y1 y2 y3 y4) := Y_14.out.drew
  have S_14' : Hid (SK .u8 v14.drew (.slice a0 l0.length d0) l0) := S_14.out.below (Below.refl _ _).drew
  have T_14' : Hid (SK .u8 v14.drew (.slice a1 l1.length d1) l1) := T_14.out.below (Below.refl _ _).drew
  have U_14' : Hid (Num v14.drew (.slice Ua Uc Ud) (NN)) := U_14.out.below (Below.refl _ _).drew
  have B_14' : Hid (Num v14.drew (.slice Ba Bc Bd) (MM)) := B_14.out.below (Below.refl _ _).drew
  have D_14' : Hid (Num v14.drew (.slice Da Dc Dd) (MM % P25)) := D_14.out.below (Below.refl _ _).drew
  have Z_14' : Hid (Gl v14.drew) := Z_14.out.grown (Below.refl _ _).drew
  have G_14' : Hid (Below w.heap.size w v14.drew) := G_14.out.drew
  go_wp2_with fail
  go_region_held3 (fun w' => w'.cell? ⟨w.heap.size, 0, none⟩ = some (.int .u64 x0) ∧ w'.cell? ⟨w.heap.size, 1, none⟩ = some (.int .u64 x1) ∧ w'.cell? ⟨w.heap.size, 2, none⟩ = some (.int .u64 x2) ∧ w'.cell? ⟨w.heap.size, 3, none⟩ = some (.int .u64 x3) ∧ w'.cell? ⟨w.heap.size, 4, none⟩ = some (.int .u64 x4)) (first | with_reducible assumption | go_keep)
    (first
      | (go_at_call 37; have gg := G_17; clear gg; (refine (SM.out _ _ _ FF_17.out TT_17.out).mono ?_); (rintro e v18 ⟨rfl, g⟩; have A_18 : Hid (Bl5 v18 w.heap.size x0 x1 x2 x3 x4) := A_17.out.below g; have R_18 : Hid (Bl5 v18 v5.heap.size 0 0 0 0 0) := R_17.out.below g; have Y_18 : Hid (Bl5 v18 v10.heap.size y0 y1 y2 y3 y4) := Y_17.out.below g; have S_18 : Hid (SK .u8 v18 (.slice a0 l0.length d0) l0) := S_17.out.below g; have T_18 : Hid (SK .u8 v18 (.slice a1 l1.length d1) l1) := T_17.out.below g; have U_18 : Hid (Num v18 (.slice Ua Uc Ud) (NN)) := U_17.out.below g; have B_18 : Hid (Num v18 (.slice Ba Bc Bd) (MM)) := B_17.out.below g; have D_18 : Hid (Num v18 (.slice Da Dc Dd) (MM % P25)) := D_17.out.below g; have FF_18 : Hid (Fil X h 32 v18) := FF_17.out.below g; have E_18 : Hid (Num v18 (.slice Ea Ec Ed) (X)) := E_17.out.below g; have TT_18 : Hid (SK .u8 v18 (.slice ta (leB X 32).length td) (leB X 32)) := TT_17.out.below g; have Z_18 : Hid (Gl v18) := Z_17.out.grown g; have G_18 : Hid (Below w.heap.size w v18) := G_17.out.trans (g.mono G_17.out.size); clear g; clear K; have K : v18.cell? ⟨w.heap.size, 0, none⟩ = some (.int .u64 x0) ∧ v18.cell? ⟨w.heap.size, 1, none⟩ = some (.int .u64 x1) ∧ v18.cell? ⟨w.heap.size, 2, none⟩ = some (.int .u64 x2) ∧ v18.cell? ⟨w.heap.size, 3, none⟩ = some (.int .u64 x3) ∧ v18.cell? ⟨w.heap.size, 4, none⟩ = some (.int .u64 x4) := ⟨A_18.out.c0, A_18.out.c1, A_18.out.c2, A_18.out.c3, A_18.out.c4⟩))
      | (go_at_call 39; have gg := G_16; clear gg; (refine (TL.out _ _ E_16.out).mono ?_); (rintro e v17 ⟨v, rfl, hf, g⟩; obtain ⟨ta, td, rfl⟩ := hf.shape; have TT_17 : Hid (SK .u8 v17 (.slice ta (leB X 32).length td) (leB X 32)) := hf; clear hf; have A_17 : Hid (Bl5 v17 w.heap.size x0 x1 x2 x3 x4) := A_16.out.below g; have R_17 : Hid (Bl5 v17 v5.heap.size 0 0 0 0 0) := R_16.out.below g; have Y_17 : Hid (Bl5 v17 v10.heap.size y0 y1 y2 y3 y4) := Y_16.out.below g; have S_17 : Hid (SK .u8 v17 (.slice a0 l0.length d0) l0) := S_16.out.below g; have T_17 : Hid (SK .u8 v17 (.slice a1 l1.length d1) l1) := T_16.out.below g; have U_17 : Hid (Num v17 (.slice Ua Uc Ud) (NN)) := U_16.out.below g; have B_17 : Hid (Num v17 (.slice Ba Bc Bd) (MM)) := B_16.out.below g; have D_17 : Hid (Num v17 (.slice Da Dc Dd) (MM % P25)) := D_16.out.below g; have FF_17 : Hid (Fil X h 32 v17) := FF_16.out.below g; have E_17 : Hid (Num v17 (.slice Ea Ec Ed) (X)) := E_16.out.below g; have Z_17 : Hid (Gl v17) := Z_16.out.grown g; have G_17 : Hid (Below w.heap.size w v17) := G_16.out.trans (g.mono G_16.out.size); clear g; clear K; have K : v17.cell? ⟨w.heap.size, 0, none⟩ = some (.int .u64 x0) ∧ v17.cell? ⟨w.heap.size, 1, none⟩ = some (.int .u64 x1) ∧ v17.cell? ⟨w.heap.size, 2, none⟩ = some (.int .u64 x2) ∧ v17.cell? ⟨w.heap.size, 3, none⟩ = some (.int .u64 x3) ∧ v17.cell? ⟨w.heap.size, 4, none⟩ = some (.int .u64 x4) := ⟨A_17.out.c0, A_17.out.c1, A_17.out.c2, A_17.out.c3, A_17.out.c4⟩))
      | (go_at_call 10; have gg := G_15; clear gg; (refine (OX.out _).mono ?_); (rintro e v16 ⟨v, rfl, hn, g⟩; obtain ⟨Ea, Ec, Ed, rfl⟩ := hn.shape; have E_16 : Hid (Num v16 (.slice Ea Ec Ed) (X)) := hn; clear hn; have A_16 : Hid (Bl5 v16 w.heap.size x0 x1 x2 x3 x4) := A_15.out.below g; have R_16 : Hid (Bl5 v16 v5.heap.size 0 0 0 0 0) := R_15.out.below g; have Y_16 : Hid (Bl5 v16 v10.heap.size y0 y1 y2 y3 y4) := Y_15.out.below g; have S_16 : Hid (SK .u8 v16 (.slice a0 l0.length d0) l0) := S_15.out.below g; have T_16 : Hid (SK .u8 v16 (.slice a1 l1.length d1) l1) := T_15.out.below g; have U_16 : Hid (Num v16 (.slice Ua Uc Ud) (NN)) := U_15.out.below g; have B_16 : Hid (Num v16 (.slice Ba Bc Bd) (MM)) := B_15.out.below g; have D_16 : Hid (Num v16 (.slice Da Dc Dd) (MM % P25)) := D_15.out.below g; have FF_16 : Hid (Fil X h 32 v16) := FF_15.out.below g; have Z_16 : Hid (Gl v16) := Z_15.out.grown g; have G_16 : Hid (Below w.heap.size w v16) := G_15.out.trans (g.mono G_15.out.size); clear g; clear K; have K : v16.cell? ⟨w.heap.size, 0, none⟩ = some (.int .u64 x0) ∧ v16.cell? ⟨w.heap.size, 1, none⟩ = some (.int .u64 x1) ∧ v16.cell? ⟨w.heap.size, 2, none⟩ = some (.int .u64 x2) ∧ v16.cell? ⟨w.heap.size, 3, none⟩ = some (.int .u64 x3) ∧ v16.cell? ⟨w.heap.size, 4, none⟩ = some (.int .u64 x4) := ⟨A_16.out.c0, A_16.out.c1, A_16.out.c2, A_16.out.c3, A_16.out.c4⟩))
      | (go_at_call 38; have gg := G_14'; clear gg; (refine (KX.out _).mono ?_); (rintro e v15 ⟨h, rfl, hf, -, g⟩; have FF_15 : Hid (Fil X h 32 v15) := hf; clear hf; have A_15 : Hid (Bl5 v15 w.heap.size x0 x1 x2 x3 x4) := A_14'.out.below g; have R_15 : Hid (Bl5 v15 v5.heap.size 0 0 0 0 0) := R_14'.out.below g; have Y_15 : Hid (Bl5 v15 v10.heap.size y0 y1 y2 y3 y4) := Y_14'.out.below g; have S_15 : Hid (SK .u8 v15 (.slice a0 l0.length d0) l0) := S_14'.out.below g; have T_15 : Hid (SK .u8 v15 (.slice a1 l1.length d1) l1) := T_14'.out.below g; have U_15 : Hid (Num v15 (.slice Ua Uc Ud) (NN)) := U_14'.out.below g; have B_15 : Hid (Num v15 (.slice Ba Bc Bd) (MM)) := B_14'.out.below g; have D_15 : Hid (Num v15 (.slice Da Dc Dd) (MM % P25)) := D_14'.out.below g; have Z_15 : Hid (Gl v15) := Z_14'.out.grown g; have G_15 : Hid (Below w.heap.size w v15) := G_14'.out.trans (g.mono G_14'.out.size); clear g; clear K; have K : v15.cell? ⟨w.heap.size, 0, none⟩ = some (.int .u64 x0) ∧ v15.cell? ⟨w.heap.size, 1, none⟩ = some (.int .u64 x1) ∧ v15.cell? ⟨w.heap.size, 2, none⟩ = some (.int .u64 x2) ∧ v15.cell? ⟨w.heap.size, 3, none⟩ = some (.int .u64 x3) ∧ v15.cell? ⟨w.heap.size, 4, none⟩ = some (.int .u64 x4) := ⟨A_15.out.c0, A_15.out.c1, A_15.out.c2, A_15.out.c3, A_15.out.c4⟩))
      | fail)
  clear K 
  go_wp2_with fail
  go_ret
  exact ⟨rfl, G_18.out⟩

set_option maxRecDepth 100000 in
set_option maxHeartbeats 16000000 in
theorem fbyt_1n (l0 l1 : List Nat) (hb0 : Bb l0) (hb1 : Bb l1) (v0 v1 : Value) (x : L5) (hx : x.Wds) (hm : l0.length ≤ 100) (hl : l1.length ≤ 100) (ht : x.Tm) (c1 : l0.length = 32) (c2 : ¬ hvN (turn l0) l0.length < P25) (c3 : ¬ l1.length ≤ 64) (w : World) (h0 : SK .u8 w v0 l0) (h1 : SK .u8 w v1 l1) (hg : Gl w) : Calls Tryd.prog 6 #[v0, v1, .agg #[.int .u64 x.l0, .int .u64 x.l1, .int .u64 x.l2, .int .u64 x.l3, .int .u64 x.l4]] w fun e w' => e = .returned (.bool true) ∧ Below w.heap.size w w' := by
  have HG : Hid (Gl w) := hg
  have hs0 : Hid (SK .u8 w v0 l0) := h0
  have hs1 : Hid (SK .u8 w v1 l1) := h1
  have kw : Hid (∀ W, Gl W → Calls Tryd.prog 8 #[] W fun e w' => e = .returned (.bool true) ∧ Below W.heap.size W w') := fun W h => awake4_any W h
  have HE : Hid (∀ W : World, Els (W.alloc (.cells #[.int .u64 x.l0, .int .u64 x.l1, .int .u64 x.l2, .int .u64 x.l3, .int .u64 x.l4] 24)) W.heap.size 1 (fun _ => x)) := fun W => els_one W x
  have gl := hg.lt
  obtain ⟨a0, d0, rfl⟩ := h0.shape
  obtain ⟨a1, d1, rfl⟩ := h1.shape
  have hm' : ¬ (100 : Int) < (l0.length : Int) := by omega
  have hl' : ¬ (100 : Int) < (l1.length : Int) := by omega
  have kt' : ∀ W g, Els W g 1 (fun _ => x) → Calls Tryd.prog 9 #[.slice (some ⟨g, 0, none⟩) 1 1] W fun e w' => e = .returned (.bool true) ∧ Below W.heap.size W w' := fun W g h => tame_any (fun _ => x) 1 g (by omega) (fun _ _ => hx) W h true ⟨fun _ _ _ => ht, fun _ => rfl⟩
  obtain ⟨z, ok, eo, e1, e2, kO⟩ := of_all l0 hb0
  have KL : Hid (∀ v w, SK .u8 w v l0 → Calls Tryd.prog 32 #[v] w fun e w' => ∃ v, e = .returned v ∧ Num w' v (hvN (turn l0) l0.length) ∧ Below w.heap.size w w') := fun v w h => littleN_any l0 hb0 v w h (by omega)
  rw [decide_eq_false (fun h => c2 h.2)] at eo
  subst eo
  have ez := e2 rfl
  subst ez
  have NZ := neq5 0 0 0 0 0
  have c1' : (l0.length : Int) = 32 := by omega
  have hN : hvN (turn l0) l0.length < 16777216 ^ 22 := Nat.lt_of_lt_of_le (hvN_lt _ (turn_bb l0 hb0) _) (by rw [c1]; exact pow256 32 22 (by omega))
  obtain ⟨od, hod⟩ : ∃ o, ord ((hvN (turn l0) l0.length : Nat) : Int) (P25 : Int) = o := ⟨_, rfl⟩
  have hlt : ¬ od < 0 := by
    rw [← hod]; unfold ord
    split
    · omega
    · split <;> omega
  have KC : Hid (∀ u v w, Num w u (hvN (turn l0) l0.length) → Num w v P25 → Calls Tryd.prog 29 #[u, v] w fun e w' => e = .returned (.int .i64 od) ∧ Below w.heap.size w w') := by
    intro u v w h h'
    rw [← hod]
    exact cmp_num _ P25 u v w h h' 22 hN P25_lt22 (by omega)
  have KP : Hid (∀ w, Calls Tryd.prog 33 #[] w fun e w' => ∃ v, e = .returned v ∧ Num w' v P25 ∧ Below w.heap.size w w') := fun w => pD_num w
  have c3' : ¬ (l1.length : Int) ≤ 64 := by omega
  have hd : decide ((l1.length : Int) ≤ 64) = false := decide_eq_false c3'
  have NY := neq5 0 0 0 0 0
  have kW : ∀ w, Calls Tryd.prog 34 #[.slice a1 l1.length d1] w fun e w' => e = .returned (.tuple #[.agg #[.int .u64 0, .int .u64 0, .int .u64 0, .int .u64 0, .int .u64 0], .bool false]) ∧ Below w.heap.size w w' := fun w => wide_no a1 l1.length d1 (by omega) w
  have kx := bytes_fe x ht
  have ox := of_nn x ht
  have hX := Nat.lt_trans x.nn_lt P25_lt22
  generalize x.nn = X at *
  generalize hvN (turn l0) l0.length = NN at *
  generalize hvN l1 l1.length = MM at *
  have TL : Hid (∀ v w, Num w v X → Calls Tryd.prog 39 #[v, .int .i64 32] w fun e w' => ∃ v, e = .returned v ∧ SK .u8 w' v (leB X 32) ∧ Below w.heap.size w w') := fun v w h => toLittle32 X v w h 22 hX (by omega)
  have SM : Hid (∀ g v w, Fil X g 32 w → SK .u8 w v (leB X 32) → Calls Tryd.prog 37 #[.slice (some ⟨g, 0, none⟩) 32 32, v] w fun e w' => e = .returned (.bool true) ∧ Below w.heap.size w w') := fun g v w h h' => same32 X g v w h h'
  clear hg h0 h1 hx ht hb0 hb1 hm hl c1 c2 c3 e1 e2 hX hN hod
  obtain ⟨x0, x1, x2, x3, x4⟩ := x
  dsimp only at kt' kO kx ox HE ⊢
  have KO : Hid (∀ v w, SK .u8 w v l0 → Calls Tryd.prog 31 #[v] w fun e w' => e = .returned (.tuple #[.agg #[.int .u64 0, .int .u64 0, .int .u64 0, .int .u64 0, .int .u64 0], .bool false]) ∧ Below w.heap.size w w') := kO
  have KW : Hid (∀ w, Calls Tryd.prog 34 #[.slice a1 l1.length d1] w fun e w' => e = .returned (.tuple #[.agg #[.int .u64 0, .int .u64 0, .int .u64 0, .int .u64 0, .int .u64 0], .bool false]) ∧ Below w.heap.size w w') := kW
  have OX : Hid (∀ w, Calls Tryd.prog 10 #[.agg #[.int .u64 x0, .int .u64 x1, .int .u64 x2, .int .u64 x3, .int .u64 x4]] w fun e w' => ∃ v, e = .returned v ∧ Num w' v X ∧ Below w.heap.size w w') := ox
  have KX : Hid (∀ w, Calls Tryd.prog 38 #[.agg #[.int .u64 x0, .int .u64 x1, .int .u64 x2, .int .u64 x3, .int .u64 x4]] w fun e w' => ∃ g, e = .returned (.slice (some ⟨g, 0, none⟩) 32 32) ∧ Fil X g 32 w' ∧ w.heap.size ≤ g ∧ Below w.heap.size w w') := kx
  have Kt : Hid (∀ W g, Els W g 1 (fun _ => ⟨x0, x1, x2, x3, x4⟩) → Calls Tryd.prog 9 #[.slice (some ⟨g, 0, none⟩) 1 1] W fun e w' => e = .returned (.bool true) ∧ Below W.heap.size W w') := kt'
  clear kt' kO kx ox kW
  go_enter Tryd.func6, Tryd.ntmps6
  go_wp2_with fail
  refine calls_at (fun V => Bl5 V w.heap.size x0 x1 x2 x3 x4 ∧ SK .u8 V (.slice a0 l0.length d0) l0 ∧ SK .u8 V (.slice a1 l1.length d1) l1 ∧ Gl V ∧ Below w.heap.size w V) ⟨?_, ?_, ?_, ?_, ?_⟩ ?_
  · (repeat (first | refine Bl5.drew ?_ | refine Bl5.drewN ?_ _ | (refine Bl5.new _ _ _ _ _ _ _ _ ?_; simp; done) | refine Bl5.alloc ?_ _))
  · exact hs0.out.below ((Below.refl _ _).alloc (Nat.le_refl _) _)
  · exact hs1.out.below ((Below.refl _ _).alloc (Nat.le_refl _) _)
  · refine Gl.grown HG.out ?_
    (repeat (first | exact Below.refl _ _ | refine Below.drew ?_ | refine below_drewN ?_ _ | refine Below.alloc ?_ (by simp <;> omega) _))
  · (repeat (first | exact Below.refl _ _ | refine Below.drew ?_ | refine below_drewN ?_ _ | refine Below.alloc ?_ (by simp <;> omega) _ | refine Below.setCell ?_ (by simp <;> omega) _))
  rintro v1 ⟨k0, k1, k2, k3, k4⟩
  have A_1 : Hid (Bl5 v1 w.heap.size x0 x1 x2 x3 x4) := k0
  have S_1 : Hid (SK .u8 v1 (.slice a0 l0.length d0) l0) := k1
  have T_1 : Hid (SK .u8 v1 (.slice a1 l1.length d1) l1) := k2
  have Z_1 : Hid (Gl v1) := k3
  have G_1 : Hid (Below w.heap.size w v1) := k4
  clear k0 k1 k2 k3 k4
  refine (kw.out _ Z_1.out).mono ?_
  rintro e v2 ⟨rfl, g⟩
  have A_2 : Hid (Bl5 v2 w.heap.size x0 x1 x2 x3 x4) := A_1.out.below g
  have S_2 : Hid (SK .u8 v2 (.slice a0 l0.length d0) l0) := S_1.out.below g
  have T_2 : Hid (SK .u8 v2 (.slice a1 l1.length d1) l1) := T_1.out.below g
  have Z_2 : Hid (Gl v2) := Z_1.out.grown g
  have G_2 : Hid (Below w.heap.size w v2) := G_1.out.trans (g.mono G_1.out.size)
  clear A_1 S_1 T_1 Z_1 G_1 g
  obtain ⟨cal, ca0, ca1, ca2, ca3, ca4, caf⟩ := A_2.out
  go_wp2_with fail
  clear cal ca0 ca1 ca2 ca3 ca4 caf
  refine calls_at (fun V => Els V v2.heap.size 1 (fun _ => ⟨x0, x1, x2, x3, x4⟩) ∧ Bl5 V w.heap.size x0 x1 x2 x3 x4 ∧ SK .u8 V (.slice a0 l0.length d0) l0 ∧ SK .u8 V (.slice a1 l1.length d1) l1 ∧ Gl V ∧ Below w.heap.size w V) ⟨HE.out v2, A_2.out.alloc _, S_2.out.below ((Below.refl _ _).alloc (Nat.le_refl _) _), T_2.out.below ((Below.refl _ _).alloc (Nat.le_refl _) _), Z_2.out.grown ((Below.refl _ _).alloc (Nat.le_refl _) _), G_2.out.alloc G_2.out.size _⟩ ?_
  rintro v3 ⟨hE, kA, kS, kT, kZ, kG⟩
  have A_3 : Hid (Bl5 v3 w.heap.size x0 x1 x2 x3 x4) := kA
  have S_3 : Hid (SK .u8 v3 (.slice a0 l0.length d0) l0) := kS
  have T_3 : Hid (SK .u8 v3 (.slice a1 l1.length d1) l1) := kT
  have Z_3 : Hid (Gl v3) := kZ
  have G_3 : Hid (Below w.heap.size w v3) := kG
  have hE' : Hid (Els v3 v2.heap.size 1 (fun _ => ⟨x0, x1, x2, x3, x4⟩)) := hE
  clear hE kA kS kT kZ kG A_2 S_2 T_2 Z_2 G_2
  refine (Kt.out _ _ hE'.out).mono ?_
  rintro e v4 ⟨rfl, g⟩
  have A_4 : Hid (Bl5 v4 w.heap.size x0 x1 x2 x3 x4) := A_3.out.below g
  have S_4 : Hid (SK .u8 v4 (.slice a0 l0.length d0) l0) := S_3.out.below g
  have T_4 : Hid (SK .u8 v4 (.slice a1 l1.length d1) l1) := T_3.out.below g
  have Z_4 : Hid (Gl v4) := Z_3.out.grown g
  have G_4 : Hid (Below w.heap.size w v4) := G_3.out.trans (g.mono G_3.out.size)
  clear A_3 S_3 T_3 Z_3 G_3 g
  clear hE'
  go_wp2_with fail
  refine (KO.out _ _ S_4.out).mono ?_
  rintro e v5 ⟨rfl, g⟩
  have A_5 : Hid (Bl5 v5 w.heap.size x0 x1 x2 x3 x4) := A_4.out.below g
  have S_5 : Hid (SK .u8 v5 (.slice a0 l0.length d0) l0) := S_4.out.below g
  have T_5 : Hid (SK .u8 v5 (.slice a1 l1.length d1) l1) := T_4.out.below g
  have Z_5 : Hid (Gl v5) := Z_4.out.grown g
  have G_5 : Hid (Below w.heap.size w v5) := G_4.out.trans (g.mono G_4.out.size)
  clear A_4 S_4 T_4 Z_4 G_4 g
  go_wp2_with fail
  have szR : w.heap.size ≤ v5.heap.size := G_5.out.size
  have nbRA : ¬ (v5.heap.size = w.heap.size) := by have := A_5.out.lt; omega
  refine calls_at (fun V => Bl5 V w.heap.size x0 x1 x2 x3 x4 ∧ SK .u8 V (.slice a0 l0.length d0) l0 ∧ SK .u8 V (.slice a1 l1.length d1) l1 ∧ Gl V ∧ Bl5 V v5.heap.size 0 0 0 0 0 ∧ Below w.heap.size w V) ⟨A_5.out.alloc _, S_5.out.below ((Below.refl _ _).alloc (Nat.le_refl _) _), T_5.out.below ((Below.refl _ _).alloc (Nat.le_refl _) _), Z_5.out.grown ((Below.refl _ _).alloc (Nat.le_refl _) _), Bl5.new v5 _ _ _ _ _ _ _ rfl, G_5.out.alloc G_5.out.size _⟩ ?_
  rintro v6 ⟨k0, k1, k2, k3, k4, k5⟩
  have A_6 : Hid (Bl5 v6 w.heap.size x0 x1 x2 x3 x4) := k0
  have S_6 : Hid (SK .u8 v6 (.slice a0 l0.length d0) l0) := k1
  have T_6 : Hid (SK .u8 v6 (.slice a1 l1.length d1) l1) := k2
  have Z_6 : Hid (Gl v6) := k3
  have R_6 : Hid (Bl5 v6 v5.heap.size 0 0 0 0 0) := k4
  have G_6 : Hid (Below w.heap.size w v6) := k5
  clear k0 k1 k2 k3 k4 k5 A_5 S_5 T_5 Z_5 G_5
  refine (KL.out _ _ S_6.out).mono ?_
  rintro e v7 ⟨v, rfl, hn, g⟩
  obtain ⟨Ua, Uc, Ud, rfl⟩ := hn.shape
  have U_7 : Hid (Num v7 (.slice Ua Uc Ud) (NN)) := hn
  have A_7 : Hid (Bl5 v7 w.heap.size x0 x1 x2 x3 x4) := A_6.out.below g
  have R_7 : Hid (Bl5 v7 v5.heap.size 0 0 0 0 0) := R_6.out.below g
  have S_7 : Hid (SK .u8 v7 (.slice a0 l0.length d0) l0) := S_6.out.below g
  have T_7 : Hid (SK .u8 v7 (.slice a1 l1.length d1) l1) := T_6.out.below g
  have Z_7 : Hid (Gl v7) := Z_6.out.grown g
  have G_7 : Hid (Below w.heap.size w v7) := G_6.out.trans (g.mono G_6.out.size)
  clear A_6 R_6 S_6 T_6 Z_6 G_6 g hn
  go_wp2_with fail
  refine (KP.out _).mono ?_
  rintro e v8 ⟨v, rfl, hn, g⟩
  obtain ⟨Qa, Qc, Qd, rfl⟩ := hn.shape
  have Q_8 : Hid (Num v8 (.slice Qa Qc Qd) (P25)) := hn
  have A_8 : Hid (Bl5 v8 w.heap.size x0 x1 x2 x3 x4) := A_7.out.below g
  have R_8 : Hid (Bl5 v8 v5.heap.size 0 0 0 0 0) := R_7.out.below g
  have S_8 : Hid (SK .u8 v8 (.slice a0 l0.length d0) l0) := S_7.out.below g
  have T_8 : Hid (SK .u8 v8 (.slice a1 l1.length d1) l1) := T_7.out.below g
  have U_8 : Hid (Num v8 (.slice Ua Uc Ud) (NN)) := U_7.out.below g
  have Z_8 : Hid (Gl v8) := Z_7.out.grown g
  have G_8 : Hid (Below w.heap.size w v8) := G_7.out.trans (g.mono G_7.out.size)
  clear A_7 R_7 S_7 T_7 U_7 Z_7 G_7 g hn
  go_wp2_with fail
  refine (KC.out _ _ _ U_8.out Q_8.out).mono ?_
  rintro e v9 ⟨rfl, g⟩
  have A_9 : Hid (Bl5 v9 w.heap.size x0 x1 x2 x3 x4) := A_8.out.below g
  have R_9 : Hid (Bl5 v9 v5.heap.size 0 0 0 0 0) := R_8.out.below g
  have S_9 : Hid (SK .u8 v9 (.slice a0 l0.length d0) l0) := S_8.out.below g
  have T_9 : Hid (SK .u8 v9 (.slice a1 l1.length d1) l1) := T_8.out.below g
  have U_9 : Hid (Num v9 (.slice Ua Uc Ud) (NN)) := U_8.out.below g
  have Z_9 : Hid (Gl v9) := Z_8.out.grown g
  have G_9 : Hid (Below w.heap.size w v9) := G_8.out.trans (g.mono G_8.out.size)
  clear A_8 R_8 S_8 T_8 U_8 Q_8 Z_8 G_8 g
  obtain ⟨crl, cr0, cr1, cr2, cr3, cr4, crf⟩ := R_9.out
  go_wp2_with fail
  refine (KW.out _).mono ?_
  rintro e v10 ⟨rfl, g⟩
  clear crl cr0 cr1 cr2 cr3 cr4 crf
  have A_10 : Hid (Bl5 v10 w.heap.size x0 x1 x2 x3 x4) := A_9.out.below g
  have R_10 : Hid (Bl5 v10 v5.heap.size 0 0 0 0 0) := R_9.out.below g
  have S_10 : Hid (SK .u8 v10 (.slice a0 l0.length d0) l0) := S_9.out.below g
  have T_10 : Hid (SK .u8 v10 (.slice a1 l1.length d1) l1) := T_9.out.below g
  have U_10 : Hid (Num v10 (.slice Ua Uc Ud) (NN)) := U_9.out.below g
  have Z_10 : Hid (Gl v10) := Z_9.out.grown g
  have G_10 : Hid (Below w.heap.size w v10) := G_9.out.trans (g.mono G_9.out.size)
  clear A_9 R_9 S_9 T_9 U_9 Z_9 G_9 g
  go_wp2_with fail
  have szY : w.heap.size ≤ v10.heap.size := G_10.out.size
  have nbYA : ¬ (v10.heap.size = w.heap.size) := by have := A_10.out.lt; omega
  have nbYR : ¬ (v10.heap.size = v5.heap.size) := by have := R_10.out.lt; omega
  refine wp_cut (fun V => Bl5 V w.heap.size x0 x1 x2 x3 x4 ∧ Bl5 V v5.heap.size 0 0 0 0 0 ∧ SK .u8 V (.slice a0 l0.length d0) l0 ∧ SK .u8 V (.slice a1 l1.length d1) l1 ∧ Num V (.slice Ua Uc Ud) (NN) ∧ Gl V ∧ Bl5 V v10.heap.size 0 0 0 0 0 ∧ Below w.heap.size w V) ⟨A_10.out.alloc _, R_10.out.alloc _, S_10.out.below ((Below.refl _ _).alloc (Nat.le_refl _) _), T_10.out.below ((Below.refl _ _).alloc (Nat.le_refl _) _), U_10.out.below ((Below.refl _ _).alloc (Nat.le_refl _) _), Z_10.out.grown ((Below.refl _ _).alloc (Nat.le_refl _) _), Bl5.new v10 _ _ _ _ _ _ _ rfl, G_10.out.alloc G_10.out.size _⟩ ?_
  rintro v11 ⟨k0, k1, k2, k3, k4, k5, k6, k7⟩
  have A_11 : Hid (Bl5 v11 w.heap.size x0 x1 x2 x3 x4) := k0
  have R_11 : Hid (Bl5 v11 v5.heap.size 0 0 0 0 0) := k1
  have S_11 : Hid (SK .u8 v11 (.slice a0 l0.length d0) l0) := k2
  have T_11 : Hid (SK .u8 v11 (.slice a1 l1.length d1) l1) := k3
  have U_11 : Hid (Num v11 (.slice Ua Uc Ud) (NN)) := k4
  have Z_11 : Hid (Gl v11) := k5
  have Y_11 : Hid (Bl5 v11 v10.heap.size 0 0 0 0 0) := k6
  have G_11 : Hid (Below w.heap.size w v11) := k7
  clear k0 k1 k2 k3 k4 k5 k6 k7 A_10 R_10 S_10 T_10 U_10 Z_10 G_10
  obtain ⟨cyl, cy0, cy1, cy2, cy3, cy4, cyf⟩ := Y_11.out
  refine wp_region_ext (by kernel_rfl) (by kernel_rfl) ?_
  repeat (go_big_quiet_step ((first
  
    | fail)))
  refine wpQuiet_nil ?_
  intro W1 hw
  obtain ⟨m, rfl⟩ := hw
  have g := ext_below v11 m
  obtain ⟨v12, hW⟩ : ∃ V, ext v11 m = V := ⟨_, rfl⟩
  rw [hW] at g ⊢
  clear hW
  clear cyl cy0 cy1 cy2 cy3 cy4 cyf
  have A_12 : Hid (Bl5 v12 w.heap.size x0 x1 x2 x3 x4) := A_11.out.below g
  have R_12 : Hid (Bl5 v12 v5.heap.size 0 0 0 0 0) := R_11.out.below g
  have Y_12 : Hid (Bl5 v12 v10.heap.size 0 0 0 0 0) := Y_11.out.below g
  have S_12 : Hid (SK .u8 v12 (.slice a0 l0.length d0) l0) := S_11.out.below g
  have T_12 : Hid (SK .u8 v12 (.slice a1 l1.length d1) l1) := T_11.out.below g
  have U_12 : Hid (Num v12 (.slice Ua Uc Ud) (NN)) := U_11.out.below g
  have Z_12 : Hid (Gl v12) := Z_11.out.grown g
  have G_12 : Hid (Below w.heap.size w v12) := G_11.out.trans (g.mono G_11.out.size)
  clear A_11 R_11 Y_11 S_11 T_11 U_11 Z_11 G_11 g
  have K : v12.drew.cell? ⟨w.heap.size, 0, none⟩ = some (.int .u64 x0) ∧ v12.drew.cell? ⟨w.heap.size, 1, none⟩ = some (.int .u64 x1) ∧ v12.drew.cell? ⟨w.heap.size, 2, none⟩ = some (.int .u64 x2) ∧ v12.drew.cell? ⟨w.heap.size, 3, none⟩ = some (.int .u64 x3) ∧ v12.drew.cell? ⟨w.heap.size, 4, none⟩ = some (.int .u64 x4) := ⟨A_12.out.drew.c0, A_12.out.drew.c1, A_12.out.drew.c2, A_12.out.drew.c3, A_12.out.drew.c4⟩
  have A_12' : Hid (Bl5 v12.drew w.heap.size x0 x1 x2 x3 x4) := A_12.out.drew
  have R_12' : Hid (Bl5 v12.drew v5.heap.size 0 0 0 0 0) := R_12.out.drew
  have Y_12' : Hid (Bl5 v12.drew v10.heap.size 0 0 0 0 0) := Y_12.out.drew
  have S_12' : Hid (SK .u8 v12.drew (.slice a0 l0.length d0) l0) := S_12.out.below (Below.refl _ _).drew
  have T_12' : Hid (SK .u8 v12.drew (.slice a1 l1.length d1) l1) := T_12.out.below (Below.refl _ _).drew
  have U_12' : Hid (Num v12.drew (.slice Ua Uc Ud) (NN)) := U_12.out.below (Below.refl _ _).drew
  have Z_12' : Hid (Gl v12.drew) := Z_12.out.grown (Below.refl _ _).drew
  have G_12' : Hid (Below w.heap.size w v12.drew) := G_12.out.drew
  go_wp2_with fail
  go_region_held3 (fun w' => w'.cell? ⟨w.heap.size, 0, none⟩ = some (.int .u64 x0) ∧ w'.cell? ⟨w.heap.size, 1, none⟩ = some (.int .u64 x1) ∧ w'.cell? ⟨w.heap.size, 2, none⟩ = some (.int .u64 x2) ∧ w'.cell? ⟨w.heap.size, 3, none⟩ = some (.int .u64 x3) ∧ w'.cell? ⟨w.heap.size, 4, none⟩ = some (.int .u64 x4)) (first | with_reducible assumption | go_keep)
    (first
      | (go_at_call 37; have gg := G_15; clear gg; (refine (SM.out _ _ _ FF_15.out TT_15.out).mono ?_); (rintro e v16 ⟨rfl, g⟩; have A_16 : Hid (Bl5 v16 w.heap.size x0 x1 x2 x3 x4) := A_15.out.below g; have R_16 : Hid (Bl5 v16 v5.heap.size 0 0 0 0 0) := R_15.out.below g; have Y_16 : Hid (Bl5 v16 v10.heap.size 0 0 0 0 0) := Y_15.out.below g; have S_16 : Hid (SK .u8 v16 (.slice a0 l0.length d0) l0) := S_15.out.below g; have T_16 : Hid (SK .u8 v16 (.slice a1 l1.length d1) l1) := T_15.out.below g; have U_16 : Hid (Num v16 (.slice Ua Uc Ud) (NN)) := U_15.out.below g; have FF_16 : Hid (Fil X h 32 v16) := FF_15.out.below g; have E_16 : Hid (Num v16 (.slice Ea Ec Ed) (X)) := E_15.out.below g; have TT_16 : Hid (SK .u8 v16 (.slice ta (leB X 32).length td) (leB X 32)) := TT_15.out.below g; have Z_16 : Hid (Gl v16) := Z_15.out.grown g; have G_16 : Hid (Below w.heap.size w v16) := G_15.out.trans (g.mono G_15.out.size); clear g; clear K; have K : v16.cell? ⟨w.heap.size, 0, none⟩ = some (.int .u64 x0) ∧ v16.cell? ⟨w.heap.size, 1, none⟩ = some (.int .u64 x1) ∧ v16.cell? ⟨w.heap.size, 2, none⟩ = some (.int .u64 x2) ∧ v16.cell? ⟨w.heap.size, 3, none⟩ = some (.int .u64 x3) ∧ v16.cell? ⟨w.heap.size, 4, none⟩ = some (.int .u64 x4) := ⟨A_16.out.c0, A_16.out.c1, A_16.out.c2, A_16.out.c3, A_16.out.c4⟩))
      | (go_at_call 39; have gg := G_14; clear gg; (refine (TL.out _ _ E_14.out).mono ?_); (rintro e v15 ⟨v, rfl, hf, g⟩; obtain ⟨ta, td, rfl⟩ := hf.shape; have TT_15 : Hid (SK .u8 v15 (.slice ta (leB X 32).length td) (leB X 32)) := hf; clear hf; have A_15 : Hid (Bl5 v15 w.heap.size x0 x1 x2 x3 x4) := A_14.out.below g; have R_15 : Hid (Bl5 v15 v5.heap.size 0 0 0 0 0) := R_14.out.below g; have Y_15 : Hid (Bl5 v15 v10.heap.size 0 0 0 0 0) := Y_14.out.below g; have S_15 : Hid (SK .u8 v15 (.slice a0 l0.length d0) l0) := S_14.out.below g; have T_15 : Hid (SK .u8 v15 (.slice a1 l1.length d1) l1) := T_14.out.below g; have U_15 : Hid (Num v15 (.slice Ua Uc Ud) (NN)) := U_14.out.below g; have FF_15 : Hid (Fil X h 32 v15) := FF_14.out.below g; have E_15 : Hid (Num v15 (.slice Ea Ec Ed) (X)) := E_14.out.below g; have Z_15 : Hid (Gl v15) := Z_14.out.grown g; have G_15 : Hid (Below w.heap.size w v15) := G_14.out.trans (g.mono G_14.out.size); clear g; clear K; have K : v15.cell? ⟨w.heap.size, 0, none⟩ = some (.int .u64 x0) ∧ v15.cell? ⟨w.heap.size, 1, none⟩ = some (.int .u64 x1) ∧ v15.cell? ⟨w.heap.size, 2, none⟩ = some (.int .u64 x2) ∧ v15.cell? ⟨w.heap.size, 3, none⟩ = some (.int .u64 x3) ∧ v15.cell? ⟨w.heap.size, 4, none⟩ = some (.int .u64 x4) := ⟨A_15.out.c0, A_15.out.c1, A_15.out.c2, A_15.out.c3, A_15.out.c4⟩))
      | (go_at_call 10; have gg := G_13; clear gg; (refine (OX.out _).mono ?_); (rintro e v14 ⟨v, rfl, hn, g⟩; obtain ⟨Ea, Ec, Ed, rfl⟩ := hn.shape; have E_14 : Hid (Num v14 (.slice Ea Ec Ed) (X)) := hn; clear hn; have A_14 : Hid (Bl5 v14 w.heap.size x0 x1 x2 x3 x4) := A_13.out.below g; have R_14 : Hid (Bl5 v14 v5.heap.size 0 0 0 0 0) := R_13.out.below g; have Y_14 : Hid (Bl5 v14 v10.heap.size 0 0 0 0 0) := Y_13.out.below g; have S_14 : Hid (SK .u8 v14 (.slice a0 l0.length d0) l0) := S_13.out.below g; have T_14 : Hid (SK .u8 v14 (.slice a1 l1.length d1) l1) := T_13.out.below g; have U_14 : Hid (Num v14 (.slice Ua Uc Ud) (NN)) := U_13.out.below g; have FF_14 : Hid (Fil X h 32 v14) := FF_13.out.below g; have Z_14 : Hid (Gl v14) := Z_13.out.grown g; have G_14 : Hid (Below w.heap.size w v14) := G_13.out.trans (g.mono G_13.out.size); clear g; clear K; have K : v14.cell? ⟨w.heap.size, 0, none⟩ = some (.int .u64 x0) ∧ v14.cell? ⟨w.heap.size, 1, none⟩ = some (.int .u64 x1) ∧ v14.cell? ⟨w.heap.size, 2, none⟩ = some (.int .u64 x2) ∧ v14.cell? ⟨w.heap.size, 3, none⟩ = some (.int .u64 x3) ∧ v14.cell? ⟨w.heap.size, 4, none⟩ = some (.int .u64 x4) := ⟨A_14.out.c0, A_14.out.c1, A_14.out.c2, A_14.out.c3, A_14.out.c4⟩))
      | (go_at_call 38; have gg := G_12'; clear gg; (refine (KX.out _).mono ?_); (rintro e v13 ⟨h, rfl, hf, -, g⟩; have FF_13 : Hid (Fil X h 32 v13) := hf; clear hf; have A_13 : Hid (Bl5 v13 w.heap.size x0 x1 x2 x3 x4) := A_12'.out.below g; have R_13 : Hid (Bl5 v13 v5.heap.size 0 0 0 0 0) := R_12'.out.below g; have Y_13 : Hid (Bl5 v13 v10.heap.size 0 0 0 0 0) := Y_12'.out.below g; have S_13 : Hid (SK .u8 v13 (.slice a0 l0.length d0) l0) := S_12'.out.below g; have T_13 : Hid (SK .u8 v13 (.slice a1 l1.length d1) l1) := T_12'.out.below g; have U_13 : Hid (Num v13 (.slice Ua Uc Ud) (NN)) := U_12'.out.below g; have Z_13 : Hid (Gl v13) := Z_12'.out.grown g; have G_13 : Hid (Below w.heap.size w v13) := G_12'.out.trans (g.mono G_12'.out.size); clear g; clear K; have K : v13.cell? ⟨w.heap.size, 0, none⟩ = some (.int .u64 x0) ∧ v13.cell? ⟨w.heap.size, 1, none⟩ = some (.int .u64 x1) ∧ v13.cell? ⟨w.heap.size, 2, none⟩ = some (.int .u64 x2) ∧ v13.cell? ⟨w.heap.size, 3, none⟩ = some (.int .u64 x3) ∧ v13.cell? ⟨w.heap.size, 4, none⟩ = some (.int .u64 x4) := ⟨A_13.out.c0, A_13.out.c1, A_13.out.c2, A_13.out.c3, A_13.out.c4⟩))
      | fail)
  clear K 
  go_wp2_with fail
  go_ret
  exact ⟨rfl, G_16.out⟩

set_option maxRecDepth 100000 in
set_option maxHeartbeats 16000000 in
theorem fbyt_2y (l0 l1 : List Nat) (hb0 : Bb l0) (hb1 : Bb l1) (v0 v1 : Value) (x : L5) (hx : x.Wds) (hm : l0.length ≤ 100) (hl : l1.length ≤ 100) (ht : x.Tm) (c1 : ¬ l0.length = 32) (c2 : True) (c3 : l1.length ≤ 64) (w : World) (h0 : SK .u8 w v0 l0) (h1 : SK .u8 w v1 l1) (hg : Gl w) : Calls Tryd.prog 6 #[v0, v1, .agg #[.int .u64 x.l0, .int .u64 x.l1, .int .u64 x.l2, .int .u64 x.l3, .int .u64 x.l4]] w fun e w' => e = .returned (.bool true) ∧ Below w.heap.size w w' := by
  have HG : Hid (Gl w) := hg
  have hs0 : Hid (SK .u8 w v0 l0) := h0
  have hs1 : Hid (SK .u8 w v1 l1) := h1
  have kw : Hid (∀ W, Gl W → Calls Tryd.prog 8 #[] W fun e w' => e = .returned (.bool true) ∧ Below W.heap.size W w') := fun W h => awake4_any W h
  have HE : Hid (∀ W : World, Els (W.alloc (.cells #[.int .u64 x.l0, .int .u64 x.l1, .int .u64 x.l2, .int .u64 x.l3, .int .u64 x.l4] 24)) W.heap.size 1 (fun _ => x)) := fun W => els_one W x
  have gl := hg.lt
  obtain ⟨a0, d0, rfl⟩ := h0.shape
  obtain ⟨a1, d1, rfl⟩ := h1.shape
  have hm' : ¬ (100 : Int) < (l0.length : Int) := by omega
  have hl' : ¬ (100 : Int) < (l1.length : Int) := by omega
  have kt' : ∀ W g, Els W g 1 (fun _ => x) → Calls Tryd.prog 9 #[.slice (some ⟨g, 0, none⟩) 1 1] W fun e w' => e = .returned (.bool true) ∧ Below W.heap.size W w' := fun W g h => tame_any (fun _ => x) 1 g (by omega) (fun _ _ => hx) W h true ⟨fun _ _ _ => ht, fun _ => rfl⟩
  obtain ⟨z, ok, eo, e1, e2, kO⟩ := of_all l0 hb0
  have KL : Hid (∀ v w, SK .u8 w v l0 → Calls Tryd.prog 32 #[v] w fun e w' => ∃ v, e = .returned v ∧ Num w' v (hvN (turn l0) l0.length) ∧ Below w.heap.size w w') := fun v w h => littleN_any l0 hb0 v w h (by omega)
  rw [decide_eq_false (fun h => c1 h.1)] at eo
  subst eo
  have ez := e2 rfl
  subst ez
  have NZ := neq5 0 0 0 0 0
  have c1' : ¬ (l0.length : Int) = 32 := by omega
  have c3' : (l1.length : Int) ≤ 64 := by omega
  have hd : decide ((l1.length : Int) ≤ 64) = true := decide_eq_true c3'
  have hd2 : decide ((64 : Int) < (l1.length : Int)) = false := decide_eq_false (by omega)
  obtain ⟨y, hy, ey, kW⟩ := wide_yes l1 hb1 c3
  have iy := fun v w h => is_yes y hy _ ey v w h
  have hM : hvN l1 l1.length < 16777216 ^ 40 := Nat.lt_of_lt_of_le (hvN_lt _ hb1 _) (pow256 _ 40 (by omega))
  have KB : Hid (∀ v w, SK .u8 w v l1 → Calls Tryd.prog 36 #[v] w fun e w' => ∃ v, e = .returned v ∧ Num w' v (hvN l1 l1.length) ∧ Below w.heap.size w w') := fun v w h => bigN_any l1 hb1 v w h (by omega)
  have KM : Hid (∀ v w, Num w v (hvN l1 l1.length) → Calls Tryd.prog 35 #[v] w fun e w' => ∃ v, e = .returned v ∧ Num w' v (hvN l1 l1.length % P25) ∧ Below w.heap.size w w') := fun v w h => modD_num _ v w h hM
  have kx := bytes_fe x ht
  have ox := of_nn x ht
  have hX := Nat.lt_trans x.nn_lt P25_lt22
  generalize x.nn = X at *
  generalize hvN (turn l0) l0.length = NN at *
  generalize hvN l1 l1.length = MM at *
  have TL : Hid (∀ v w, Num w v X → Calls Tryd.prog 39 #[v, .int .i64 32] w fun e w' => ∃ v, e = .returned v ∧ SK .u8 w' v (leB X 32) ∧ Below w.heap.size w w') := fun v w h => toLittle32 X v w h 22 hX (by omega)
  have SM : Hid (∀ g v w, Fil X g 32 w → SK .u8 w v (leB X 32) → Calls Tryd.prog 37 #[.slice (some ⟨g, 0, none⟩) 32 32, v] w fun e w' => e = .returned (.bool true) ∧ Below w.heap.size w w') := fun g v w h h' => same32 X g v w h h'
  clear hg h0 h1 hx ht hb0 hb1 hm hl c1 c2 c3 e1 e2 hX hy ey hM
  obtain ⟨x0, x1, x2, x3, x4⟩ := x
  obtain ⟨y0, y1, y2, y3, y4⟩ := y
  dsimp only at kt' kO kx ox HE kW iy ⊢
  have KO : Hid (∀ v w, SK .u8 w v l0 → Calls Tryd.prog 31 #[v] w fun e w' => e = .returned (.tuple #[.agg #[.int .u64 0, .int .u64 0, .int .u64 0, .int .u64 0, .int .u64 0], .bool false]) ∧ Below w.heap.size w w') := kO
  have KW : Hid (∀ v w, SK .u8 w v l1 → Calls Tryd.prog 34 #[v] w fun e w' => e = .returned (.tuple #[.agg #[.int .u64 y0, .int .u64 y1, .int .u64 y2, .int .u64 y3, .int .u64 y4], .bool true]) ∧ Below w.heap.size w w') := kW
  have IY : Hid (∀ v w, Num w v (MM % P25) → Calls Tryd.prog 11 #[.agg #[.int .u64 y0, .int .u64 y1, .int .u64 y2, .int .u64 y3, .int .u64 y4], v] w fun e w' => e = .returned (.bool true) ∧ Below w.heap.size w w') := iy
  have OX : Hid (∀ w, Calls Tryd.prog 10 #[.agg #[.int .u64 x0, .int .u64 x1, .int .u64 x2, .int .u64 x3, .int .u64 x4]] w fun e w' => ∃ v, e = .returned v ∧ Num w' v X ∧ Below w.heap.size w w') := ox
  have KX : Hid (∀ w, Calls Tryd.prog 38 #[.agg #[.int .u64 x0, .int .u64 x1, .int .u64 x2, .int .u64 x3, .int .u64 x4]] w fun e w' => ∃ g, e = .returned (.slice (some ⟨g, 0, none⟩) 32 32) ∧ Fil X g 32 w' ∧ w.heap.size ≤ g ∧ Below w.heap.size w w') := kx
  have Kt : Hid (∀ W g, Els W g 1 (fun _ => ⟨x0, x1, x2, x3, x4⟩) → Calls Tryd.prog 9 #[.slice (some ⟨g, 0, none⟩) 1 1] W fun e w' => e = .returned (.bool true) ∧ Below W.heap.size W w') := kt'
  clear kt' kO kx ox kW iy
  go_enter Tryd.func6, Tryd.ntmps6
  go_wp2_with fail
  refine calls_at (fun V => Bl5 V w.heap.size x0 x1 x2 x3 x4 ∧ SK .u8 V (.slice a0 l0.length d0) l0 ∧ SK .u8 V (.slice a1 l1.length d1) l1 ∧ Gl V ∧ Below w.heap.size w V) ⟨?_, ?_, ?_, ?_, ?_⟩ ?_
  · (repeat (first | refine Bl5.drew ?_ | refine Bl5.drewN ?_ _ | (refine Bl5.new _ _ _ _ _ _ _ _ ?_; simp; done) | refine Bl5.alloc ?_ _))
  · exact hs0.out.below ((Below.refl _ _).alloc (Nat.le_refl _) _)
  · exact hs1.out.below ((Below.refl _ _).alloc (Nat.le_refl _) _)
  · refine Gl.grown HG.out ?_
    (repeat (first | exact Below.refl _ _ | refine Below.drew ?_ | refine below_drewN ?_ _ | refine Below.alloc ?_ (by simp <;> omega) _))
  · (repeat (first | exact Below.refl _ _ | refine Below.drew ?_ | refine below_drewN ?_ _ | refine Below.alloc ?_ (by simp <;> omega) _ | refine Below.setCell ?_ (by simp <;> omega) _))
  rintro v1 ⟨k0, k1, k2, k3, k4⟩
  have A_1 : Hid (Bl5 v1 w.heap.size x0 x1 x2 x3 x4) := k0
  have S_1 : Hid (SK .u8 v1 (.slice a0 l0.length d0) l0) := k1
  have T_1 : Hid (SK .u8 v1 (.slice a1 l1.length d1) l1) := k2
  have Z_1 : Hid (Gl v1) := k3
  have G_1 : Hid (Below w.heap.size w v1) := k4
  clear k0 k1 k2 k3 k4
  refine (kw.out _ Z_1.out).mono ?_
  rintro e v2 ⟨rfl, g⟩
  have A_2 : Hid (Bl5 v2 w.heap.size x0 x1 x2 x3 x4) := A_1.out.below g
  have S_2 : Hid (SK .u8 v2 (.slice a0 l0.length d0) l0) := S_1.out.below g
  have T_2 : Hid (SK .u8 v2 (.slice a1 l1.length d1) l1) := T_1.out.below g
  have Z_2 : Hid (Gl v2) := Z_1.out.grown g
  have G_2 : Hid (Below w.heap.size w v2) := G_1.out.trans (g.mono G_1.out.size)
  clear A_1 S_1 T_1 Z_1 G_1 g
  obtain ⟨cal, ca0, ca1, ca2, ca3, ca4, caf⟩ := A_2.out
  go_wp2_with fail
  clear cal ca0 ca1 ca2 ca3 ca4 caf
  refine calls_at (fun V => Els V v2.heap.size 1 (fun _ => ⟨x0, x1, x2, x3, x4⟩) ∧ Bl5 V w.heap.size x0 x1 x2 x3 x4 ∧ SK .u8 V (.slice a0 l0.length d0) l0 ∧ SK .u8 V (.slice a1 l1.length d1) l1 ∧ Gl V ∧ Below w.heap.size w V) ⟨HE.out v2, A_2.out.alloc _, S_2.out.below ((Below.refl _ _).alloc (Nat.le_refl _) _), T_2.out.below ((Below.refl _ _).alloc (Nat.le_refl _) _), Z_2.out.grown ((Below.refl _ _).alloc (Nat.le_refl _) _), G_2.out.alloc G_2.out.size _⟩ ?_
  rintro v3 ⟨hE, kA, kS, kT, kZ, kG⟩
  have A_3 : Hid (Bl5 v3 w.heap.size x0 x1 x2 x3 x4) := kA
  have S_3 : Hid (SK .u8 v3 (.slice a0 l0.length d0) l0) := kS
  have T_3 : Hid (SK .u8 v3 (.slice a1 l1.length d1) l1) := kT
  have Z_3 : Hid (Gl v3) := kZ
  have G_3 : Hid (Below w.heap.size w v3) := kG
  have hE' : Hid (Els v3 v2.heap.size 1 (fun _ => ⟨x0, x1, x2, x3, x4⟩)) := hE
  clear hE kA kS kT kZ kG A_2 S_2 T_2 Z_2 G_2
  refine (Kt.out _ _ hE'.out).mono ?_
  rintro e v4 ⟨rfl, g⟩
  have A_4 : Hid (Bl5 v4 w.heap.size x0 x1 x2 x3 x4) := A_3.out.below g
  have S_4 : Hid (SK .u8 v4 (.slice a0 l0.length d0) l0) := S_3.out.below g
  have T_4 : Hid (SK .u8 v4 (.slice a1 l1.length d1) l1) := T_3.out.below g
  have Z_4 : Hid (Gl v4) := Z_3.out.grown g
  have G_4 : Hid (Below w.heap.size w v4) := G_3.out.trans (g.mono G_3.out.size)
  clear A_3 S_3 T_3 Z_3 G_3 g
  clear hE'
  go_wp2_with fail
  refine (KO.out _ _ S_4.out).mono ?_
  rintro e v5 ⟨rfl, g⟩
  have A_5 : Hid (Bl5 v5 w.heap.size x0 x1 x2 x3 x4) := A_4.out.below g
  have S_5 : Hid (SK .u8 v5 (.slice a0 l0.length d0) l0) := S_4.out.below g
  have T_5 : Hid (SK .u8 v5 (.slice a1 l1.length d1) l1) := T_4.out.below g
  have Z_5 : Hid (Gl v5) := Z_4.out.grown g
  have G_5 : Hid (Below w.heap.size w v5) := G_4.out.trans (g.mono G_4.out.size)
  clear A_4 S_4 T_4 Z_4 G_4 g
  go_wp2_with fail
  have szR : w.heap.size ≤ v5.heap.size := G_5.out.size
  have nbRA : ¬ (v5.heap.size = w.heap.size) := by have := A_5.out.lt; omega
  refine calls_at (fun V => Bl5 V w.heap.size x0 x1 x2 x3 x4 ∧ SK .u8 V (.slice a0 l0.length d0) l0 ∧ SK .u8 V (.slice a1 l1.length d1) l1 ∧ Gl V ∧ Bl5 V v5.heap.size 0 0 0 0 0 ∧ Below w.heap.size w V) ⟨A_5.out.alloc _, S_5.out.below ((Below.refl _ _).alloc (Nat.le_refl _) _), T_5.out.below ((Below.refl _ _).alloc (Nat.le_refl _) _), Z_5.out.grown ((Below.refl _ _).alloc (Nat.le_refl _) _), Bl5.new v5 _ _ _ _ _ _ _ rfl, G_5.out.alloc G_5.out.size _⟩ ?_
  rintro v6 ⟨k0, k1, k2, k3, k4, k5⟩
  have A_6 : Hid (Bl5 v6 w.heap.size x0 x1 x2 x3 x4) := k0
  have S_6 : Hid (SK .u8 v6 (.slice a0 l0.length d0) l0) := k1
  have T_6 : Hid (SK .u8 v6 (.slice a1 l1.length d1) l1) := k2
  have Z_6 : Hid (Gl v6) := k3
  have R_6 : Hid (Bl5 v6 v5.heap.size 0 0 0 0 0) := k4
  have G_6 : Hid (Below w.heap.size w v6) := k5
  clear k0 k1 k2 k3 k4 k5 A_5 S_5 T_5 Z_5 G_5
  refine (KL.out _ _ S_6.out).mono ?_
  rintro e v7 ⟨v, rfl, hn, g⟩
  obtain ⟨Ua, Uc, Ud, rfl⟩ := hn.shape
  have U_7 : Hid (Num v7 (.slice Ua Uc Ud) (NN)) := hn
  have A_7 : Hid (Bl5 v7 w.heap.size x0 x1 x2 x3 x4) := A_6.out.below g
  have R_7 : Hid (Bl5 v7 v5.heap.size 0 0 0 0 0) := R_6.out.below g
  have S_7 : Hid (SK .u8 v7 (.slice a0 l0.length d0) l0) := S_6.out.below g
  have T_7 : Hid (SK .u8 v7 (.slice a1 l1.length d1) l1) := T_6.out.below g
  have Z_7 : Hid (Gl v7) := Z_6.out.grown g
  have G_7 : Hid (Below w.heap.size w v7) := G_6.out.trans (g.mono G_6.out.size)
  clear A_6 R_6 S_6 T_6 Z_6 G_6 g hn
  obtain ⟨crl, cr0, cr1, cr2, cr3, cr4, crf⟩ := R_7.out
  go_wp2_with fail
  refine (KW.out _ _ T_7.out).mono ?_
  rintro e v8 ⟨rfl, g⟩
  clear crl cr0 cr1 cr2 cr3 cr4 crf
  have A_8 : Hid (Bl5 v8 w.heap.size x0 x1 x2 x3 x4) := A_7.out.below g
  have R_8 : Hid (Bl5 v8 v5.heap.size 0 0 0 0 0) := R_7.out.below g
  have S_8 : Hid (SK .u8 v8 (.slice a0 l0.length d0) l0) := S_7.out.below g
  have T_8 : Hid (SK .u8 v8 (.slice a1 l1.length d1) l1) := T_7.out.below g
  have U_8 : Hid (Num v8 (.slice Ua Uc Ud) (NN)) := U_7.out.below g
  have Z_8 : Hid (Gl v8) := Z_7.out.grown g
  have G_8 : Hid (Below w.heap.size w v8) := G_7.out.trans (g.mono G_7.out.size)
  clear A_7 R_7 S_7 T_7 U_7 Z_7 G_7 g
  go_wp2_with fail
  have szY : w.heap.size ≤ v8.heap.size := G_8.out.size
  have nbYA : ¬ (v8.heap.size = w.heap.size) := by have := A_8.out.lt; omega
  have nbYR : ¬ (v8.heap.size = v5.heap.size) := by have := R_8.out.lt; omega
  refine wp_cut (fun V => Bl5 V w.heap.size x0 x1 x2 x3 x4 ∧ Bl5 V v5.heap.size 0 0 0 0 0 ∧ SK .u8 V (.slice a0 l0.length d0) l0 ∧ SK .u8 V (.slice a1 l1.length d1) l1 ∧ Num V (.slice Ua Uc Ud) (NN) ∧ Gl V ∧ Bl5 V v8.heap.size y0 y1 y2 y3 y4 ∧ Below w.heap.size w V) ⟨A_8.out.alloc _, R_8.out.alloc _, S_8.out.below ((Below.refl _ _).alloc (Nat.le_refl _) _), T_8.out.below ((Below.refl _ _).alloc (Nat.le_refl _) _), U_8.out.below ((Below.refl _ _).alloc (Nat.le_refl _) _), Z_8.out.grown ((Below.refl _ _).alloc (Nat.le_refl _) _), Bl5.new v8 _ _ _ _ _ _ _ rfl, G_8.out.alloc G_8.out.size _⟩ ?_
  rintro v9 ⟨k0, k1, k2, k3, k4, k5, k6, k7⟩
  have A_9 : Hid (Bl5 v9 w.heap.size x0 x1 x2 x3 x4) := k0
  have R_9 : Hid (Bl5 v9 v5.heap.size 0 0 0 0 0) := k1
  have S_9 : Hid (SK .u8 v9 (.slice a0 l0.length d0) l0) := k2
  have T_9 : Hid (SK .u8 v9 (.slice a1 l1.length d1) l1) := k3
  have U_9 : Hid (Num v9 (.slice Ua Uc Ud) (NN)) := k4
  have Z_9 : Hid (Gl v9) := k5
  have Y_9 : Hid (Bl5 v9 v8.heap.size y0 y1 y2 y3 y4) := k6
  have G_9 : Hid (Below w.heap.size w v9) := k7
  clear k0 k1 k2 k3 k4 k5 k6 k7 A_8 R_8 S_8 T_8 U_8 Z_8 G_8
  have K : v9.drew.cell? ⟨v8.heap.size, 0, none⟩ = some (.int .u64 y0) ∧ v9.drew.cell? ⟨v8.heap.size, 1, none⟩ = some (.int .u64 y1) ∧ v9.drew.cell? ⟨v8.heap.size, 2, none⟩ = some (.int .u64 y2) ∧ v9.drew.cell? ⟨v8.heap.size, 3, none⟩ = some (.int .u64 y3) ∧ v9.drew.cell? ⟨v8.heap.size, 4, none⟩ = some (.int .u64 y4) := ⟨Y_9.out.drew.c0, Y_9.out.drew.c1, Y_9.out.drew.c2, Y_9.out.drew.c3, Y_9.out.drew.c4⟩
  have A_9' : Hid (Bl5 v9.drew w.heap.size x0 x1 x2 x3 x4) := A_9.out.drew
  have R_9' : Hid (Bl5 v9.drew v5.heap.size 0 0 0 0 0) := R_9.out.drew
  have Y_9' : Hid (Bl5 v9.drew v8.heap.size y0 y1 y2 y3 y4) := Y_9.out.drew
  have S_9' : Hid (SK .u8 v9.drew (.slice a0 l0.length d0) l0) := S_9.out.below (Below.refl _ _).drew
  have T_9' : Hid (SK .u8 v9.drew (.slice a1 l1.length d1) l1) := T_9.out.below (Below.refl _ _).drew
  have U_9' : Hid (Num v9.drew (.slice Ua Uc Ud) (NN)) := U_9.out.below (Below.refl _ _).drew
  have Z_9' : Hid (Gl v9.drew) := Z_9.out.grown (Below.refl _ _).drew
  have G_9' : Hid (Below w.heap.size w v9.drew) := G_9.out.drew
  go_wp2_with fail
  refine wp_region_held_drew (S := fun w' => w'.cell? ⟨v8.heap.size, 0, none⟩ = some (.int .u64 y0) ∧ w'.cell? ⟨v8.heap.size, 1, none⟩ = some (.int .u64 y1) ∧ w'.cell? ⟨v8.heap.size, 2, none⟩ = some (.int .u64 y2) ∧ w'.cell? ⟨v8.heap.size, 3, none⟩ = some (.int .u64 y3) ∧ w'.cell? ⟨v8.heap.size, 4, none⟩ = some (.int .u64 y4)) (by kernel_rfl) K (fun hHeld => ?_)
  refine h_take 0 (v := ?v0) rfl (by kernel_rfl) (by kernel_rfl) (by kernel_rfl) (fun _ _ _ h => h) (by rfl) ?hy0 (by assumption) ?_
  case hy0 =>
    intro w' hSw
    try dsimp only at hSw
    go_simp
    try with_reducible rfl
  try simp only [Act.put, List.setIfInBounds_toArray, List.set_cons_zero, List.set_cons_succ]
  refine h_take 1 (v := ?v1) rfl (by kernel_rfl) (by kernel_rfl) (by kernel_rfl) (fun _ _ _ h => h) (by rfl) ?hy1 (by assumption) ?_
  case hy1 =>
    intro w' hSw
    try dsimp only at hSw
    go_simp
    try with_reducible rfl
  try simp only [Act.put, List.setIfInBounds_toArray, List.set_cons_zero, List.set_cons_succ]
  refine h_take 2 (v := ?v2) rfl (by kernel_rfl) (by kernel_rfl) (by kernel_rfl) (fun _ _ _ h => h) (by rfl) ?hy2 (by assumption) ?_
  case hy2 =>
    intro w' hSw
    try dsimp only at hSw
    go_simp
    try with_reducible rfl
  try simp only [Act.put, List.setIfInBounds_toArray, List.set_cons_zero, List.set_cons_succ]
  refine h_take 3 (v := ?v3) rfl (by kernel_rfl) (by kernel_rfl) (by kernel_rfl) (fun _ _ _ h => h) (by rfl) ?hy3 (by assumption) ?_
  case hy3 =>
    intro w' hSw
    try dsimp only at hSw
    go_simp
    try with_reducible rfl
  try simp only [Act.put, List.setIfInBounds_toArray, List.set_cons_zero, List.set_cons_succ]
  refine h_take 4 (v := ?v4) rfl (by kernel_rfl) (by kernel_rfl) (by kernel_rfl) (fun _ _ _ h => h) (by rfl) ?hy4 (by assumption) ?_
  case hy4 =>
    intro w' hSw
    try dsimp only at hSw
    go_simp
    try with_reducible rfl
  try simp only [Act.put, List.setIfInBounds_toArray, List.set_cons_zero, List.set_cons_succ]
  refine h_take 5 (v := ?v5) rfl (by kernel_rfl) (by kernel_rfl) (by kernel_rfl) (fun _ _ _ h => h) (by rfl) ?hy5 (by assumption) ?_
  case hy5 =>
    intro w' hSw
    try dsimp only at hSw
    go_simp
    try with_reducible rfl
  try simp only [Act.put, List.setIfInBounds_toArray, List.set_cons_zero, List.set_cons_succ]
  refine h_take 6 (v := ?v6) rfl (by kernel_rfl) (by kernel_rfl) (by kernel_rfl) (fun _ _ _ h => h) (by rfl) ?hy6 (by assumption) ?_
  case hy6 =>
    intro w' hSw
    try dsimp only at hSw
    go_simp
    try with_reducible rfl
  try simp only [Act.put, List.setIfInBounds_toArray, List.set_cons_zero, List.set_cons_succ]
  refine h_take 7 (v := ?v7) rfl (by kernel_rfl) (by kernel_rfl) (by kernel_rfl) (fun _ _ _ h => h) (by rfl) ?hy7 (by assumption) ?_
  case hy7 =>
    intro w' hSw
    try dsimp only at hSw
    go_simp
    try with_reducible rfl
  try simp only [Act.put, List.setIfInBounds_toArray, List.set_cons_zero, List.set_cons_succ]
  refine h_take 8 (v := ?v8) rfl (by kernel_rfl) (by kernel_rfl) (by kernel_rfl) (fun _ _ _ h => h) (by rfl) ?hy8 (by assumption) ?_
  case hy8 =>
    intro w' hSw
    try dsimp only at hSw
    go_simp
    try with_reducible rfl
  try simp only [Act.put, List.setIfInBounds_toArray, List.set_cons_zero, List.set_cons_succ]
  refine h_take 9 (v := ?v9) rfl (by kernel_rfl) (by kernel_rfl) (by kernel_rfl) (fun _ _ _ h => h) (by rfl) ?hy9 (by assumption) ?_
  case hy9 =>
    intro w' hSw
    try dsimp only at hSw
    go_simp
    try with_reducible rfl
  try simp only [Act.put, List.setIfInBounds_toArray, List.set_cons_zero, List.set_cons_succ]
  refine h_call 10 rfl (by kernel_rfl) (by rfl) (fun Kk hK => ?_)
  go_simp
  (refine (KB.out _ _ T_9'.out).mono ?_)
  rintro e v10 ⟨v, rfl, hn, g⟩
  obtain ⟨Ba, Bc, Bd, rfl⟩ := hn.shape
  have B_10 : Hid (Num v10 (.slice Ba Bc Bd) (MM)) := hn
  clear hn
  have A_10 : Hid (Bl5 v10 w.heap.size x0 x1 x2 x3 x4) := A_9'.out.below g
  have R_10 : Hid (Bl5 v10 v5.heap.size 0 0 0 0 0) := R_9'.out.below g
  have Y_10 : Hid (Bl5 v10 v8.heap.size y0 y1 y2 y3 y4) := Y_9'.out.below g
  have S_10 : Hid (SK .u8 v10 (.slice a0 l0.length d0) l0) := S_9'.out.below g
  have T_10 : Hid (SK .u8 v10 (.slice a1 l1.length d1) l1) := T_9'.out.below g
  have U_10 : Hid (Num v10 (.slice Ua Uc Ud) (NN)) := U_9'.out.below g
  have Z_10 : Hid (Gl v10) := Z_9'.out.grown g
  have G_10 : Hid (Below w.heap.size w v10) := G_9'.out.trans (g.mono G_9'.out.size)
  clear g K
  have K : v10.cell? ⟨v8.heap.size, 0, none⟩ = some (.int .u64 y0) ∧ v10.cell? ⟨v8.heap.size, 1, none⟩ = some (.int .u64 y1) ∧ v10.cell? ⟨v8.heap.size, 2, none⟩ = some (.int .u64 y2) ∧ v10.cell? ⟨v8.heap.size, 3, none⟩ = some (.int .u64 y3) ∧ v10.cell? ⟨v8.heap.size, 4, none⟩ = some (.int .u64 y4) := ⟨Y_10.out.c0, Y_10.out.c1, Y_10.out.c2, Y_10.out.c3, Y_10.out.c4⟩
  go_wp2_with fail
  clear hHeld
  refine hK.out _ _ K (fun hHeld => ?_)
  clear hK Kk
  try simp only [Act.put, List.setIfInBounds_toArray, List.set_cons_zero, List.set_cons_succ]
  refine h_call 11 rfl (by kernel_rfl) (by rfl) (fun Kk hK => ?_)
  go_simp
  (refine (KM.out _ _ B_10.out).mono ?_)
  rintro e v11 ⟨v, rfl, hn, g⟩
  obtain ⟨Da, Dc, Dd, rfl⟩ := hn.shape
  have D_11 : Hid (Num v11 (.slice Da Dc Dd) (MM % P25)) := hn
  clear hn
  have A_11 : Hid (Bl5 v11 w.heap.size x0 x1 x2 x3 x4) := A_10.out.below g
  have R_11 : Hid (Bl5 v11 v5.heap.size 0 0 0 0 0) := R_10.out.below g
  have Y_11 : Hid (Bl5 v11 v8.heap.size y0 y1 y2 y3 y4) := Y_10.out.below g
  have S_11 : Hid (SK .u8 v11 (.slice a0 l0.length d0) l0) := S_10.out.below g
  have T_11 : Hid (SK .u8 v11 (.slice a1 l1.length d1) l1) := T_10.out.below g
  have U_11 : Hid (Num v11 (.slice Ua Uc Ud) (NN)) := U_10.out.below g
  have B_11 : Hid (Num v11 (.slice Ba Bc Bd) (MM)) := B_10.out.below g
  have Z_11 : Hid (Gl v11) := Z_10.out.grown g
  have G_11 : Hid (Below w.heap.size w v11) := G_10.out.trans (g.mono G_10.out.size)
  clear g K
  have K : v11.cell? ⟨v8.heap.size, 0, none⟩ = some (.int .u64 y0) ∧ v11.cell? ⟨v8.heap.size, 1, none⟩ = some (.int .u64 y1) ∧ v11.cell? ⟨v8.heap.size, 2, none⟩ = some (.int .u64 y2) ∧ v11.cell? ⟨v8.heap.size, 3, none⟩ = some (.int .u64 y3) ∧ v11.cell? ⟨v8.heap.size, 4, none⟩ = some (.int .u64 y4) := ⟨Y_11.out.c0, Y_11.out.c1, Y_11.out.c2, Y_11.out.c3, Y_11.out.c4⟩
  go_wp2_with fail
  clear hHeld
  refine hK.out _ _ K (fun hHeld => ?_)
  clear hK Kk
  try simp only [Act.put, List.setIfInBounds_toArray, List.set_cons_zero, List.set_cons_succ]
  refine h_call 12 rfl (by kernel_rfl) (by rfl) (fun Kk hK => ?_)
  go_simp
  (refine (IY.out _ _ D_11.out).mono ?_)
  rintro e v12 ⟨rfl, g⟩
  have A_12 : Hid (Bl5 v12 w.heap.size x0 x1 x2 x3 x4) := A_11.out.below g
  have R_12 : Hid (Bl5 v12 v5.heap.size 0 0 0 0 0) := R_11.out.below g
  have Y_12 : Hid (Bl5 v12 v8.heap.size y0 y1 y2 y3 y4) := Y_11.out.below g
  have S_12 : Hid (SK .u8 v12 (.slice a0 l0.length d0) l0) := S_11.out.below g
  have T_12 : Hid (SK .u8 v12 (.slice a1 l1.length d1) l1) := T_11.out.below g
  have U_12 : Hid (Num v12 (.slice Ua Uc Ud) (NN)) := U_11.out.below g
  have B_12 : Hid (Num v12 (.slice Ba Bc Bd) (MM)) := B_11.out.below g
  have D_12 : Hid (Num v12 (.slice Da Dc Dd) (MM % P25)) := D_11.out.below g
  have Z_12 : Hid (Gl v12) := Z_11.out.grown g
  have G_12 : Hid (Below w.heap.size w v12) := G_11.out.trans (g.mono G_11.out.size)
  clear g K
  have K : v12.cell? ⟨v8.heap.size, 0, none⟩ = some (.int .u64 y0) ∧ v12.cell? ⟨v8.heap.size, 1, none⟩ = some (.int .u64 y1) ∧ v12.cell? ⟨v8.heap.size, 2, none⟩ = some (.int .u64 y2) ∧ v12.cell? ⟨v8.heap.size, 3, none⟩ = some (.int .u64 y3) ∧ v12.cell? ⟨v8.heap.size, 4, none⟩ = some (.int .u64 y4) := ⟨Y_12.out.c0, Y_12.out.c1, Y_12.out.c2, Y_12.out.c3, Y_12.out.c4⟩
  go_wp2_with fail
  clear hHeld
  refine hK.out _ _ K (fun hHeld => ?_)
  clear hK Kk
  try simp only [Act.put, List.setIfInBounds_toArray, List.set_cons_zero, List.set_cons_succ]
  refine h_take 13 (v := ?v13) rfl (by kernel_rfl) (by kernel_rfl) (by kernel_rfl) (fun _ _ _ h => h) (by rfl) ?hy13 (by assumption) ?_
  case hy13 =>
    intro w' hSw
    try dsimp only at hSw
    go_simp
    try with_reducible rfl
  try simp only [Act.put, List.setIfInBounds_toArray, List.set_cons_zero, List.set_cons_succ]
  refine h_take 14 (v := ?v14) rfl (by kernel_rfl) (by kernel_rfl) (by kernel_rfl) (fun _ _ _ h => h) (by rfl) ?hy14 (by assumption) ?_
  case hy14 =>
    intro w' hSw
    try dsimp only at hSw
    go_simp
    try with_reducible rfl
  try simp only [Act.put, List.setIfInBounds_toArray, List.set_cons_zero, List.set_cons_succ]
  refine h_take 15 (v := ?v15) rfl (by kernel_rfl) (by kernel_rfl) (by kernel_rfl) (fun _ _ _ h => h) (by rfl) ?hy15 (by assumption) ?_
  case hy15 =>
    intro w' hSw
    try dsimp only at hSw
    go_simp
    try with_reducible rfl
  try simp only [Act.put, List.setIfInBounds_toArray, List.set_cons_zero, List.set_cons_succ]
  refine h_take 16 (v := ?v16) rfl (by kernel_rfl) (by kernel_rfl) (by kernel_rfl) (fun _ _ _ h => h) (by rfl) ?hy16 (by assumption) ?_
  case hy16 =>
    intro w' hSw
    try dsimp only at hSw
    go_simp
    try with_reducible rfl
  try simp only [Act.put, List.setIfInBounds_toArray, List.set_cons_zero, List.set_cons_succ]
  refine h_take 17 (v := ?v17) rfl (by kernel_rfl) (by kernel_rfl) (by kernel_rfl) (fun _ _ _ h => h) (by rfl) ?hy17 (by assumption) ?_
  case hy17 =>
    intro w' hSw
    try dsimp only at hSw
    go_simp
    try with_reducible rfl
  try simp only [Act.put, List.setIfInBounds_toArray, List.set_cons_zero, List.set_cons_succ]
  refine h_take 18 (v := ?v18) rfl (by kernel_rfl) (by kernel_rfl) (by kernel_rfl) (fun _ _ _ h => h) (by rfl) ?hy18 (by assumption) ?_
  case hy18 =>
    intro w' hSw
    try dsimp only at hSw
    go_simp
    try with_reducible rfl
  try simp only [Act.put, List.setIfInBounds_toArray, List.set_cons_zero, List.set_cons_succ]
  refine h_take 19 (v := ?v19) rfl (by kernel_rfl) (by kernel_rfl) (by kernel_rfl) (fun _ _ _ h => h) (by rfl) ?hy19 (by assumption) ?_
  case hy19 =>
    intro w' hSw
    try dsimp only at hSw
    go_simp
    try with_reducible rfl
  try simp only [Act.put, List.setIfInBounds_toArray, List.set_cons_zero, List.set_cons_succ]
  refine h_skip 20 rfl (by kernel_rfl) (by kernel_rfl) (by kernel_rfl) (fun _ _ _ h => h) (by rfl) (by assumption) ?_
  try simp only [Act.put, List.setIfInBounds_toArray, List.set_cons_zero, List.set_cons_succ]
  refine h_skip 21 rfl (by kernel_rfl) (by kernel_rfl) (by kernel_rfl) (fun _ _ _ h => h) (by rfl) (by assumption) ?_
  try simp only [Act.put, List.setIfInBounds_toArray, List.set_cons_zero, List.set_cons_succ]
  refine h_skip 22 rfl (by kernel_rfl) (by kernel_rfl) (by kernel_rfl) (fun _ _ _ h => h) (by rfl) (by assumption) ?_
  try simp only [Act.put, List.setIfInBounds_toArray, List.set_cons_zero, List.set_cons_succ]
  refine h_take 23 (v := ?v23) rfl (by kernel_rfl) (by kernel_rfl) (by kernel_rfl) (fun _ _ _ h => h) (by rfl) ?hy23 (by assumption) ?_
  case hy23 =>
    intro w' hSw
    try dsimp only at hSw
    go_simp
    try with_reducible rfl
  try simp only [Act.put, List.setIfInBounds_toArray, List.set_cons_zero, List.set_cons_succ]
  refine h_take 24 (v := ?v24) rfl (by kernel_rfl) (by kernel_rfl) (by kernel_rfl) (fun _ _ _ h => h) (by rfl) ?hy24 (by assumption) ?_
  case hy24 =>
    intro w' hSw
    try dsimp only at hSw
    go_simp
    try with_reducible rfl
  try simp only [Act.put, List.setIfInBounds_toArray, List.set_cons_zero, List.set_cons_succ]
  refine wpAnyH_done (by kernel_rfl) ?_ _
  clear K hHeld
  have K : v12.drew.cell? ⟨w.heap.size, 0, none⟩ = some (.int .u64 x0) ∧ v12.drew.cell? ⟨w.heap.size, 1, none⟩ = some (.int .u64 x1) ∧ v12.drew.cell? ⟨w.heap.size, 2, none⟩ = some (.int .u64 x2) ∧ v12.drew.cell? ⟨w.heap.size, 3, none⟩ = some (.int .u64 x3) ∧ v12.drew.cell? ⟨w.heap.size, 4, none⟩ = some (.int .u64 x4) := ⟨A_12.out.drew.c0, A_12.out.drew.c1, A_12.out.drew.c2, A_12.out.drew.c3, A_12.out.drew.c4⟩
  have A_12' : Hid (Bl5 v12.drew w.heap.size x0 x1 x2 x3 x4) := A_12.out.drew
  have R_12' : Hid (Bl5 v12.drew v5.heap.size 0 0 0 0 0) := R_12.out.drew
  have Y_12' : Hid (Bl5 v12.drew v8.heap.size y0 y1 y2 y3 y4) := Y_12.out.drew
  have S_12' : Hid (SK .u8 v12.drew (.slice a0 l0.length d0) l0) := S_12.out.below (Below.refl _ _).drew
  have T_12' : Hid (SK .u8 v12.drew (.slice a1 l1.length d1) l1) := T_12.out.below (Below.refl _ _).drew
  have U_12' : Hid (Num v12.drew (.slice Ua Uc Ud) (NN)) := U_12.out.below (Below.refl _ _).drew
  have B_12' : Hid (Num v12.drew (.slice Ba Bc Bd) (MM)) := B_12.out.below (Below.refl _ _).drew
  have D_12' : Hid (Num v12.drew (.slice Da Dc Dd) (MM % P25)) := D_12.out.below (Below.refl _ _).drew
  have Z_12' : Hid (Gl v12.drew) := Z_12.out.grown (Below.refl _ _).drew
  have G_12' : Hid (Below w.heap.size w v12.drew) := G_12.out.drew
  go_wp2_with fail
  go_region_held3 (fun w' => w'.cell? ⟨w.heap.size, 0, none⟩ = some (.int .u64 x0) ∧ w'.cell? ⟨w.heap.size, 1, none⟩ = some (.int .u64 x1) ∧ w'.cell? ⟨w.heap.size, 2, none⟩ = some (.int .u64 x2) ∧ w'.cell? ⟨w.heap.size, 3, none⟩ = some (.int .u64 x3) ∧ w'.cell? ⟨w.heap.size, 4, none⟩ = some (.int .u64 x4)) (first | with_reducible assumption | go_keep)
    (first
      | (go_at_call 37; have gg := G_15; clear gg; (refine (SM.out _ _ _ FF_15.out TT_15.out).mono ?_); (rintro e v16 ⟨rfl, g⟩; have A_16 : Hid (Bl5 v16 w.heap.size x0 x1 x2 x3 x4) := A_15.out.below g; have R_16 : Hid (Bl5 v16 v5.heap.size 0 0 0 0 0) := R_15.out.below g; have Y_16 : Hid (Bl5 v16 v8.heap.size y0 y1 y2 y3 y4) := Y_15.out.below g; have S_16 : Hid (SK .u8 v16 (.slice a0 l0.length d0) l0) := S_15.out.below g; have T_16 : Hid (SK .u8 v16 (.slice a1 l1.length d1) l1) := T_15.out.below g; have U_16 : Hid (Num v16 (.slice Ua Uc Ud) (NN)) := U_15.out.below g; have B_16 : Hid (Num v16 (.slice Ba Bc Bd) (MM)) := B_15.out.below g; have D_16 : Hid (Num v16 (.slice Da Dc Dd) (MM % P25)) := D_15.out.below g; have FF_16 : Hid (Fil X h 32 v16) := FF_15.out.below g; have E_16 : Hid (Num v16 (.slice Ea Ec Ed) (X)) := E_15.out.below g; have TT_16 : Hid (SK .u8 v16 (.slice ta (leB X 32).length td) (leB X 32)) := TT_15.out.below g; have Z_16 : Hid (Gl v16) := Z_15.out.grown g; have G_16 : Hid (Below w.heap.size w v16) := G_15.out.trans (g.mono G_15.out.size); clear g; clear K; have K : v16.cell? ⟨w.heap.size, 0, none⟩ = some (.int .u64 x0) ∧ v16.cell? ⟨w.heap.size, 1, none⟩ = some (.int .u64 x1) ∧ v16.cell? ⟨w.heap.size, 2, none⟩ = some (.int .u64 x2) ∧ v16.cell? ⟨w.heap.size, 3, none⟩ = some (.int .u64 x3) ∧ v16.cell? ⟨w.heap.size, 4, none⟩ = some (.int .u64 x4) := ⟨A_16.out.c0, A_16.out.c1, A_16.out.c2, A_16.out.c3, A_16.out.c4⟩))
      | (go_at_call 39; have gg := G_14; clear gg; (refine (TL.out _ _ E_14.out).mono ?_); (rintro e v15 ⟨v, rfl, hf, g⟩; obtain ⟨ta, td, rfl⟩ := hf.shape; have TT_15 : Hid (SK .u8 v15 (.slice ta (leB X 32).length td) (leB X 32)) := hf; clear hf; have A_15 : Hid (Bl5 v15 w.heap.size x0 x1 x2 x3 x4) := A_14.out.below g; have R_15 : Hid (Bl5 v15 v5.heap.size 0 0 0 0 0) := R_14.out.below g; have Y_15 : Hid (Bl5 v15 v8.heap.size y0 y1 y2 y3 y4) := Y_14.out.below g; have S_15 : Hid (SK .u8 v15 (.slice a0 l0.length d0) l0) := S_14.out.below g; have T_15 : Hid (SK .u8 v15 (.slice a1 l1.length d1) l1) := T_14.out.below g; have U_15 : Hid (Num v15 (.slice Ua Uc Ud) (NN)) := U_14.out.below g; have B_15 : Hid (Num v15 (.slice Ba Bc Bd) (MM)) := B_14.out.below g; have D_15 : Hid (Num v15 (.slice Da Dc Dd) (MM % P25)) := D_14.out.below g; have FF_15 : Hid (Fil X h 32 v15) := FF_14.out.below g; have E_15 : Hid (Num v15 (.slice Ea Ec Ed) (X)) := E_14.out.below g; have Z_15 : Hid (Gl v15) := Z_14.out.grown g; have G_15 : Hid (Below w.heap.size w v15) := G_14.out.trans (g.mono G_14.out.size); clear g; clear K; have K : v15.cell? ⟨w.heap.size, 0, none⟩ = some (.int .u64 x0) ∧ v15.cell? ⟨w.heap.size, 1, none⟩ = some (.int .u64 x1) ∧ v15.cell? ⟨w.heap.size, 2, none⟩ = some (.int .u64 x2) ∧ v15.cell? ⟨w.heap.size, 3, none⟩ = some (.int .u64 x3) ∧ v15.cell? ⟨w.heap.size, 4, none⟩ = some (.int .u64 x4) := ⟨A_15.out.c0, A_15.out.c1, A_15.out.c2, A_15.out.c3, A_15.out.c4⟩))
      | (go_at_call 10; have gg := G_13; clear gg; (refine (OX.out _).mono ?_); (rintro e v14 ⟨v, rfl, hn, g⟩; obtain ⟨Ea, Ec, Ed, rfl⟩ := hn.shape; have E_14 : Hid (Num v14 (.slice Ea Ec Ed) (X)) := hn; clear hn; have A_14 : Hid (Bl5 v14 w.heap.size x0 x1 x2 x3 x4) := A_13.out.below g; have R_14 : Hid (Bl5 v14 v5.heap.size 0 0 0 0 0) := R_13.out.below g; have Y_14 : Hid (Bl5 v14 v8.heap.size y0 y1 y2 y3 y4) := Y_13.out.below g; have S_14 : Hid (SK .u8 v14 (.slice a0 l0.length d0) l0) := S_13.out.below g; have T_14 : Hid (SK .u8 v14 (.slice a1 l1.length d1) l1) := T_13.out.below g; have U_14 : Hid (Num v14 (.slice Ua Uc Ud) (NN)) := U_13.out.below g; have B_14 : Hid (Num v14 (.slice Ba Bc Bd) (MM)) := B_13.out.below g; have D_14 : Hid (Num v14 (.slice Da Dc Dd) (MM % P25)) := D_13.out.below g; have FF_14 : Hid (Fil X h 32 v14) := FF_13.out.below g; have Z_14 : Hid (Gl v14) := Z_13.out.grown g; have G_14 : Hid (Below w.heap.size w v14) := G_13.out.trans (g.mono G_13.out.size); clear g; clear K; have K : v14.cell? ⟨w.heap.size, 0, none⟩ = some (.int .u64 x0) ∧ v14.cell? ⟨w.heap.size, 1, none⟩ = some (.int .u64 x1) ∧ v14.cell? ⟨w.heap.size, 2, none⟩ = some (.int .u64 x2) ∧ v14.cell? ⟨w.heap.size, 3, none⟩ = some (.int .u64 x3) ∧ v14.cell? ⟨w.heap.size, 4, none⟩ = some (.int .u64 x4) := ⟨A_14.out.c0, A_14.out.c1, A_14.out.c2, A_14.out.c3, A_14.out.c4⟩))
      | (go_at_call 38; have gg := G_12'; clear gg; (refine (KX.out _).mono ?_); (rintro e v13 ⟨h, rfl, hf, -, g⟩; have FF_13 : Hid (Fil X h 32 v13) := hf; clear hf; have A_13 : Hid (Bl5 v13 w.heap.size x0 x1 x2 x3 x4) := A_12'.out.below g; have R_13 : Hid (Bl5 v13 v5.heap.size 0 0 0 0 0) := R_12'.out.below g; have Y_13 : Hid (Bl5 v13 v8.heap.size y0 y1 y2 y3 y4) := Y_12'.out.below g; have S_13 : Hid (SK .u8 v13 (.slice a0 l0.length d0) l0) := S_12'.out.below g; have T_13 : Hid (SK .u8 v13 (.slice a1 l1.length d1) l1) := T_12'.out.below g; have U_13 : Hid (Num v13 (.slice Ua Uc Ud) (NN)) := U_12'.out.below g; have B_13 : Hid (Num v13 (.slice Ba Bc Bd) (MM)) := B_12'.out.below g; have D_13 : Hid (Num v13 (.slice Da Dc Dd) (MM % P25)) := D_12'.out.below g; have Z_13 : Hid (Gl v13) := Z_12'.out.grown g; have G_13 : Hid (Below w.heap.size w v13) := G_12'.out.trans (g.mono G_12'.out.size); clear g; clear K; have K : v13.cell? ⟨w.heap.size, 0, none⟩ = some (.int .u64 x0) ∧ v13.cell? ⟨w.heap.size, 1, none⟩ = some (.int .u64 x1) ∧ v13.cell? ⟨w.heap.size, 2, none⟩ = some (.int .u64 x2) ∧ v13.cell? ⟨w.heap.size, 3, none⟩ = some (.int .u64 x3) ∧ v13.cell? ⟨w.heap.size, 4, none⟩ = some (.int .u64 x4) := ⟨A_13.out.c0, A_13.out.c1, A_13.out.c2, A_13.out.c3, A_13.out.c4⟩))
      | fail)
  clear K 
  go_wp2_with fail
  go_ret
  exact ⟨rfl, G_16.out⟩

set_option maxRecDepth 100000 in
set_option maxHeartbeats 16000000 in
theorem fbyt_2n (l0 l1 : List Nat) (hb0 : Bb l0) (hb1 : Bb l1) (v0 v1 : Value) (x : L5) (hx : x.Wds) (hm : l0.length ≤ 100) (hl : l1.length ≤ 100) (ht : x.Tm) (c1 : ¬ l0.length = 32) (c2 : True) (c3 : ¬ l1.length ≤ 64) (w : World) (h0 : SK .u8 w v0 l0) (h1 : SK .u8 w v1 l1) (hg : Gl w) : Calls Tryd.prog 6 #[v0, v1, .agg #[.int .u64 x.l0, .int .u64 x.l1, .int .u64 x.l2, .int .u64 x.l3, .int .u64 x.l4]] w fun e w' => e = .returned (.bool true) ∧ Below w.heap.size w w' := by
  have HG : Hid (Gl w) := hg
  have hs0 : Hid (SK .u8 w v0 l0) := h0
  have hs1 : Hid (SK .u8 w v1 l1) := h1
  have kw : Hid (∀ W, Gl W → Calls Tryd.prog 8 #[] W fun e w' => e = .returned (.bool true) ∧ Below W.heap.size W w') := fun W h => awake4_any W h
  have HE : Hid (∀ W : World, Els (W.alloc (.cells #[.int .u64 x.l0, .int .u64 x.l1, .int .u64 x.l2, .int .u64 x.l3, .int .u64 x.l4] 24)) W.heap.size 1 (fun _ => x)) := fun W => els_one W x
  have gl := hg.lt
  obtain ⟨a0, d0, rfl⟩ := h0.shape
  obtain ⟨a1, d1, rfl⟩ := h1.shape
  have hm' : ¬ (100 : Int) < (l0.length : Int) := by omega
  have hl' : ¬ (100 : Int) < (l1.length : Int) := by omega
  have kt' : ∀ W g, Els W g 1 (fun _ => x) → Calls Tryd.prog 9 #[.slice (some ⟨g, 0, none⟩) 1 1] W fun e w' => e = .returned (.bool true) ∧ Below W.heap.size W w' := fun W g h => tame_any (fun _ => x) 1 g (by omega) (fun _ _ => hx) W h true ⟨fun _ _ _ => ht, fun _ => rfl⟩
  obtain ⟨z, ok, eo, e1, e2, kO⟩ := of_all l0 hb0
  have KL : Hid (∀ v w, SK .u8 w v l0 → Calls Tryd.prog 32 #[v] w fun e w' => ∃ v, e = .returned v ∧ Num w' v (hvN (turn l0) l0.length) ∧ Below w.heap.size w w') := fun v w h => littleN_any l0 hb0 v w h (by omega)
  rw [decide_eq_false (fun h => c1 h.1)] at eo
  subst eo
  have ez := e2 rfl
  subst ez
  have NZ := neq5 0 0 0 0 0
  have c1' : ¬ (l0.length : Int) = 32 := by omega
  have c3' : ¬ (l1.length : Int) ≤ 64 := by omega
  have hd : decide ((l1.length : Int) ≤ 64) = false := decide_eq_false c3'
  have NY := neq5 0 0 0 0 0
  have kW : ∀ w, Calls Tryd.prog 34 #[.slice a1 l1.length d1] w fun e w' => e = .returned (.tuple #[.agg #[.int .u64 0, .int .u64 0, .int .u64 0, .int .u64 0, .int .u64 0], .bool false]) ∧ Below w.heap.size w w' := fun w => wide_no a1 l1.length d1 (by omega) w
  have kx := bytes_fe x ht
  have ox := of_nn x ht
  have hX := Nat.lt_trans x.nn_lt P25_lt22
  generalize x.nn = X at *
  generalize hvN (turn l0) l0.length = NN at *
  generalize hvN l1 l1.length = MM at *
  have TL : Hid (∀ v w, Num w v X → Calls Tryd.prog 39 #[v, .int .i64 32] w fun e w' => ∃ v, e = .returned v ∧ SK .u8 w' v (leB X 32) ∧ Below w.heap.size w w') := fun v w h => toLittle32 X v w h 22 hX (by omega)
  have SM : Hid (∀ g v w, Fil X g 32 w → SK .u8 w v (leB X 32) → Calls Tryd.prog 37 #[.slice (some ⟨g, 0, none⟩) 32 32, v] w fun e w' => e = .returned (.bool true) ∧ Below w.heap.size w w') := fun g v w h h' => same32 X g v w h h'
  clear hg h0 h1 hx ht hb0 hb1 hm hl c1 c2 c3 e1 e2 hX
  obtain ⟨x0, x1, x2, x3, x4⟩ := x
  dsimp only at kt' kO kx ox HE ⊢
  have KO : Hid (∀ v w, SK .u8 w v l0 → Calls Tryd.prog 31 #[v] w fun e w' => e = .returned (.tuple #[.agg #[.int .u64 0, .int .u64 0, .int .u64 0, .int .u64 0, .int .u64 0], .bool false]) ∧ Below w.heap.size w w') := kO
  have KW : Hid (∀ w, Calls Tryd.prog 34 #[.slice a1 l1.length d1] w fun e w' => e = .returned (.tuple #[.agg #[.int .u64 0, .int .u64 0, .int .u64 0, .int .u64 0, .int .u64 0], .bool false]) ∧ Below w.heap.size w w') := kW
  have OX : Hid (∀ w, Calls Tryd.prog 10 #[.agg #[.int .u64 x0, .int .u64 x1, .int .u64 x2, .int .u64 x3, .int .u64 x4]] w fun e w' => ∃ v, e = .returned v ∧ Num w' v X ∧ Below w.heap.size w w') := ox
  have KX : Hid (∀ w, Calls Tryd.prog 38 #[.agg #[.int .u64 x0, .int .u64 x1, .int .u64 x2, .int .u64 x3, .int .u64 x4]] w fun e w' => ∃ g, e = .returned (.slice (some ⟨g, 0, none⟩) 32 32) ∧ Fil X g 32 w' ∧ w.heap.size ≤ g ∧ Below w.heap.size w w') := kx
  have Kt : Hid (∀ W g, Els W g 1 (fun _ => ⟨x0, x1, x2, x3, x4⟩) → Calls Tryd.prog 9 #[.slice (some ⟨g, 0, none⟩) 1 1] W fun e w' => e = .returned (.bool true) ∧ Below W.heap.size W w') := kt'
  clear kt' kO kx ox kW
  go_enter Tryd.func6, Tryd.ntmps6
  go_wp2_with fail
  refine calls_at (fun V => Bl5 V w.heap.size x0 x1 x2 x3 x4 ∧ SK .u8 V (.slice a0 l0.length d0) l0 ∧ SK .u8 V (.slice a1 l1.length d1) l1 ∧ Gl V ∧ Below w.heap.size w V) ⟨?_, ?_, ?_, ?_, ?_⟩ ?_
  · (repeat (first | refine Bl5.drew ?_ | refine Bl5.drewN ?_ _ | (refine Bl5.new _ _ _ _ _ _ _ _ ?_; simp; done) | refine Bl5.alloc ?_ _))
  · exact hs0.out.below ((Below.refl _ _).alloc (Nat.le_refl _) _)
  · exact hs1.out.below ((Below.refl _ _).alloc (Nat.le_refl _) _)
  · refine Gl.grown HG.out ?_
    (repeat (first | exact Below.refl _ _ | refine Below.drew ?_ | refine below_drewN ?_ _ | refine Below.alloc ?_ (by simp <;> omega) _))
  · (repeat (first | exact Below.refl _ _ | refine Below.drew ?_ | refine below_drewN ?_ _ | refine Below.alloc ?_ (by simp <;> omega) _ | refine Below.setCell ?_ (by simp <;> omega) _))
  rintro v1 ⟨k0, k1, k2, k3, k4⟩
  have A_1 : Hid (Bl5 v1 w.heap.size x0 x1 x2 x3 x4) := k0
  have S_1 : Hid (SK .u8 v1 (.slice a0 l0.length d0) l0) := k1
  have T_1 : Hid (SK .u8 v1 (.slice a1 l1.length d1) l1) := k2
  have Z_1 : Hid (Gl v1) := k3
  have G_1 : Hid (Below w.heap.size w v1) := k4
  clear k0 k1 k2 k3 k4
  refine (kw.out _ Z_1.out).mono ?_
  rintro e v2 ⟨rfl, g⟩
  have A_2 : Hid (Bl5 v2 w.heap.size x0 x1 x2 x3 x4) := A_1.out.below g
  have S_2 : Hid (SK .u8 v2 (.slice a0 l0.length d0) l0) := S_1.out.below g
  have T_2 : Hid (SK .u8 v2 (.slice a1 l1.length d1) l1) := T_1.out.below g
  have Z_2 : Hid (Gl v2) := Z_1.out.grown g
  have G_2 : Hid (Below w.heap.size w v2) := G_1.out.trans (g.mono G_1.out.size)
  clear A_1 S_1 T_1 Z_1 G_1 g
  obtain ⟨cal, ca0, ca1, ca2, ca3, ca4, caf⟩ := A_2.out
  go_wp2_with fail
  clear cal ca0 ca1 ca2 ca3 ca4 caf
  refine calls_at (fun V => Els V v2.heap.size 1 (fun _ => ⟨x0, x1, x2, x3, x4⟩) ∧ Bl5 V w.heap.size x0 x1 x2 x3 x4 ∧ SK .u8 V (.slice a0 l0.length d0) l0 ∧ SK .u8 V (.slice a1 l1.length d1) l1 ∧ Gl V ∧ Below w.heap.size w V) ⟨HE.out v2, A_2.out.alloc _, S_2.out.below ((Below.refl _ _).alloc (Nat.le_refl _) _), T_2.out.below ((Below.refl _ _).alloc (Nat.le_refl _) _), Z_2.out.grown ((Below.refl _ _).alloc (Nat.le_refl _) _), G_2.out.alloc G_2.out.size _⟩ ?_
  rintro v3 ⟨hE, kA, kS, kT, kZ, kG⟩
  have A_3 : Hid (Bl5 v3 w.heap.size x0 x1 x2 x3 x4) := kA
  have S_3 : Hid (SK .u8 v3 (.slice a0 l0.length d0) l0) := kS
  have T_3 : Hid (SK .u8 v3 (.slice a1 l1.length d1) l1) := kT
  have Z_3 : Hid (Gl v3) := kZ
  have G_3 : Hid (Below w.heap.size w v3) := kG
  have hE' : Hid (Els v3 v2.heap.size 1 (fun _ => ⟨x0, x1, x2, x3, x4⟩)) := hE
  clear hE kA kS kT kZ kG A_2 S_2 T_2 Z_2 G_2
  refine (Kt.out _ _ hE'.out).mono ?_
  rintro e v4 ⟨rfl, g⟩
  have A_4 : Hid (Bl5 v4 w.heap.size x0 x1 x2 x3 x4) := A_3.out.below g
  have S_4 : Hid (SK .u8 v4 (.slice a0 l0.length d0) l0) := S_3.out.below g
  have T_4 : Hid (SK .u8 v4 (.slice a1 l1.length d1) l1) := T_3.out.below g
  have Z_4 : Hid (Gl v4) := Z_3.out.grown g
  have G_4 : Hid (Below w.heap.size w v4) := G_3.out.trans (g.mono G_3.out.size)
  clear A_3 S_3 T_3 Z_3 G_3 g
  clear hE'
  go_wp2_with fail
  refine (KO.out _ _ S_4.out).mono ?_
  rintro e v5 ⟨rfl, g⟩
  have A_5 : Hid (Bl5 v5 w.heap.size x0 x1 x2 x3 x4) := A_4.out.below g
  have S_5 : Hid (SK .u8 v5 (.slice a0 l0.length d0) l0) := S_4.out.below g
  have T_5 : Hid (SK .u8 v5 (.slice a1 l1.length d1) l1) := T_4.out.below g
  have Z_5 : Hid (Gl v5) := Z_4.out.grown g
  have G_5 : Hid (Below w.heap.size w v5) := G_4.out.trans (g.mono G_4.out.size)
  clear A_4 S_4 T_4 Z_4 G_4 g
  go_wp2_with fail
  have szR : w.heap.size ≤ v5.heap.size := G_5.out.size
  have nbRA : ¬ (v5.heap.size = w.heap.size) := by have := A_5.out.lt; omega
  refine calls_at (fun V => Bl5 V w.heap.size x0 x1 x2 x3 x4 ∧ SK .u8 V (.slice a0 l0.length d0) l0 ∧ SK .u8 V (.slice a1 l1.length d1) l1 ∧ Gl V ∧ Bl5 V v5.heap.size 0 0 0 0 0 ∧ Below w.heap.size w V) ⟨A_5.out.alloc _, S_5.out.below ((Below.refl _ _).alloc (Nat.le_refl _) _), T_5.out.below ((Below.refl _ _).alloc (Nat.le_refl _) _), Z_5.out.grown ((Below.refl _ _).alloc (Nat.le_refl _) _), Bl5.new v5 _ _ _ _ _ _ _ rfl, G_5.out.alloc G_5.out.size _⟩ ?_
  rintro v6 ⟨k0, k1, k2, k3, k4, k5⟩
  have A_6 : Hid (Bl5 v6 w.heap.size x0 x1 x2 x3 x4) := k0
  have S_6 : Hid (SK .u8 v6 (.slice a0 l0.length d0) l0) := k1
  have T_6 : Hid (SK .u8 v6 (.slice a1 l1.length d1) l1) := k2
  have Z_6 : Hid (Gl v6) := k3
  have R_6 : Hid (Bl5 v6 v5.heap.size 0 0 0 0 0) := k4
  have G_6 : Hid (Below w.heap.size w v6) := k5
  clear k0 k1 k2 k3 k4 k5 A_5 S_5 T_5 Z_5 G_5
  refine (KL.out _ _ S_6.out).mono ?_
  rintro e v7 ⟨v, rfl, hn, g⟩
  obtain ⟨Ua, Uc, Ud, rfl⟩ := hn.shape
  have U_7 : Hid (Num v7 (.slice Ua Uc Ud) (NN)) := hn
  have A_7 : Hid (Bl5 v7 w.heap.size x0 x1 x2 x3 x4) := A_6.out.below g
  have R_7 : Hid (Bl5 v7 v5.heap.size 0 0 0 0 0) := R_6.out.below g
  have S_7 : Hid (SK .u8 v7 (.slice a0 l0.length d0) l0) := S_6.out.below g
  have T_7 : Hid (SK .u8 v7 (.slice a1 l1.length d1) l1) := T_6.out.below g
  have Z_7 : Hid (Gl v7) := Z_6.out.grown g
  have G_7 : Hid (Below w.heap.size w v7) := G_6.out.trans (g.mono G_6.out.size)
  clear A_6 R_6 S_6 T_6 Z_6 G_6 g hn
  obtain ⟨crl, cr0, cr1, cr2, cr3, cr4, crf⟩ := R_7.out
  go_wp2_with fail
  refine (KW.out _).mono ?_
  rintro e v8 ⟨rfl, g⟩
  clear crl cr0 cr1 cr2 cr3 cr4 crf
  have A_8 : Hid (Bl5 v8 w.heap.size x0 x1 x2 x3 x4) := A_7.out.below g
  have R_8 : Hid (Bl5 v8 v5.heap.size 0 0 0 0 0) := R_7.out.below g
  have S_8 : Hid (SK .u8 v8 (.slice a0 l0.length d0) l0) := S_7.out.below g
  have T_8 : Hid (SK .u8 v8 (.slice a1 l1.length d1) l1) := T_7.out.below g
  have U_8 : Hid (Num v8 (.slice Ua Uc Ud) (NN)) := U_7.out.below g
  have Z_8 : Hid (Gl v8) := Z_7.out.grown g
  have G_8 : Hid (Below w.heap.size w v8) := G_7.out.trans (g.mono G_7.out.size)
  clear A_7 R_7 S_7 T_7 U_7 Z_7 G_7 g
  go_wp2_with fail
  have szY : w.heap.size ≤ v8.heap.size := G_8.out.size
  have nbYA : ¬ (v8.heap.size = w.heap.size) := by have := A_8.out.lt; omega
  have nbYR : ¬ (v8.heap.size = v5.heap.size) := by have := R_8.out.lt; omega
  refine wp_cut (fun V => Bl5 V w.heap.size x0 x1 x2 x3 x4 ∧ Bl5 V v5.heap.size 0 0 0 0 0 ∧ SK .u8 V (.slice a0 l0.length d0) l0 ∧ SK .u8 V (.slice a1 l1.length d1) l1 ∧ Num V (.slice Ua Uc Ud) (NN) ∧ Gl V ∧ Bl5 V v8.heap.size 0 0 0 0 0 ∧ Below w.heap.size w V) ⟨A_8.out.alloc _, R_8.out.alloc _, S_8.out.below ((Below.refl _ _).alloc (Nat.le_refl _) _), T_8.out.below ((Below.refl _ _).alloc (Nat.le_refl _) _), U_8.out.below ((Below.refl _ _).alloc (Nat.le_refl _) _), Z_8.out.grown ((Below.refl _ _).alloc (Nat.le_refl _) _), Bl5.new v8 _ _ _ _ _ _ _ rfl, G_8.out.alloc G_8.out.size _⟩ ?_
  rintro v9 ⟨k0, k1, k2, k3, k4, k5, k6, k7⟩
  have A_9 : Hid (Bl5 v9 w.heap.size x0 x1 x2 x3 x4) := k0
  have R_9 : Hid (Bl5 v9 v5.heap.size 0 0 0 0 0) := k1
  have S_9 : Hid (SK .u8 v9 (.slice a0 l0.length d0) l0) := k2
  have T_9 : Hid (SK .u8 v9 (.slice a1 l1.length d1) l1) := k3
  have U_9 : Hid (Num v9 (.slice Ua Uc Ud) (NN)) := k4
  have Z_9 : Hid (Gl v9) := k5
  have Y_9 : Hid (Bl5 v9 v8.heap.size 0 0 0 0 0) := k6
  have G_9 : Hid (Below w.heap.size w v9) := k7
  clear k0 k1 k2 k3 k4 k5 k6 k7 A_8 R_8 S_8 T_8 U_8 Z_8 G_8
  obtain ⟨cyl, cy0, cy1, cy2, cy3, cy4, cyf⟩ := Y_9.out
  refine wp_region_ext (by kernel_rfl) (by kernel_rfl) ?_
  repeat (go_big_quiet_step ((first
  
    | fail)))
  refine wpQuiet_nil ?_
  intro W1 hw
  obtain ⟨m, rfl⟩ := hw
  have g := ext_below v9 m
  obtain ⟨v10, hW⟩ : ∃ V, ext v9 m = V := ⟨_, rfl⟩
  rw [hW] at g ⊢
  clear hW
  clear cyl cy0 cy1 cy2 cy3 cy4 cyf
  have A_10 : Hid (Bl5 v10 w.heap.size x0 x1 x2 x3 x4) := A_9.out.below g
  have R_10 : Hid (Bl5 v10 v5.heap.size 0 0 0 0 0) := R_9.out.below g
  have Y_10 : Hid (Bl5 v10 v8.heap.size 0 0 0 0 0) := Y_9.out.below g
  have S_10 : Hid (SK .u8 v10 (.slice a0 l0.length d0) l0) := S_9.out.below g
  have T_10 : Hid (SK .u8 v10 (.slice a1 l1.length d1) l1) := T_9.out.below g
  have U_10 : Hid (Num v10 (.slice Ua Uc Ud) (NN)) := U_9.out.below g
  have Z_10 : Hid (Gl v10) := Z_9.out.grown g
  have G_10 : Hid (Below w.heap.size w v10) := G_9.out.trans (g.mono G_9.out.size)
  clear A_9 R_9 Y_9 S_9 T_9 U_9 Z_9 G_9 g
  have K : v10.drew.cell? ⟨w.heap.size, 0, none⟩ = some (.int .u64 x0) ∧ v10.drew.cell? ⟨w.heap.size, 1, none⟩ = some (.int .u64 x1) ∧ v10.drew.cell? ⟨w.heap.size, 2, none⟩ = some (.int .u64 x2) ∧ v10.drew.cell? ⟨w.heap.size, 3, none⟩ = some (.int .u64 x3) ∧ v10.drew.cell? ⟨w.heap.size, 4, none⟩ = some (.int .u64 x4) := ⟨A_10.out.drew.c0, A_10.out.drew.c1, A_10.out.drew.c2, A_10.out.drew.c3, A_10.out.drew.c4⟩
  have A_10' : Hid (Bl5 v10.drew w.heap.size x0 x1 x2 x3 x4) := A_10.out.drew
  have R_10' : Hid (Bl5 v10.drew v5.heap.size 0 0 0 0 0) := R_10.out.drew
  have Y_10' : Hid (Bl5 v10.drew v8.heap.size 0 0 0 0 0) := Y_10.out.drew
  have S_10' : Hid (SK .u8 v10.drew (.slice a0 l0.length d0) l0) := S_10.out.below (Below.refl _ _).drew
  have T_10' : Hid (SK .u8 v10.drew (.slice a1 l1.length d1) l1) := T_10.out.below (Below.refl _ _).drew
  have U_10' : Hid (Num v10.drew (.slice Ua Uc Ud) (NN)) := U_10.out.below (Below.refl _ _).drew
  have Z_10' : Hid (Gl v10.drew) := Z_10.out.grown (Below.refl _ _).drew
  have G_10' : Hid (Below w.heap.size w v10.drew) := G_10.out.drew
  go_wp2_with fail
  go_region_held3 (fun w' => w'.cell? ⟨w.heap.size, 0, none⟩ = some (.int .u64 x0) ∧ w'.cell? ⟨w.heap.size, 1, none⟩ = some (.int .u64 x1) ∧ w'.cell? ⟨w.heap.size, 2, none⟩ = some (.int .u64 x2) ∧ w'.cell? ⟨w.heap.size, 3, none⟩ = some (.int .u64 x3) ∧ w'.cell? ⟨w.heap.size, 4, none⟩ = some (.int .u64 x4)) (first | with_reducible assumption | go_keep)
    (first
      | (go_at_call 37; have gg := G_13; clear gg; (refine (SM.out _ _ _ FF_13.out TT_13.out).mono ?_); (rintro e v14 ⟨rfl, g⟩; have A_14 : Hid (Bl5 v14 w.heap.size x0 x1 x2 x3 x4) := A_13.out.below g; have R_14 : Hid (Bl5 v14 v5.heap.size 0 0 0 0 0) := R_13.out.below g; have Y_14 : Hid (Bl5 v14 v8.heap.size 0 0 0 0 0) := Y_13.out.below g; have S_14 : Hid (SK .u8 v14 (.slice a0 l0.length d0) l0) := S_13.out.below g; have T_14 : Hid (SK .u8 v14 (.slice a1 l1.length d1) l1) := T_13.out.below g; have U_14 : Hid (Num v14 (.slice Ua Uc Ud) (NN)) := U_13.out.below g; have FF_14 : Hid (Fil X h 32 v14) := FF_13.out.below g; have E_14 : Hid (Num v14 (.slice Ea Ec Ed) (X)) := E_13.out.below g; have TT_14 : Hid (SK .u8 v14 (.slice ta (leB X 32).length td) (leB X 32)) := TT_13.out.below g; have Z_14 : Hid (Gl v14) := Z_13.out.grown g; have G_14 : Hid (Below w.heap.size w v14) := G_13.out.trans (g.mono G_13.out.size); clear g; clear K; have K : v14.cell? ⟨w.heap.size, 0, none⟩ = some (.int .u64 x0) ∧ v14.cell? ⟨w.heap.size, 1, none⟩ = some (.int .u64 x1) ∧ v14.cell? ⟨w.heap.size, 2, none⟩ = some (.int .u64 x2) ∧ v14.cell? ⟨w.heap.size, 3, none⟩ = some (.int .u64 x3) ∧ v14.cell? ⟨w.heap.size, 4, none⟩ = some (.int .u64 x4) := ⟨A_14.out.c0, A_14.out.c1, A_14.out.c2, A_14.out.c3, A_14.out.c4⟩))
      | (go_at_call 39; have gg := G_12; clear gg; (refine (TL.out _ _ E_12.out).mono ?_); (rintro e v13 ⟨v, rfl, hf, g⟩; obtain ⟨ta, td, rfl⟩ := hf.shape; have TT_13 : Hid (SK .u8 v13 (.slice ta (leB X 32).length td) (leB X 32)) := hf; clear hf; have A_13 : Hid (Bl5 v13 w.heap.size x0 x1 x2 x3 x4) := A_12.out.below g; have R_13 : Hid (Bl5 v13 v5.heap.size 0 0 0 0 0) := R_12.out.below g; have Y_13 : Hid (Bl5 v13 v8.heap.size 0 0 0 0 0) := Y_12.out.below g; have S_13 : Hid (SK .u8 v13 (.slice a0 l0.length d0) l0) := S_12.out.below g; have T_13 : Hid (SK .u8 v13 (.slice a1 l1.length d1) l1) := T_12.out.below g; have U_13 : Hid (Num v13 (.slice Ua Uc Ud) (NN)) := U_12.out.below g; have FF_13 : Hid (Fil X h 32 v13) := FF_12.out.below g; have E_13 : Hid (Num v13 (.slice Ea Ec Ed) (X)) := E_12.out.below g; have Z_13 : Hid (Gl v13) := Z_12.out.grown g; have G_13 : Hid (Below w.heap.size w v13) := G_12.out.trans (g.mono G_12.out.size); clear g; clear K; have K : v13.cell? ⟨w.heap.size, 0, none⟩ = some (.int .u64 x0) ∧ v13.cell? ⟨w.heap.size, 1, none⟩ = some (.int .u64 x1) ∧ v13.cell? ⟨w.heap.size, 2, none⟩ = some (.int .u64 x2) ∧ v13.cell? ⟨w.heap.size, 3, none⟩ = some (.int .u64 x3) ∧ v13.cell? ⟨w.heap.size, 4, none⟩ = some (.int .u64 x4) := ⟨A_13.out.c0, A_13.out.c1, A_13.out.c2, A_13.out.c3, A_13.out.c4⟩))
      | (go_at_call 10; have gg := G_11; clear gg; (refine (OX.out _).mono ?_); (rintro e v12 ⟨v, rfl, hn, g⟩; obtain ⟨Ea, Ec, Ed, rfl⟩ := hn.shape; have E_12 : Hid (Num v12 (.slice Ea Ec Ed) (X)) := hn; clear hn; have A_12 : Hid (Bl5 v12 w.heap.size x0 x1 x2 x3 x4) := A_11.out.below g; have R_12 : Hid (Bl5 v12 v5.heap.size 0 0 0 0 0) := R_11.out.below g; have Y_12 : Hid (Bl5 v12 v8.heap.size 0 0 0 0 0) := Y_11.out.below g; have S_12 : Hid (SK .u8 v12 (.slice a0 l0.length d0) l0) := S_11.out.below g; have T_12 : Hid (SK .u8 v12 (.slice a1 l1.length d1) l1) := T_11.out.below g; have U_12 : Hid (Num v12 (.slice Ua Uc Ud) (NN)) := U_11.out.below g; have FF_12 : Hid (Fil X h 32 v12) := FF_11.out.below g; have Z_12 : Hid (Gl v12) := Z_11.out.grown g; have G_12 : Hid (Below w.heap.size w v12) := G_11.out.trans (g.mono G_11.out.size); clear g; clear K; have K : v12.cell? ⟨w.heap.size, 0, none⟩ = some (.int .u64 x0) ∧ v12.cell? ⟨w.heap.size, 1, none⟩ = some (.int .u64 x1) ∧ v12.cell? ⟨w.heap.size, 2, none⟩ = some (.int .u64 x2) ∧ v12.cell? ⟨w.heap.size, 3, none⟩ = some (.int .u64 x3) ∧ v12.cell? ⟨w.heap.size, 4, none⟩ = some (.int .u64 x4) := ⟨A_12.out.c0, A_12.out.c1, A_12.out.c2, A_12.out.c3, A_12.out.c4⟩))
      | (go_at_call 38; have gg := G_10'; clear gg; (refine (KX.out _).mono ?_); (rintro e v11 ⟨h, rfl, hf, -, g⟩; have FF_11 : Hid (Fil X h 32 v11) := hf; clear hf; have A_11 : Hid (Bl5 v11 w.heap.size x0 x1 x2 x3 x4) := A_10'.out.below g; have R_11 : Hid (Bl5 v11 v5.heap.size 0 0 0 0 0) := R_10'.out.below g; have Y_11 : Hid (Bl5 v11 v8.heap.size 0 0 0 0 0) := Y_10'.out.below g; have S_11 : Hid (SK .u8 v11 (.slice a0 l0.length d0) l0) := S_10'.out.below g; have T_11 : Hid (SK .u8 v11 (.slice a1 l1.length d1) l1) := T_10'.out.below g; have U_11 : Hid (Num v11 (.slice Ua Uc Ud) (NN)) := U_10'.out.below g; have Z_11 : Hid (Gl v11) := Z_10'.out.grown g; have G_11 : Hid (Below w.heap.size w v11) := G_10'.out.trans (g.mono G_10'.out.size); clear g; clear K; have K : v11.cell? ⟨w.heap.size, 0, none⟩ = some (.int .u64 x0) ∧ v11.cell? ⟨w.heap.size, 1, none⟩ = some (.int .u64 x1) ∧ v11.cell? ⟨w.heap.size, 2, none⟩ = some (.int .u64 x2) ∧ v11.cell? ⟨w.heap.size, 3, none⟩ = some (.int .u64 x3) ∧ v11.cell? ⟨w.heap.size, 4, none⟩ = some (.int .u64 x4) := ⟨A_11.out.c0, A_11.out.c1, A_11.out.c2, A_11.out.c3, A_11.out.c4⟩))
      | fail)
  clear K 
  go_wp2_with fail
  go_ret
  exact ⟨rfl, G_14.out⟩

set_option maxRecDepth 100000 in
set_option maxHeartbeats 16000000 in
theorem fbyt_any (l0 l1 : List Nat) (hb0 : Bb l0) (hb1 : Bb l1) (v0 v1 : Value) (x : L5) (hx : x.Wds)  (w : World) (h0 : SK .u8 w v0 l0) (h1 : SK .u8 w v1 l1) (hg : Gl w) : Calls Tryd.prog 6 #[v0, v1, .agg #[.int .u64 x.l0, .int .u64 x.l1, .int .u64 x.l2, .int .u64 x.l3, .int .u64 x.l4]] w fun e w' => e = .returned (.bool true) ∧ Below w.heap.size w w' := by
  by_cases hm : l0.length ≤ 100
  · by_cases hl : l1.length ≤ 100
    · by_cases ht : x.Tm
      · by_cases c1 : l0.length = 32
        · by_cases c2 : hvN (turn l0) l0.length < P25
          · by_cases c3 : l1.length ≤ 64
            · exact fbyt_0y l0 l1 hb0 hb1 v0 v1 x hx hm hl ht c1 c2 c3 w h0 h1 hg
            · exact fbyt_0n l0 l1 hb0 hb1 v0 v1 x hx hm hl ht c1 c2 c3 w h0 h1 hg
          · by_cases c3 : l1.length ≤ 64
            · exact fbyt_1y l0 l1 hb0 hb1 v0 v1 x hx hm hl ht c1 c2 c3 w h0 h1 hg
            · exact fbyt_1n l0 l1 hb0 hb1 v0 v1 x hx hm hl ht c1 c2 c3 w h0 h1 hg
        · by_cases c3 : l1.length ≤ 64
          · exact fbyt_2y l0 l1 hb0 hb1 v0 v1 x hx hm hl ht c1 trivial c3 w h0 h1 hg
          · exact fbyt_2n l0 l1 hb0 hb1 v0 v1 x hx hm hl ht c1 trivial c3 w h0 h1 hg
      · exact fbyt_wild l0 l1 hb0 hb1 v0 v1 x hx hm hl ht w h0 h1 hg
    · exact fbyt_far1 l0 l1 hb0 hb1 v0 v1 x hx hm (by omega) w h0 h1 hg
  · exact fbyt_far0 l0 l1 hb0 hb1 v0 v1 x hx (by omega) w h0 h1 hg

end Go.Proofs.YtnebpleplogfeaaDoor
