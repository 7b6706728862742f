/-
  The document's points as lists of cells that nobody looks into. Conditions: as each theorem says.
-/
import Derived.Test.YtkbiiolkekpkiaaDoorEdO
import Derived.Test.YtkbiiolkekpkiaaDoorEgK
namespace Go.Proofs.YtkbiiolkekpkiaaDoor.Ed
open Go.RowKit
set_option linter.unusedVariables false
set_option linter.unusedSimpArgs false

/-- A list of cells that fills a point of the document. -/
structure Rl (L : List Value) : Prop where
  len : L.length = 4
  one : L.toArray.all (·.oneCell') = true
theorem Rl.il {L : List Value} (h : Rl L) : (Tryd.prog.info? 35).map (·.size) = some L.length := by rw [h.len]; kernel_rfl
theorem Rl.is {L : List Value} (h : Rl L) : (Tryd.prog.info? 35).map (·.size) = some L.toArray.size := by rw [List.size_toArray]; exact h.il
theorem rl_of (a b c : Option Addr) (n1 n2 n3 c1 c2 c3 : Nat) (t : Bool) : Rl [.slice a n1 c1, .slice b n2 c2, .slice c n3 c3, .bool t] := ⟨rfl, by kernel_rfl⟩
theorem pm_list {W : World} {v : Value} {P : Pt} (h : Pm W v P) : ∃ M : List Value, v = .agg M.toArray ∧ Rl M ∧ M[3]? = some (.bool true) ∧ (∀ x ∈ M, ∀ z, x ≠ .int .i64 z) := by
  obtain ⟨vx, vy, vz, X, Y, Z, rfl, hx, hy, hz, -⟩ := h
  obtain ⟨xa, xn, xc, rfl⟩ := hx.shape
  obtain ⟨ya, yn, yc, rfl⟩ := hy.shape
  obtain ⟨za, zn, zc, rfl⟩ := hz.shape
  exact ⟨[.slice xa xn xc, .slice ya yn yc, .slice za zn zc, .bool true], rfl, rl_of _ _ _ _ _ _ _ _ _ _, rfl, no_ints _ _ _ _ _ _ _ _ _ _⟩
end Go.Proofs.YtkbiiolkekpkiaaDoor.Ed

/-
  The law's is of layer 10: a point of the program against one of the document: the walk, given what each call answers. Conditions: as each theorem says.
-/
namespace Go.Proofs.YtkbiiolkekpkiaaDoor.Ed
open Go.RowKit
set_option linter.unusedVariables false
set_option linter.unusedSimpArgs false

set_option maxRecDepth 100000 in
set_option maxHeartbeats 16000000 in
theorem is_w (Lp : List Value) (Lp_h : Pl Lp) (Lq : List Value) (Lq_h : Rl Lq) (Pq : Pt) (ls : List Nat)
    (Q1 : Hid (∀ w : World, Calls Tryd.prog 14 #[.agg Lp.toArray] w fun e w' => ∃ g, e = .returned (.slice (some ⟨g, 0, none⟩) 32 32) ∧ SK .u8 w' (.slice (some ⟨g, 0, none⟩) 32 32) ls ∧ w.heap.size ≤ g ∧ Below w.heap.size w w'))
    (Q2 : Hid (∀ (v : Value) (w : World), Pm w v Pq → Calls Tryd.prog 61 #[v] w fun e w' => ∃ u, e = .returned u ∧ SK .u8 w' u ls ∧ Below w.heap.size w w'))
    (Q3 : Hid (∀ (v v' : Value) (w : World), SK .u8 w v ls → SK .u8 w v' ls → Calls Tryd.prog 13 #[v, v'] w fun e w' => e = .returned (.bool true) ∧ Below w.heap.size w w'))
    (w : World) (M_0 : Hid (Pm w (.agg Lq.toArray) Pq)) :
    Calls Tryd.prog 19 #[.agg Lp.toArray, .agg Lq.toArray] w fun e w' => e = .returned (.bool true) ∧ Below w.heap.size w w' := by
  go_enter Tryd.func19, Tryd.ntmps19
  go_upto_region 1 with fail
  refine wp_cut (fun V => At 30 V w.heap.size Lp ∧ At 35 V (w.heap.size + 1) Lq ∧ Pm V (.agg Lq.toArray) Pq ∧ Below w.heap.size w V) ⟨?_, ?_, ?_, ?_⟩ ?_
  · (repeat (first | refine At.drew ?_ | refine At.drewN ?_ _ | (refine at_new2 _ _ _ _ ?_; simp; done) | refine at_alloc ?_ _))
  · (repeat (first | refine At.drew ?_ | refine At.drewN ?_ _ | (refine at_new2 _ _ _ _ ?_; simp; done) | refine at_alloc ?_ _))
  · refine M_0.out.below ?_
    (repeat (first | exact Below.refl _ _ | refine Below.drew ?_ | refine below_drewN ?_ _ | refine Below.alloc ?_ (by simp <;> omega) _))
  · (repeat (first | exact Below.refl _ _ | refine Below.drew ?_ | refine below_drewN ?_ _ | refine Below.alloc ?_ (by simp <;> omega) _))
  rintro w1 ⟨k0, k1, k2, k3⟩
  have B2_1 := hid k0
  have B3_1 := hid k1
  have M_1 := hid k2
  have G_1 := hid k3
  clear k0 k1 k2 k3 M_0
  have M_1' := hid (M_1.out.below (Below.refl _ w1).drew)
  have K1 : At 30 w1.drew w.heap.size Lp ∧ At 35 w1.drew (w.heap.size + 1) Lq := And.intro B2_1.out.drew (B3_1.out.drew)
  refine wp_region_held_drew (S := fun w' => At 30 w' w.heap.size Lp ∧ At 35 w' (w.heap.size + 1) Lq) (by kernel_rfl) K1 (fun hHeld => ?_)
  clear K1
  refine h_take 0 (v := .agg Lp.toArray) rfl (by kernel_rfl) (by kernel_rfl) (by kernel_rfl) (fun _ _ _ h => h) (by rfl) ?hyr1_0 (by assumption) ?_
  case hyr1_0 =>
    intro w' hSw
    exact load_run 30 _ rfl _ 0 rfl Lp _ (at_mid hSw.1 0 _ (by simp)) Tryd.underlying30 rfl Lp_h.il
  try simp only [Act.put, List.setIfInBounds_toArray, List.set_cons_zero, List.set_cons_succ]
  refine h_take 2 (v := .agg Lq.toArray) rfl (by kernel_rfl) (by kernel_rfl) (by kernel_rfl) (fun _ _ _ h => h) (by rfl) ?hyr1_2 (by assumption) ?_
  case hyr1_2 =>
    intro w' hSw
    exact load_run 35 _ rfl _ 0 rfl Lq _ (at_mid hSw.2 0 _ (by simp)) Tryd.underlying35 rfl Lq_h.il
  try simp only [Act.put, List.setIfInBounds_toArray, List.set_cons_zero, List.set_cons_succ]
  refine h_call 1 rfl (by kernel_rfl) (by rfl) (fun Kk hK => ?_)
  go_simp
  (refine (Q1.out _).mono ?_)
  rintro e w2 ⟨ga, rfl, hsa, -, g0⟩
  have g : Below w1.heap.size w1 w2 := (Below.refl _ w1).drew.trans g0
  clear g0
  have B2_2 := hid (B2_1.out.below g)
  have B3_2 := hid (B3_1.out.below g)
  have M_2 := hid (M_1.out.below g)
  have G_2 := hid (G_1.out.trans (g.mono G_1.out.size))
  clear g B2_1 B3_1 M_1 G_1
  clear M_1'
  have Sa_2 : Hid (SK .u8 w2 (.slice (some ⟨ga, 0, none⟩) 32 32) ls) := hsa
  clear hsa
  have K2 := And.intro B2_2.out (B3_2.out)
  go_wp2_with fail
  clear hHeld
  refine hK.out _ _ K2 (fun hHeld => ?_)
  clear hK Kk K2
  try simp only [Act.put, List.setIfInBounds_toArray, List.set_cons_zero, List.set_cons_succ]
  refine h_call 3 rfl (by kernel_rfl) (by rfl) (fun Kk hK => ?_)
  go_simp
  (refine (Q2.out _ _ M_2.out).mono ?_)
  rintro e w3 ⟨ub, rfl, hsb, g0⟩
  have g := g0
  clear g0
  have B2_3 := hid (B2_2.out.below g)
  have B3_3 := hid (B3_2.out.below g)
  have M_3 := hid (M_2.out.below g)
  have Sa_3 := hid (Sa_2.out.below g)
  have G_3 := hid (G_2.out.trans (g.mono G_2.out.size))
  clear g B2_2 B3_2 M_2 Sa_2 G_2
  have Sb_3 : Hid (SK .u8 w3 ub ls) := hsb
  clear hsb
  have K3 := And.intro B2_3.out (B3_3.out)
  go_wp2_with fail
  clear hHeld
  refine hK.out _ _ K3 (fun hHeld => ?_)
  clear hK Kk K3
  try simp only [Act.put, List.setIfInBounds_toArray, List.set_cons_zero, List.set_cons_succ]
  refine h_call 4 rfl (by kernel_rfl) (by rfl) (fun Kk hK => ?_)
  go_simp
  (refine (Q3.out _ _ _ Sa_3.out Sb_3.out).mono ?_)
  rintro e w4 ⟨rfl, g0⟩
  have g := g0
  clear g0
  have B2_4 := hid (B2_3.out.below g)
  have B3_4 := hid (B3_3.out.below g)
  have M_4 := hid (M_3.out.below g)
  have Sa_4 := hid (Sa_3.out.below g)
  have Sb_4 := hid (Sb_3.out.below g)
  have G_4 := hid (G_3.out.trans (g.mono G_3.out.size))
  clear g B2_3 B3_3 M_3 Sa_3 Sb_3 G_3
  have K4 := And.intro B2_4.out (B3_4.out)
  go_wp2_with fail
  clear hHeld
  refine hK.out _ _ K4 (fun hHeld => ?_)
  clear hK Kk K4
  try simp only [Act.put, List.setIfInBounds_toArray, List.set_cons_zero, List.set_cons_succ]
  refine h_take 5 (v := .bool true) rfl (by kernel_rfl) (by kernel_rfl) (by kernel_rfl) (fun _ _ _ h => h) (by rfl) ?hyr1_5 (by assumption) ?_
  case hyr1_5 =>
    intro w' hSw
    clear hSw
    go_simp
  try simp only [Act.put, List.setIfInBounds_toArray, List.set_cons_zero, List.set_cons_succ]
  refine wpAnyH_done (by kernel_rfl) ?_ _
  clear hHeld
  go_wp2_with fail
  go_ret
  exact ⟨rfl, G_4.out⟩
theorem is_yes (p : P4) (P : Pt) (hp : p.Is P) (u : Value) (w : World) (hu : Pm w u P) : Calls Tryd.prog 19 #[.agg #[.int .u64 p.x.l0, .int .u64 p.x.l1, .int .u64 p.x.l2, .int .u64 p.x.l3, .int .u64 p.x.l4, .int .u64 p.y.l0, .int .u64 p.y.l1, .int .u64 p.y.l2, .int .u64 p.y.l3, .int .u64 p.y.l4, .int .u64 p.z.l0, .int .u64 p.z.l1, .int .u64 p.z.l2, .int .u64 p.z.l3, .int .u64 p.z.l4, .int .u64 p.t.l0, .int .u64 p.t.l1, .int .u64 p.t.l2, .int .u64 p.t.l3, .int .u64 p.t.l4], u] w fun e w' => e = .returned (.bool true) ∧ Below w.heap.size w w' := by
  obtain ⟨M, rfl, hM, -, -⟩ := pm_list hu
  exact is_w p.l p.pl M hM P (bytesOf P) (bytes_p p P hp) (fun v w h => bytes_pt P v w h) (fun v v' w h h' => same_sk _ (by rw [bytes_length]; omega) v v' w h h') w hu
end Go.Proofs.YtkbiiolkekpkiaaDoor.Ed
