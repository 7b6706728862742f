/-
  The law EdwardsBytes of layer 10 is true of any bytes. Conditions: the package's variables are as the program lays them.
-/
import Derived.Test.YtkbiiolkekpkiaaDoorEhB
namespace Go.Proofs.YtkbiiolkekpkiaaDoor.Ed
open Go.RowKit
set_option linter.unusedVariables false
set_option linter.unusedSimpArgs false

/-- What the program's Of makes of any bytes. -/
theorem ofD_any (l : List Nat) (hb : Bb l) : (∃ P, bytesOf P = l) ∨ (¬ ∃ P, bytesOf P = l) ∧ ∃ c : P4, ∀ (v : Value) (w : World), SK .u8 w v l → Gd w → Gl w → Calls Tryd.prog 8 #[v] w fun e w' => e = .returned (.tuple #[.agg #[.int .u64 c.x.l0, .int .u64 c.x.l1, .int .u64 c.x.l2, .int .u64 c.x.l3, .int .u64 c.x.l4, .int .u64 c.y.l0, .int .u64 c.y.l1, .int .u64 c.y.l2, .int .u64 c.y.l3, .int .u64 c.y.l4, .int .u64 c.z.l0, .int .u64 c.z.l1, .int .u64 c.z.l2, .int .u64 c.z.l3, .int .u64 c.z.l4, .int .u64 c.t.l0, .int .u64 c.t.l1, .int .u64 c.t.l2, .int .u64 c.t.l3, .int .u64 c.t.l4], .bool false]) ∧ Below w.heap.size w w' := by
  by_cases h : ∃ P, bytesOf P = l
  · exact Or.inl h
  · exact Or.inr ⟨h, ⟨⟨0, 0, 0, 0, 0⟩, ⟨0, 0, 0, 0, 0⟩, ⟨0, 0, 0, 0, 0⟩, ⟨0, 0, 0, 0, 0⟩⟩, fun v w hs hD hZ => of_no_p l hb (fun P hP => h ⟨P, hP⟩) v w hs hD hZ⟩
theorem pair_pt (P : Pt) (v : Value) (w : World) (h : Pm w v P) :
    Calls Tryd.prog 11 #[v] w fun e w' => ∃ v1 v2, e = .returned (.tuple #[v1, v2]) ∧ Num w' v1 P.x.val ∧ Num w' v2 P.y.val ∧ Below w.heap.size w w' := by
  obtain ⟨vx, vy, vz, X, Y, Z, rfl, hx, hy, hz, l1, l2, l3, z1, e1, e2⟩ := h
  have i1 := by_inv X Z P.x e1 z1
  have i2 := by_inv Y Z P.y e2 z1
  have h := pairD_num X Y Z vx vy vz true w hx hy hz l1 l2 l3
  rwa [i1, i2] at h
theorem cmp_eq (n : Nat) (hn : n < P25) (v v' : Value) (w : World) (h : Num w v n) (h' : Num w v' n) : Calls Tryd.prog 15 #[v, v'] w fun e w' => e = .returned (.int .i64 0) ∧ Below w.heap.size w w' := by
  have h2 := cmp_num n n v v' w h h' 22 (Nat.lt_trans hn P25_lt22) (Nat.lt_trans hn P25_lt22) (by omega)
  rwa [(ord_zero n n).2 rfl] at h2
theorem same_true2 (p q : P4) (P Q : Pt) (hp : p.Is P) (hq : q.Is Q) (h : P = Q) : ∀ w : World, Calls Tryd.prog 17 #[.agg #[.int .u64 p.x.l0, .int .u64 p.x.l1, .int .u64 p.x.l2, .int .u64 p.x.l3, .int .u64 p.x.l4, .int .u64 p.y.l0, .int .u64 p.y.l1, .int .u64 p.y.l2, .int .u64 p.y.l3, .int .u64 p.y.l4, .int .u64 p.z.l0, .int .u64 p.z.l1, .int .u64 p.z.l2, .int .u64 p.z.l3, .int .u64 p.z.l4, .int .u64 p.t.l0, .int .u64 p.t.l1, .int .u64 p.t.l2, .int .u64 p.t.l3, .int .u64 p.t.l4], .agg #[.int .u64 q.x.l0, .int .u64 q.x.l1, .int .u64 q.x.l2, .int .u64 q.x.l3, .int .u64 q.x.l4, .int .u64 q.y.l0, .int .u64 q.y.l1, .int .u64 q.y.l2, .int .u64 q.y.l3, .int .u64 q.y.l4, .int .u64 q.z.l0, .int .u64 q.z.l1, .int .u64 q.z.l2, .int .u64 q.z.l3, .int .u64 q.z.l4, .int .u64 q.t.l0, .int .u64 q.t.l1, .int .u64 q.t.l2, .int .u64 q.t.l3, .int .u64 q.t.l4]] w fun e w' => e = .returned (.bool true) ∧ Below w.heap.size w w' := by
  obtain ⟨b, hb, qb⟩ := same_p p q P Q hp hq
  rw [hb.2 h] at qb
  exact qb
theorem bytes_all (v0 : Value) (l0 : List Nat) (W : World) (h : Gl W ∧ Gd W ∧ GbaseX W ∧ GbaseY W) (h0 : SK .u8 W v0 l0) (b0 : Bb l0) :
    Calls Tryd.prog 3 #[v0] W fun e w' => e = .returned (.bool true) ∧ Below W.heap.size W w' := by
  obtain ⟨a0, c0, rfl⟩ := h0.shape
  obtain ⟨hZ, hD, hU, hV⟩ := h
  by_cases hn : 100 < l0.length
  · exact bytes_far_w a0 l0.length c0 l0 hn awake10_any W h0 hD hU hV hZ
  · rcases ofD_any l0 b0 with ⟨P, rfl⟩ | ⟨hP, c, hc⟩
    · have hl := bytes_length P
      rw [hl] at h0 ⊢
      obtain ⟨p, hp, fp⟩ := of_yes_p P
      obtain ⟨x, y, tx, ty, ex, ey, qp⟩ := pair_p p P hp
      have hon : On dd (kx x) (kx y) := by rw [ex, ey]; exact P.on
      obtain ⟨r, hr, qr⟩ := from_yes_p x y tx ty hon
      have nx := nn_k x _ ex
      have ny := nn_k y _ ey
      exact bytes_point_w p.l r.l p.pl r.pl x y a0 c0 (bytesOf P) P P.x.val P.y.val awake10_any fp (fun v w h => of_pt P v w h) qp (fun v w h => pair_pt P v w h) (fun w a b => qr w a b.f) (bytes_p p P hp) (fun v v' w h h' => same_sk _ (by rw [bytes_length]; omega) v v' w h h')
        (fun w => by have h := of_nn x tx w; rwa [nx] at h) (fun v v' w h h' => cmp_eq _ (val_lt _) v v' w h h') (fun w => by have h := of_nn y ty w; rwa [ny] at h) (fun v v' w h h' => cmp_eq _ (val_lt _) v v' w h h')
        (same_true2 r p _ _ hr hp (Pt.ext ex ey)) W h0 hD hU hV hZ
    · exact bytes_none_w c.l c.pl a0 l0.length c0 l0 hn awake10_any hc (fun v w h => of_other l0 b0 (fun P e => hP ⟨P, e⟩) v w h) W h0 hD hU hV hZ
end Go.Proofs.YtkbiiolkekpkiaaDoor.Ed
