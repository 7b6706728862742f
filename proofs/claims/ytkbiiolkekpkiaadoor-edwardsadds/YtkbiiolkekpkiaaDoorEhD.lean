/-
  The law EdwardsAdds of layer 10 is true of any bytes. Conditions: the package's variables are as the program lays them.
-/
import Derived.Test.YtkbiiolkekpkiaaDoorEhA
namespace Go.Proofs.YtkbiiolkekpkiaaDoor.Ed
open Go.RowKit
set_option linter.unusedVariables false
set_option linter.unusedSimpArgs false

/-- What the program's Of makes of any bytes. -/
theorem ofE_any (l : List Nat) (hb : Bb l) : (∃ P, bytesOf P = l) ∨ ∃ c : P4, ∀ (v : Value) (w : World), SK .u8 w v l → Gd w → Gl w → Calls Tryd.prog 8 #[v] w fun e w' => e = .returned (.tuple #[.agg #[.int .u64 c.x.l0, .int .u64 c.x.l1, .int .u64 c.x.l2, .int .u64 c.x.l3, .int .u64 c.x.l4, .int .u64 c.y.l0, .int .u64 c.y.l1, .int .u64 c.y.l2, .int .u64 c.y.l3, .int .u64 c.y.l4, .int .u64 c.z.l0, .int .u64 c.z.l1, .int .u64 c.z.l2, .int .u64 c.z.l3, .int .u64 c.z.l4, .int .u64 c.t.l0, .int .u64 c.t.l1, .int .u64 c.t.l2, .int .u64 c.t.l3, .int .u64 c.t.l4], .bool false]) ∧ Below w.heap.size w w' := by
  by_cases h : ∃ P, bytesOf P = l
  · exact Or.inl h
  · exact Or.inr ⟨⟨⟨0, 0, 0, 0, 0⟩, ⟨0, 0, 0, 0, 0⟩, ⟨0, 0, 0, 0, 0⟩, ⟨0, 0, 0, 0, 0⟩⟩, fun v w hs hD hZ => of_no_p l hb (fun P hP => h ⟨P, hP⟩) v w hs hD hZ⟩
theorem ofE_some (l : List Nat) (hb : Bb l) : ∃ (c : P4) (t : Bool), ∀ (v : Value) (w : World), SK .u8 w v l → Gd w → Gl w → Calls Tryd.prog 8 #[v] w fun e w' => e = .returned (.tuple #[.agg #[.int .u64 c.x.l0, .int .u64 c.x.l1, .int .u64 c.x.l2, .int .u64 c.x.l3, .int .u64 c.x.l4, .int .u64 c.y.l0, .int .u64 c.y.l1, .int .u64 c.y.l2, .int .u64 c.y.l3, .int .u64 c.y.l4, .int .u64 c.z.l0, .int .u64 c.z.l1, .int .u64 c.z.l2, .int .u64 c.z.l3, .int .u64 c.z.l4, .int .u64 c.t.l0, .int .u64 c.t.l1, .int .u64 c.t.l2, .int .u64 c.t.l3, .int .u64 c.t.l4], .bool t]) ∧ Below w.heap.size w w' := by
  rcases ofE_any l hb with ⟨P, rfl⟩ | ⟨c, hc⟩
  · obtain ⟨c, -, hc⟩ := of_yes_p P
    exact ⟨c, true, hc⟩
  · exact ⟨c, false, hc⟩
open Classical in
theorem same_bool (P Q : Pt) : ∃ b : Bool, b = true ↔ P = Q := ⟨decide (P = Q), decide_eq_true_iff⟩
theorem rsame_b (P Q : Pt) (b : Bool) (hb : b = true ↔ P = Q) (v v' : Value) (w : World) (h : Pm w v P) (h' : Pm w v' Q) : Calls Tryd.prog 28 #[v, v'] w fun e w' => e = .returned (.bool b) ∧ Below w.heap.size w w' := by
  refine (same_pt P Q v v' w h h').mono ?_
  rintro e w' ⟨b', rfl, hb', g⟩
  refine ⟨?_, g⟩
  rw [show b' = b from Bool.eq_iff_iff.2 (hb'.trans hb.symm)]
theorem adds_any (a0 a1 : Option Addr) (n0 n1 c0 c1 : Nat) (la lb : List Nat) (ba : Bb la) (bb : Bb lb) (w : World)
    (ha : SK .u8 w (.slice a0 n0 c0) la) (hb : SK .u8 w (.slice a1 n1 c1) lb) (hE : Env w) :
    Calls Tryd.prog 5 #[.slice a0 n0 c0, .slice a1 n1 c1] w fun e w' => e = .returned (.bool true) ∧ Below w.heap.size w w' := by
  obtain ⟨ob, tb, qb⟩ := ofE_some lb bb
  rcases ofE_any la ba with ⟨A, rfl⟩ | ⟨na, fa⟩
  case inr => exact adds_no1_w na.l ob.l na.pl ob.pl a0 a1 n0 n1 c0 c1 la lb tb (fun w h => awake10_any w h.u h.v) (fun v w s h => fa v w s h.d h.z) (fun v w s h => qb v w s h.d h.z) w ha hb hE
  obtain ⟨p, hp, fa⟩ := of_yes_p A
  rcases ofE_any lb bb with ⟨B, rfl⟩ | ⟨nb, fb⟩
  case inr => exact adds_no2_w p.l nb.l p.pl nb.pl a0 a1 n0 n1 c0 c1 _ lb (fun w h => awake10_any w h.u h.v) (fun v w s h => fa v w s h.d h.z) (fun v w s h => fb v w s h.d h.z) w ha hb hE
  obtain ⟨q, hq, fb⟩ := of_yes_p B
  clear qb
  obtain ⟨s1, h1, q1⟩ := add_p p q _ _ hp hq
  obtain ⟨d1, kd, md⟩ := double_p p _ hp
  obtain ⟨g1, k1, m1⟩ := negP_p p _ hp
  obtain ⟨e8, ke, me⟩ := eight_p p _ hp
  obtain ⟨s2, h2, q2⟩ := add_p s1 d1 _ _ h1 kd
  obtain ⟨ds, ks, ms⟩ := double_p s2 _ h2
  obtain ⟨z, hz, qz⟩ := zero_p
  obtain ⟨bs, hbs, qbs⟩ := base_p
  obtain ⟨b1, e1, r1⟩ := small_p p _ hp
  obtain ⟨b2, e2, r2⟩ := same_p p q _ _ hp hq
  exact adds_yes_w p.l q.l s1.l d1.l g1.l e8.l s2.l ds.l z.l bs.l p.pl q.pl s1.pl d1.pl g1.pl e8.pl s2.pl ds.pl z.pl bs.pl s2.nl a0 a1 n0 n1 c0 c1 _ _ A B b1 b2
    (fun w h => awake10_any w h.u h.v) (fun v w s h => fa v w s h.d h.z) (fun v w s h => fb v w s h.d h.z) (fun w => dD_num w) (fun v w h => of_pt A v w h) (fun v w h => of_pt B v w h)
    (fun v v' d w h h' hd => add_pt _ _ v v' d w h h' hd) (fun v v' d w h h' hd => add_pt _ _ v v' d w h h' hd) (fun v v' d w h h' hd => add_pt _ _ v v' d w h h' hd)
    (fun w h => q1 w h.t h.z.f) (fun v v' d w h h' hd => add_pt _ _ v v' d w h h' hd) (fun u w h => is_yes s1 _ h1 u w h)
    (fun w h => md w h.z.f) (fun u w h => is_yes d1 _ kd u w h)
    (fun w h => m1 w h.z.f) (fun v w h => neg_pt A v w h) (fun u w h => is_yes g1 _ k1 u w h)
    (fun w h => me w h.z.f) (fun u w h => is_yes e8 _ ke u w h)
    (fun w h => q1 w h.t h.z.f) (fun w h => md w h.z.f) (fun w h => q2 w h.t h.z.f)
    (fun v v' d w h h' hd => add_pt _ _ v v' d w h h' hd) (fun v v' d w h h' hd => add_pt _ _ v v' d w h h' hd)
    (fun u w h => is_yes s2 _ h2 u w h) (fun w h => ms w h.z.f) (fun v v' d w h h' hd => add_pt _ _ v v' d w h h' hd) (fun u w h => is_yes ds _ ks u w h)
    (fun w h => r1 w h.z.f) (fun w => zero_pt w) (fun v v' w h h' => rsame_b _ _ b1 e1 v v' w h h')
    r2 (fun v v' w h h' => rsame_b _ _ b2 e2 v v' w h h')
    qz (fun w => zero_pt w) (fun u w h => is_yes z _ hz u w h) (fun w h => qbs w h.u h.v) (fun w => base_pt w) (fun u w h => is_yes bs _ hbs u w h)
    w ha hb hE
theorem adds_all (v0 v1 : Value) (l0 l1 : List Nat) (W : World) (h : Gl W ∧ Gd W ∧ GtwiceD W ∧ GbaseX W ∧ GbaseY W) (h0 : SK .u8 W v0 l0) (h1 : SK .u8 W v1 l1) (b0 : Bb l0) (b1 : Bb l1) :
    Calls Tryd.prog 5 #[v0, v1] W fun e w' => e = .returned (.bool true) ∧ Below W.heap.size W w' := by
  obtain ⟨a0, c0, rfl⟩ := h0.shape
  obtain ⟨a1, c1, rfl⟩ := h1.shape
  obtain ⟨hZ, hD, hT, hU, hV⟩ := h
  exact adds_any a0 a1 _ _ c0 c1 l0 l1 b0 b1 W h0 h1 ⟨hD, hT, hU, hV, hZ⟩
end Go.Proofs.YtkbiiolkekpkiaaDoor.Ed
