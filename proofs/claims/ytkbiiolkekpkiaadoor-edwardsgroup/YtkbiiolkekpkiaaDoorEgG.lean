/-
  The contracts of the program's points of layer 10: its sums, doubles, other sides, nought, base, and whether two are one. Conditions: as each theorem says.
-/
import Derived.Test.YtkbiiolkekpkiaaDoorEgB
import Derived.Test.YtkbiiolkekpkiaaDoorFG
namespace Go.Proofs.YtkbiiolkekpkiaaDoor.Ed
open Go.RowKit
set_option linter.unusedVariables false
set_option linter.unusedSimpArgs false

section
variable {m0 : Nat} [NeZero m0]
theorem two_of (a b : Fin m0) : (a + a)*b = a*b + a*b := by grind
theorem dbl_e2 (x y z : Fin m0) : (x*z + y*z)*(x*z + y*z) - ((x*z)*(x*z) + (y*z)*(y*z)) = (z*z)*(x*y + y*x) := by grind
theorem dbl_h2 (x y z : Fin m0) : (x*z)*(x*z) + (y*z)*(y*z) = (z*z)*(y*y + x*x) := by grind
theorem dbl_f2 (d x y z : Fin m0) (o : On d x y) : z*z + z*z - ((y*z)*(y*z) - (x*z)*(x*z)) = (z*z)*(1 - d*x*x*y*y) := by unfold On at o; grind
end
theorem rx_dbl2 (X Y Z T : K) (p : Pt) (hp : Rx X Y Z T p) :
    Rx (((X + Y)*(X + Y) - (X*X + Y*Y))*((Z*Z + Z*Z) - (Y*Y - X*X))) ((Y*Y - X*X)*(X*X + Y*Y)) (((Z*Z + Z*Z) - (Y*Y - X*X))*(Y*Y - X*X)) (((X + Y)*(X + Y) - (X*X + Y*Y))*(X*X + Y*Y)) (p.add p) := by
  obtain ⟨z, rfl, rfl, rfl⟩ := hp
  exact rx_sum p p (Z*Z) (Z*Z) _ _ _ _ (mul_ne _ _ z z) (mul_ne _ _ z z) (dbl_e2 _ _ _) (dbl_g _ _ _ _ p.on) (dbl_h2 _ _ _) (dbl_f2 _ _ _ _ p.on)
theorem one_tm : L5.Tm ⟨1, 0, 0, 0, 0⟩ := tm_small 1 (by omega)
theorem nil_tm : L5.Tm ⟨0, 0, 0, 0, 0⟩ := tm_small 0 (by omega)
theorem kx_one : kx ⟨1, 0, 0, 0, 0⟩ = 1 := kx_small 1 (by decide +kernel)
theorem kx_nil : kx ⟨0, 0, 0, 0, 0⟩ = 0 := kx_small 0 (by decide +kernel)
theorem square_one (x : L5) (hx : x.Tm) : ∃ t : L5, t.Tm ∧ kx t = kx x * kx x ∧ ∀ w : World, Calls Tryd.prog 51 #[.agg #[.int .u64 x.l0, .int .u64 x.l1, .int .u64 x.l2, .int .u64 x.l3, .int .u64 x.l4], .int .i64 1] w fun e w' => e = .returned (.agg #[.int .u64 t.l0, .int .u64 t.l1, .int .u64 t.l2, .int .u64 t.l3, .int .u64 t.l4]) ∧ Below w.heap.size w w' := by
  obtain ⟨t, h1, h2, h3⟩ := square_fe x 1 hx (by omega) 1 (Or.inr (Or.inl ⟨by omega, by omega, rfl⟩))
  exact ⟨t, h1, kx_sq x t h2, h3⟩
theorem over_p (e g h f : L5) (te : e.Tm) (tg : g.Tm) (th : h.Tm) (tf : f.Tm) : ∃ c : P4, (c.x.Tm ∧ c.y.Tm ∧ c.z.Tm ∧ c.t.Tm) ∧ (kx c.x = kx e * kx f ∧ kx c.y = kx g * kx h ∧ kx c.z = kx f * kx g ∧ kx c.t = kx e * kx h) ∧
    ∀ w : World, Calls Tryd.prog 63 #[.agg #[.int .u64 e.l0, .int .u64 e.l1, .int .u64 e.l2, .int .u64 e.l3, .int .u64 e.l4], .agg #[.int .u64 g.l0, .int .u64 g.l1, .int .u64 g.l2, .int .u64 g.l3, .int .u64 g.l4], .agg #[.int .u64 h.l0, .int .u64 h.l1, .int .u64 h.l2, .int .u64 h.l3, .int .u64 h.l4], .agg #[.int .u64 f.l0, .int .u64 f.l1, .int .u64 f.l2, .int .u64 f.l3, .int .u64 f.l4]] w fun e w' => e = .returned (.agg #[.int .u64 c.x.l0, .int .u64 c.x.l1, .int .u64 c.x.l2, .int .u64 c.x.l3, .int .u64 c.x.l4, .int .u64 c.y.l0, .int .u64 c.y.l1, .int .u64 c.y.l2, .int .u64 c.y.l3, .int .u64 c.y.l4, .int .u64 c.z.l0, .int .u64 c.z.l1, .int .u64 c.z.l2, .int .u64 c.z.l3, .int .u64 c.z.l4, .int .u64 c.t.l0, .int .u64 c.t.l1, .int .u64 c.t.l2, .int .u64 c.t.l3, .int .u64 c.t.l4]) ∧ Below w.heap.size w w' := by
  obtain ⟨a, ta, ea, qa⟩ := mul_fe e f te tf
  have ka := kx_mul e f _ ea
  obtain ⟨b, tb, eb, qb⟩ := mul_fe g h tg th
  have kb := kx_mul g h _ eb
  obtain ⟨c, tc, ec, qc⟩ := mul_fe f g tf tg
  have kc := kx_mul f g _ ec
  obtain ⟨d, td, ed, qd⟩ := mul_fe e h te th
  have kd := kx_mul e h _ ed
  exact ⟨⟨a, b, c, d⟩, ⟨ta, tb, tc, td⟩, ⟨ka, kb, kc, kd⟩, fun w => over_w e g h f a b c d qa qb qc qd w⟩
theorem of_p (x y : L5) (tx : x.Tm) (ty : y.Tm) : ∃ c : P4, (c.x = x ∧ c.y = y ∧ c.z = ⟨1, 0, 0, 0, 0⟩ ∧ c.t.Tm ∧ kx c.t = kx x * kx y) ∧
    ∀ w : World, Calls Tryd.prog 38 #[.agg #[.int .u64 x.l0, .int .u64 x.l1, .int .u64 x.l2, .int .u64 x.l3, .int .u64 x.l4], .agg #[.int .u64 y.l0, .int .u64 y.l1, .int .u64 y.l2, .int .u64 y.l3, .int .u64 y.l4]] w fun e w' => e = .returned (.agg #[.int .u64 c.x.l0, .int .u64 c.x.l1, .int .u64 c.x.l2, .int .u64 c.x.l3, .int .u64 c.x.l4, .int .u64 c.y.l0, .int .u64 c.y.l1, .int .u64 c.y.l2, .int .u64 c.y.l3, .int .u64 c.y.l4, .int .u64 c.z.l0, .int .u64 c.z.l1, .int .u64 c.z.l2, .int .u64 c.z.l3, .int .u64 c.z.l4, .int .u64 c.t.l0, .int .u64 c.t.l1, .int .u64 c.t.l2, .int .u64 c.t.l3, .int .u64 c.t.l4]) ∧ Below w.heap.size w w' := by
  obtain ⟨a, ta, ea, qa⟩ := mul_fe x y tx ty
  have ka := kx_mul x y _ ea
  exact ⟨⟨x, y, ⟨1, 0, 0, 0, 0⟩, a⟩, ⟨rfl, rfl, rfl, ta, ka⟩, fun w => of_w x y a (fun w => small_fe 1 (by omega) w) qa w⟩
theorem of_is (x y : L5) (tx : x.Tm) (ty : y.Tm) (p : Pt) (hx : kx x = p.x) (hy : kx y = p.y) : ∃ c : P4, c.Is p ∧
    ∀ w : World, Calls Tryd.prog 38 #[.agg #[.int .u64 x.l0, .int .u64 x.l1, .int .u64 x.l2, .int .u64 x.l3, .int .u64 x.l4], .agg #[.int .u64 y.l0, .int .u64 y.l1, .int .u64 y.l2, .int .u64 y.l3, .int .u64 y.l4]] w fun e w' => e = .returned (.agg #[.int .u64 c.x.l0, .int .u64 c.x.l1, .int .u64 c.x.l2, .int .u64 c.x.l3, .int .u64 c.x.l4, .int .u64 c.y.l0, .int .u64 c.y.l1, .int .u64 c.y.l2, .int .u64 c.y.l3, .int .u64 c.y.l4, .int .u64 c.z.l0, .int .u64 c.z.l1, .int .u64 c.z.l2, .int .u64 c.z.l3, .int .u64 c.z.l4, .int .u64 c.t.l0, .int .u64 c.t.l1, .int .u64 c.t.l2, .int .u64 c.t.l3, .int .u64 c.t.l4]) ∧ Below w.heap.size w w' := by
  obtain ⟨c, ⟨h1, h2, h3, h4, h5⟩, h6⟩ := of_p x y tx ty
  refine ⟨c, ⟨by rw [h1]; exact tx, by rw [h2]; exact ty, by rw [h3]; exact one_tm, h4, ?_⟩, h6⟩
  rw [h5, h1, h2, h3, hx, hy, kx_one]
  exact rx_one p
theorem zero_p : ∃ c : P4, c.Is Pt.zero ∧ ∀ w : World, Calls Tryd.prog 30 #[] w fun e w' => e = .returned (.agg #[.int .u64 c.x.l0, .int .u64 c.x.l1, .int .u64 c.x.l2, .int .u64 c.x.l3, .int .u64 c.x.l4, .int .u64 c.y.l0, .int .u64 c.y.l1, .int .u64 c.y.l2, .int .u64 c.y.l3, .int .u64 c.y.l4, .int .u64 c.z.l0, .int .u64 c.z.l1, .int .u64 c.z.l2, .int .u64 c.z.l3, .int .u64 c.z.l4, .int .u64 c.t.l0, .int .u64 c.t.l1, .int .u64 c.t.l2, .int .u64 c.t.l3, .int .u64 c.t.l4]) ∧ Below w.heap.size w w' := by
  obtain ⟨c, h1, h2⟩ := of_is ⟨0, 0, 0, 0, 0⟩ ⟨1, 0, 0, 0, 0⟩ nil_tm one_tm Pt.zero kx_nil kx_one
  exact ⟨c, h1, fun w => zero_w _ _ _ _ (fun w => small_fe 0 (by omega) w) (fun w => small_fe 1 (by omega) w) h2 w⟩
theorem base_p : ∃ c : P4, c.Is baseP ∧ ∀ w : World, GbaseX w → GbaseY w → Calls Tryd.prog 31 #[] w fun e w' => e = .returned (.agg #[.int .u64 c.x.l0, .int .u64 c.x.l1, .int .u64 c.x.l2, .int .u64 c.x.l3, .int .u64 c.x.l4, .int .u64 c.y.l0, .int .u64 c.y.l1, .int .u64 c.y.l2, .int .u64 c.y.l3, .int .u64 c.y.l4, .int .u64 c.z.l0, .int .u64 c.z.l1, .int .u64 c.z.l2, .int .u64 c.z.l3, .int .u64 c.z.l4, .int .u64 c.t.l0, .int .u64 c.t.l1, .int .u64 c.t.l2, .int .u64 c.t.l3, .int .u64 c.t.l4]) ∧ Below w.heap.size w w' := by
  obtain ⟨c, h1, h2⟩ := of_is baseX_ baseY_ baseX_tm baseY_tm baseP baseX_k baseY_k
  exact ⟨c, h1, fun w hx hy => base_w _ _ _ _ h2 w hx hy⟩
set_option maxHeartbeats 2000000 in
theorem add_p (p q : P4) (P Q : Pt) (hp : p.Is P) (hq : q.Is Q) : ∃ c : P4, c.Is (P.add Q) ∧ ∀ w : World, GtwiceD w → Gf w → Calls Tryd.prog 22 #[.agg #[.int .u64 p.x.l0, .int .u64 p.x.l1, .int .u64 p.x.l2, .int .u64 p.x.l3, .int .u64 p.x.l4, .int .u64 p.y.l0, .int .u64 p.y.l1, .int .u64 p.y.l2, .int .u64 p.y.l3, .int .u64 p.y.l4, .int .u64 p.z.l0, .int .u64 p.z.l1, .int .u64 p.z.l2, .int .u64 p.z.l3, .int .u64 p.z.l4, .int .u64 p.t.l0, .int .u64 p.t.l1, .int .u64 p.t.l2, .int .u64 p.t.l3, .int .u64 p.t.l4], .agg #[.int .u64 q.x.l0, .int .u64 q.x.l1, .int .u64 q.x.l2, .int .u64 q.x.l3, .int .u64 q.x.l4, .int .u64 q.y.l0, .int .u64 q.y.l1, .int .u64 q.y.l2, .int .u64 q.y.l3, .int .u64 q.y.l4, .int .u64 q.z.l0, .int .u64 q.z.l1, .int .u64 q.z.l2, .int .u64 q.z.l3, .int .u64 q.z.l4, .int .u64 q.t.l0, .int .u64 q.t.l1, .int .u64 q.t.l2, .int .u64 q.t.l3, .int .u64 q.t.l4]] w fun e w' => e = .returned (.agg #[.int .u64 c.x.l0, .int .u64 c.x.l1, .int .u64 c.x.l2, .int .u64 c.x.l3, .int .u64 c.x.l4, .int .u64 c.y.l0, .int .u64 c.y.l1, .int .u64 c.y.l2, .int .u64 c.y.l3, .int .u64 c.y.l4, .int .u64 c.z.l0, .int .u64 c.z.l1, .int .u64 c.z.l2, .int .u64 c.z.l3, .int .u64 c.z.l4, .int .u64 c.t.l0, .int .u64 c.t.l1, .int .u64 c.t.l2, .int .u64 c.t.l3, .int .u64 c.t.l4]) ∧ Below w.heap.size w w' := by
  obtain ⟨da, tda, eda, qda⟩ := sub_ff p.y p.x hp.y hp.x
  have kda := kx_sub p.y p.x _ eda
  obtain ⟨db, tdb, edb, qdb⟩ := sub_ff q.y q.x hq.y hq.x
  have kdb := kx_sub q.y q.x _ edb
  obtain ⟨dn, tdn, edn, qdn⟩ := mul_fe da db tda tdb
  have kdn := kx_mul da db _ edn
  obtain ⟨ua, tua, eua, qua⟩ := add_fe p.y p.x hp.y hp.x
  have kua := kx_add p.y p.x _ eua
  obtain ⟨ub, tub, eub, qub⟩ := add_fe q.y q.x hq.y hq.x
  have kub := kx_add q.y q.x _ eub
  obtain ⟨up, tup, eup, qup⟩ := mul_fe ua ub tua tub
  have kup := kx_mul ua ub _ eup
  obtain ⟨ca, tca, eca, qca⟩ := mul_fe p.t twiceD_ hp.t twiceD_tm
  have kca := kx_mul p.t twiceD_ _ eca
  obtain ⟨cr, tcr, ecr, qcr⟩ := mul_fe ca q.t tca hq.t
  have kcr := kx_mul ca q.t _ ecr
  obtain ⟨ba, tba, eba, qba⟩ := add_fe p.z p.z hp.z hp.z
  have kba := kx_add p.z p.z _ eba
  obtain ⟨bo, tbo, ebo, qbo⟩ := mul_fe ba q.z tba hq.z
  have kbo := kx_mul ba q.z _ ebo
  obtain ⟨ea, tea, eea, qea⟩ := sub_ff up dn tup tdn
  have kea := kx_sub up dn _ eea
  obtain ⟨ga, tga, ega, qga⟩ := add_fe bo cr tbo tcr
  have kga := kx_add bo cr _ ega
  obtain ⟨ha, tha, eha, qha⟩ := add_fe up dn tup tdn
  have kha := kx_add up dn _ eha
  obtain ⟨fa, tfa, efa, qfa⟩ := sub_ff bo cr tbo tcr
  have kfa := kx_sub bo cr _ efa
  obtain ⟨c, ⟨c1, c2, c3, c4⟩, ⟨m1, m2, m3, m4⟩, qo⟩ := over_p ea ga ha fa tea tga tha tfa
  refine ⟨c, ⟨c1, c2, c3, c4, ?_⟩, fun w hT hZ => add_w p.x p.y p.z p.t q.x q.y q.z q.t da db dn ua ub up ca cr ba bo ea ga ha fa c.x c.y c.z c.t qda qdb qdn qua qub qup qca qcr qba qbo qea qga qha qfa qo w hT hZ⟩
  rw [m1, m2, m3, m4, kea, kga, kha, kfa]
  refine rx_add _ _ _ _ _ _ _ _ (kx dn) (kx up) (kx cr) (kx bo) P Q hp.rx hq.rx ?_ ?_ ?_ ?_
  · rw [kdn, kda, kdb]
  · rw [kup, kua, kub]
  · rw [kcr, kca, twiceD_k]
  · rw [kbo, kba, two_of]
set_option maxHeartbeats 2000000 in
theorem double_p (p : P4) (P : Pt) (hp : p.Is P) : ∃ c : P4, c.Is (P.add P) ∧ ∀ w : World, Gf w → Calls Tryd.prog 23 #[.agg #[.int .u64 p.x.l0, .int .u64 p.x.l1, .int .u64 p.x.l2, .int .u64 p.x.l3, .int .u64 p.x.l4, .int .u64 p.y.l0, .int .u64 p.y.l1, .int .u64 p.y.l2, .int .u64 p.y.l3, .int .u64 p.y.l4, .int .u64 p.z.l0, .int .u64 p.z.l1, .int .u64 p.z.l2, .int .u64 p.z.l3, .int .u64 p.z.l4, .int .u64 p.t.l0, .int .u64 p.t.l1, .int .u64 p.t.l2, .int .u64 p.t.l3, .int .u64 p.t.l4]] w fun e w' => e = .returned (.agg #[.int .u64 c.x.l0, .int .u64 c.x.l1, .int .u64 c.x.l2, .int .u64 c.x.l3, .int .u64 c.x.l4, .int .u64 c.y.l0, .int .u64 c.y.l1, .int .u64 c.y.l2, .int .u64 c.y.l3, .int .u64 c.y.l4, .int .u64 c.z.l0, .int .u64 c.z.l1, .int .u64 c.z.l2, .int .u64 c.z.l3, .int .u64 c.z.l4, .int .u64 c.t.l0, .int .u64 c.t.l1, .int .u64 c.t.l2, .int .u64 c.t.l3, .int .u64 c.t.l4]) ∧ Below w.heap.size w w' := by
  obtain ⟨sx, tsx, ksx, qsx⟩ := square_one p.x hp.x
  obtain ⟨sy, tsy, ksy, qsy⟩ := square_one p.y hp.y
  obtain ⟨sz, tsz, ksz, qsz⟩ := square_one p.z hp.z
  obtain ⟨su, tsu, esu, qsu⟩ := add_fe sx sy tsx tsy
  have ksu := kx_add sx sy _ esu
  obtain ⟨xy, txy, exy, qxy⟩ := add_fe p.x p.y hp.x hp.y
  have kxy := kx_add p.x p.y _ exy
  obtain ⟨sq, tsq, ksq, qsq⟩ := square_one xy txy
  obtain ⟨tw, ttw, etw, qtw⟩ := sub_ff sq su tsq tsu
  have ktw := kx_sub sq su _ etw
  obtain ⟨re, tre, ere, qre⟩ := sub_ff sy sx tsy tsx
  have kre := kx_sub sy sx _ ere
  obtain ⟨zz, tzz, ezz, qzz⟩ := add_fe sz sz tsz tsz
  have kzz := kx_add sz sz _ ezz
  obtain ⟨fa, tfa, efa, qfa⟩ := sub_ff zz re tzz tre
  have kfa := kx_sub zz re _ efa
  obtain ⟨c, ⟨c1, c2, c3, c4⟩, ⟨m1, m2, m3, m4⟩, qo⟩ := over_p tw re su fa ttw tre tsu tfa
  refine ⟨c, ⟨c1, c2, c3, c4, ?_⟩, fun w hZ => double_w p.x p.y p.z p.t sx sy sz su xy sq tw re zz fa c.x c.y c.z c.t qsx qsy qsz qsu qxy qsq qtw qre qzz qfa qo w hZ⟩
  rw [m1, m2, m3, m4, kfa, kzz, ktw, ksq, kxy, kre, ksu, ksx, ksy, ksz]
  exact rx_dbl2 _ _ _ _ P hp.rx
theorem eight_p (p : P4) (P : Pt) (hp : p.Is P) : ∃ c : P4, c.Is (((P.add P).add (P.add P)).add ((P.add P).add (P.add P))) ∧ ∀ w : World, Gf w → Calls Tryd.prog 26 #[.agg #[.int .u64 p.x.l0, .int .u64 p.x.l1, .int .u64 p.x.l2, .int .u64 p.x.l3, .int .u64 p.x.l4, .int .u64 p.y.l0, .int .u64 p.y.l1, .int .u64 p.y.l2, .int .u64 p.y.l3, .int .u64 p.y.l4, .int .u64 p.z.l0, .int .u64 p.z.l1, .int .u64 p.z.l2, .int .u64 p.z.l3, .int .u64 p.z.l4, .int .u64 p.t.l0, .int .u64 p.t.l1, .int .u64 p.t.l2, .int .u64 p.t.l3, .int .u64 p.t.l4]] w fun e w' => e = .returned (.agg #[.int .u64 c.x.l0, .int .u64 c.x.l1, .int .u64 c.x.l2, .int .u64 c.x.l3, .int .u64 c.x.l4, .int .u64 c.y.l0, .int .u64 c.y.l1, .int .u64 c.y.l2, .int .u64 c.y.l3, .int .u64 c.y.l4, .int .u64 c.z.l0, .int .u64 c.z.l1, .int .u64 c.z.l2, .int .u64 c.z.l3, .int .u64 c.z.l4, .int .u64 c.t.l0, .int .u64 c.t.l1, .int .u64 c.t.l2, .int .u64 c.t.l3, .int .u64 c.t.l4]) ∧ Below w.heap.size w w' := by
  obtain ⟨a, ha, qa⟩ := double_p p P hp
  obtain ⟨b, hb, qb⟩ := double_p a _ ha
  obtain ⟨c, hc, qc⟩ := double_p b _ hb
  exact ⟨c, hc, fun w hZ => eight_w p.x p.y p.z p.t a.x a.y a.z a.t b.x b.y b.z b.t c.x c.y c.z c.t qa qb qc w hZ⟩
theorem negP_p (p : P4) (P : Pt) (hp : p.Is P) : ∃ c : P4, c.Is P.neg ∧ ∀ w : World, Gf w → Calls Tryd.prog 24 #[.agg #[.int .u64 p.x.l0, .int .u64 p.x.l1, .int .u64 p.x.l2, .int .u64 p.x.l3, .int .u64 p.x.l4, .int .u64 p.y.l0, .int .u64 p.y.l1, .int .u64 p.y.l2, .int .u64 p.y.l3, .int .u64 p.y.l4, .int .u64 p.z.l0, .int .u64 p.z.l1, .int .u64 p.z.l2, .int .u64 p.z.l3, .int .u64 p.z.l4, .int .u64 p.t.l0, .int .u64 p.t.l1, .int .u64 p.t.l2, .int .u64 p.t.l3, .int .u64 p.t.l4]] w fun e w' => e = .returned (.agg #[.int .u64 c.x.l0, .int .u64 c.x.l1, .int .u64 c.x.l2, .int .u64 c.x.l3, .int .u64 c.x.l4, .int .u64 c.y.l0, .int .u64 c.y.l1, .int .u64 c.y.l2, .int .u64 c.y.l3, .int .u64 c.y.l4, .int .u64 c.z.l0, .int .u64 c.z.l1, .int .u64 c.z.l2, .int .u64 c.z.l3, .int .u64 c.z.l4, .int .u64 c.t.l0, .int .u64 c.t.l1, .int .u64 c.t.l2, .int .u64 c.t.l3, .int .u64 c.t.l4]) ∧ Below w.heap.size w w' := by
  obtain ⟨a, ta, ea, qa⟩ := neg_ff p.x hp.x
  have ka := kx_neg p.x _ ea
  obtain ⟨b, tb, eb, qb⟩ := neg_ff p.t hp.t
  have kb := kx_neg p.t _ eb
  refine ⟨⟨a, p.y, p.z, b⟩, ⟨ta, hp.y, hp.z, tb, ?_⟩, fun w hZ => neg_w p.x p.y p.z p.t a b qa qb w hZ⟩
  dsimp only
  rw [ka, kb]
  exact rx_neg _ _ _ _ P hp.rx
theorem kx_num (x y : L5) : x.num % (P25 : Int) = y.num % (P25 : Int) ↔ kx x = kx y := by
  rw [kx_eq, ← x.nn_eq, ← y.nn_eq]
  omega
theorem same_p (p q : P4) (P Q : Pt) (hp : p.Is P) (hq : q.Is Q) : ∃ b : Bool, (b = true ↔ P = Q) ∧ ∀ w : World, Calls Tryd.prog 17 #[.agg #[.int .u64 p.x.l0, .int .u64 p.x.l1, .int .u64 p.x.l2, .int .u64 p.x.l3, .int .u64 p.x.l4, .int .u64 p.y.l0, .int .u64 p.y.l1, .int .u64 p.y.l2, .int .u64 p.y.l3, .int .u64 p.y.l4, .int .u64 p.z.l0, .int .u64 p.z.l1, .int .u64 p.z.l2, .int .u64 p.z.l3, .int .u64 p.z.l4, .int .u64 p.t.l0, .int .u64 p.t.l1, .int .u64 p.t.l2, .int .u64 p.t.l3, .int .u64 p.t.l4], .agg #[.int .u64 q.x.l0, .int .u64 q.x.l1, .int .u64 q.x.l2, .int .u64 q.x.l3, .int .u64 q.x.l4, .int .u64 q.y.l0, .int .u64 q.y.l1, .int .u64 q.y.l2, .int .u64 q.y.l3, .int .u64 q.y.l4, .int .u64 q.z.l0, .int .u64 q.z.l1, .int .u64 q.z.l2, .int .u64 q.z.l3, .int .u64 q.z.l4, .int .u64 q.t.l0, .int .u64 q.t.l1, .int .u64 q.t.l2, .int .u64 q.t.l3, .int .u64 q.t.l4]] w fun e w' => e = .returned (.bool b) ∧ Below w.heap.size w w' := by
  obtain ⟨a, ta, ea, qa⟩ := mul_fe p.x q.z hp.x hq.z
  have ka := kx_mul p.x q.z _ ea
  obtain ⟨b, tb, eb, qb⟩ := mul_fe q.x p.z hq.x hp.z
  have kb := kx_mul q.x p.z _ eb
  obtain ⟨c, tc, ec, qc⟩ := mul_fe p.y q.z hp.y hq.z
  have kc := kx_mul p.y q.z _ ec
  obtain ⟨d, td, ed, qd⟩ := mul_fe q.y p.z hq.y hp.z
  have kd := kx_mul q.y p.z _ ed
  have hs := rx_same _ _ _ _ _ _ _ _ P Q hp.rx hq.rx
  by_cases h1 : kx a = kx b
  · refine ⟨decide (c.num % (P25 : Int) = d.num % (P25 : Int)), ?_, fun w => same_yes_w p.x p.y p.z p.t q.x q.y q.z q.t a b c d _ qa qb (fun w => same_fe a b ta tb true (by rw [decide_eq_true ((kx_num a b).2 h1)]) w) qc qd (fun w => same_fe c d tc td _ rfl w) w⟩
    rw [decide_eq_true_eq, kx_num, ← hs, kc, kd, ← ka, ← kb]
    exact ⟨fun h => ⟨h1, h⟩, fun h => h.2⟩
  · refine ⟨false, ?_, fun w => same_no_w p.x p.y p.z p.t q.x q.y q.z q.t a b qa qb (fun w => same_fe a b ta tb false (by rw [decide_eq_false (fun h => h1 ((kx_num a b).1 h))]) w) w⟩
    rw [← hs, ← ka, ← kb]
    exact ⟨fun h => Bool.noConfusion h, fun h => absurd h.1 h1⟩
theorem small_p (p : P4) (P : Pt) (hp : p.Is P) : ∃ b : Bool, (b = true ↔ ((P.add P).add (P.add P)).add ((P.add P).add (P.add P)) = Pt.zero) ∧ ∀ w : World, Gf w → Calls Tryd.prog 27 #[.agg #[.int .u64 p.x.l0, .int .u64 p.x.l1, .int .u64 p.x.l2, .int .u64 p.x.l3, .int .u64 p.x.l4, .int .u64 p.y.l0, .int .u64 p.y.l1, .int .u64 p.y.l2, .int .u64 p.y.l3, .int .u64 p.y.l4, .int .u64 p.z.l0, .int .u64 p.z.l1, .int .u64 p.z.l2, .int .u64 p.z.l3, .int .u64 p.z.l4, .int .u64 p.t.l0, .int .u64 p.t.l1, .int .u64 p.t.l2, .int .u64 p.t.l3, .int .u64 p.t.l4]] w fun e w' => e = .returned (.bool b) ∧ Below w.heap.size w w' := by
  obtain ⟨m, hm, qm⟩ := eight_p p P hp
  obtain ⟨z, hz, qz⟩ := zero_p
  obtain ⟨b, hb, qb⟩ := same_p m z _ _ hm hz
  exact ⟨b, hb, fun w hZ => small_w p.x p.y p.z p.t m.x m.y m.z m.t z.x z.y z.z z.t b qm qz qb w hZ⟩
theorem pair_p (p : P4) (P : Pt) (hp : p.Is P) : ∃ x y : L5, x.Tm ∧ y.Tm ∧ kx x = P.x ∧ kx y = P.y ∧ ∀ w : World, Calls Tryd.prog 10 #[.agg #[.int .u64 p.x.l0, .int .u64 p.x.l1, .int .u64 p.x.l2, .int .u64 p.x.l3, .int .u64 p.x.l4, .int .u64 p.y.l0, .int .u64 p.y.l1, .int .u64 p.y.l2, .int .u64 p.y.l3, .int .u64 p.y.l4, .int .u64 p.z.l0, .int .u64 p.z.l1, .int .u64 p.z.l2, .int .u64 p.z.l3, .int .u64 p.z.l4, .int .u64 p.t.l0, .int .u64 p.t.l1, .int .u64 p.t.l2, .int .u64 p.t.l3, .int .u64 p.t.l4]] w fun e w' => e = .returned (.tuple #[.agg #[.int .u64 x.l0, .int .u64 x.l1, .int .u64 x.l2, .int .u64 x.l3, .int .u64 x.l4], .agg #[.int .u64 y.l0, .int .u64 y.l1, .int .u64 y.l2, .int .u64 y.l3, .int .u64 y.l4]]) ∧ Below w.heap.size w w' := by
  obtain ⟨i, ti, ei, qi⟩ := inv_fe p.z hp.z
  have ki := kx_inv p.z i ei hp.rx.1
  obtain ⟨a, ta, ea, qa⟩ := mul_fe p.x i hp.x ti
  obtain ⟨b, tb, eb, qb⟩ := mul_fe p.y i hp.y ti
  obtain ⟨h1, h2⟩ := rx_pair _ _ _ _ _ P hp.rx ki
  exact ⟨a, b, ta, tb, (kx_mul _ _ _ ea).trans h1, (kx_mul _ _ _ eb).trans h2, fun w => pair_w p.x p.y p.z p.t i a b qi qa qb w⟩
end Go.Proofs.YtkbiiolkekpkiaaDoor.Ed
