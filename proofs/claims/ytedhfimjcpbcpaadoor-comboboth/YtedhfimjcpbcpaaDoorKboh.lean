/-
  The contracts of the program's points of layer 10: its sums, doubles, other sides, nought, base, and whether two are one. Conditions: as each theorem says.
-/
import Derived.Test.YtedhfimjcpbcpaaDoorKbog
import Derived.Test.YtedhfimjcpbcpaaDoorKboc
import Derived.Test.YtedhfimjcpbcpaaDoorKboe
namespace Go.Proofs.YtedhfimjcpbcpaaDoor.Ed
open Go.RowKit
set_option linter.unusedVariables false
set_option linter.unusedSimpArgs false

section
variable {m0 : Nat} [NeZero m0]
theorem two_of (a b : Fin m0) : (a + a)*b = a*b + a*b := by grind
theorem dbl_e2 (x y z : Fin m0) : (x*z + y*z)*(x*z + y*z) - ((x*z)*(x*z) + (y*z)*(y*z)) = (z*z)*(x*y + y*x) := by grind
theorem dbl_h2 (x y z : Fin m0) : (x*z)*(x*z) + (y*z)*(y*z) = (z*z)*(y*y + x*x) := by grind
theorem dbl_f2 (d x y z : Fin m0) (o : On d x y) : z*z + z*z - ((y*z)*(y*z) - (x*z)*(x*z)) = (z*z)*(1 - d*x*x*y*y) := by unfold On at o; grind
end
theorem rx_dbl2 (X Y Z T : K) (p : Pt) (hp : Rx X Y Z T p) :
    Rx (((X + Y)*(X + Y) - (X*X + Y*Y))*((Z*Z + Z*Z) - (Y*Y - X*X))) ((Y*Y - X*X)*(X*X + Y*Y)) (((Z*Z + Z*Z) - (Y*Y - X*X))*(Y*Y - X*X)) (((X + Y)*(X + Y) - (X*X + Y*Y))*(X*X + Y*Y)) (p.add p) := by
  obtain ⟨z, rfl, rfl, rfl⟩ := hp
  exact rx_sum p p (Z*Z) (Z*Z) _ _ _ _ (mul_ne _ _ z z) (mul_ne _ _ z z) (dbl_e2 _ _ _) (dbl_g _ _ _ _ p.on) (dbl_h2 _ _ _) (dbl_f2 _ _ _ _ p.on)
theorem one_tm : L5.Tm ⟨1, 0, 0, 0, 0⟩ := tm_small 1 (by omega)
theorem nil_tm : L5.Tm ⟨0, 0, 0, 0, 0⟩ := tm_small 0 (by omega)
theorem kx_one : kx ⟨1, 0, 0, 0, 0⟩ = 1 := kx_small 1 (by decide +kernel)
theorem kx_nil : kx ⟨0, 0, 0, 0, 0⟩ = 0 := kx_small 0 (by decide +kernel)
theorem square_one (x : L5) (hx : x.Tm) : ∃ t : L5, t.Tm ∧ kx t = kx x * kx x ∧ ∀ w : World, Calls Tryd.prog 80 #[.agg #[.int .u64 x.l0, .int .u64 x.l1, .int .u64 x.l2, .int .u64 x.l3, .int .u64 x.l4], .int .i64 1] w fun e w' => e = .returned (.agg #[.int .u64 t.l0, .int .u64 t.l1, .int .u64 t.l2, .int .u64 t.l3, .int .u64 t.l4]) ∧ Below w.heap.size w w' := by
  obtain ⟨t, h1, h2, h3⟩ := square_fe x 1 hx (by omega) 1 (Or.inr (Or.inl ⟨by omega, by omega, rfl⟩))
  exact ⟨t, h1, kx_sq x t h2, h3⟩
theorem over_p (e g h f : L5) (te : e.Tm) (tg : g.Tm) (th : h.Tm) (tf : f.Tm) : ∃ c : P4, (c.x.Tm ∧ c.y.Tm ∧ c.z.Tm ∧ c.t.Tm) ∧ (kx c.x = kx e * kx f ∧ kx c.y = kx g * kx h ∧ kx c.z = kx f * kx g ∧ kx c.t = kx e * kx h) ∧
    ∀ w : World, Calls Tryd.prog 72 #[.agg #[.int .u64 e.l0, .int .u64 e.l1, .int .u64 e.l2, .int .u64 e.l3, .int .u64 e.l4], .agg #[.int .u64 g.l0, .int .u64 g.l1, .int .u64 g.l2, .int .u64 g.l3, .int .u64 g.l4], .agg #[.int .u64 h.l0, .int .u64 h.l1, .int .u64 h.l2, .int .u64 h.l3, .int .u64 h.l4], .agg #[.int .u64 f.l0, .int .u64 f.l1, .int .u64 f.l2, .int .u64 f.l3, .int .u64 f.l4]] w fun e w' => e = .returned (.agg #[.int .u64 c.x.l0, .int .u64 c.x.l1, .int .u64 c.x.l2, .int .u64 c.x.l3, .int .u64 c.x.l4, .int .u64 c.y.l0, .int .u64 c.y.l1, .int .u64 c.y.l2, .int .u64 c.y.l3, .int .u64 c.y.l4, .int .u64 c.z.l0, .int .u64 c.z.l1, .int .u64 c.z.l2, .int .u64 c.z.l3, .int .u64 c.z.l4, .int .u64 c.t.l0, .int .u64 c.t.l1, .int .u64 c.t.l2, .int .u64 c.t.l3, .int .u64 c.t.l4]) ∧ Below w.heap.size w w' := by
  obtain ⟨a, ta, ea, qa⟩ := mul_fe e f te tf
  have ka := kx_mul e f _ ea
  obtain ⟨b, tb, eb, qb⟩ := mul_fe g h tg th
  have kb := kx_mul g h _ eb
  obtain ⟨c, tc, ec, qc⟩ := mul_fe f g tf tg
  have kc := kx_mul f g _ ec
  obtain ⟨d, td, ed, qd⟩ := mul_fe e h te th
  have kd := kx_mul e h _ ed
  exact ⟨⟨a, b, c, d⟩, ⟨ta, tb, tc, td⟩, ⟨ka, kb, kc, kd⟩, fun w => over_w e g h f a b c d qa qb qc qd w⟩
theorem of_p (x y : L5) (tx : x.Tm) (ty : y.Tm) : ∃ c : P4, (c.x = x ∧ c.y = y ∧ c.z = ⟨1, 0, 0, 0, 0⟩ ∧ c.t.Tm ∧ kx c.t = kx x * kx y) ∧
    ∀ w : World, Calls Tryd.prog 40 #[.agg #[.int .u64 x.l0, .int .u64 x.l1, .int .u64 x.l2, .int .u64 x.l3, .int .u64 x.l4], .agg #[.int .u64 y.l0, .int .u64 y.l1, .int .u64 y.l2, .int .u64 y.l3, .int .u64 y.l4]] w fun e w' => e = .returned (.agg #[.int .u64 c.x.l0, .int .u64 c.x.l1, .int .u64 c.x.l2, .int .u64 c.x.l3, .int .u64 c.x.l4, .int .u64 c.y.l0, .int .u64 c.y.l1, .int .u64 c.y.l2, .int .u64 c.y.l3, .int .u64 c.y.l4, .int .u64 c.z.l0, .int .u64 c.z.l1, .int .u64 c.z.l2, .int .u64 c.z.l3, .int .u64 c.z.l4, .int .u64 c.t.l0, .int .u64 c.t.l1, .int .u64 c.t.l2, .int .u64 c.t.l3, .int .u64 c.t.l4]) ∧ Below w.heap.size w w' := by
  obtain ⟨a, ta, ea, qa⟩ := mul_fe x y tx ty
  have ka := kx_mul x y _ ea
  exact ⟨⟨x, y, ⟨1, 0, 0, 0, 0⟩, a⟩, ⟨rfl, rfl, rfl, ta, ka⟩, fun w => of_w x y a (fun w => small_fe 1 (by omega) w) qa w⟩
theorem of_is (x y : L5) (tx : x.Tm) (ty : y.Tm) (p : Pt) (hx : kx x = p.x) (hy : kx y = p.y) : ∃ c : P4, c.Is p ∧
    ∀ w : World, Calls Tryd.prog 40 #[.agg #[.int .u64 x.l0, .int .u64 x.l1, .int .u64 x.l2, .int .u64 x.l3, .int .u64 x.l4], .agg #[.int .u64 y.l0, .int .u64 y.l1, .int .u64 y.l2, .int .u64 y.l3, .int .u64 y.l4]] w fun e w' => e = .returned (.agg #[.int .u64 c.x.l0, .int .u64 c.x.l1, .int .u64 c.x.l2, .int .u64 c.x.l3, .int .u64 c.x.l4, .int .u64 c.y.l0, .int .u64 c.y.l1, .int .u64 c.y.l2, .int .u64 c.y.l3, .int .u64 c.y.l4, .int .u64 c.z.l0, .int .u64 c.z.l1, .int .u64 c.z.l2, .int .u64 c.z.l3, .int .u64 c.z.l4, .int .u64 c.t.l0, .int .u64 c.t.l1, .int .u64 c.t.l2, .int .u64 c.t.l3, .int .u64 c.t.l4]) ∧ Below w.heap.size w w' := by
  obtain ⟨c, ⟨h1, h2, h3, h4, h5⟩, h6⟩ := of_p x y tx ty
  refine ⟨c, ⟨by rw [h1]; exact tx, by rw [h2]; exact ty, by rw [h3]; exact one_tm, h4, ?_⟩, h6⟩
  rw [h5, h1, h2, h3, hx, hy, kx_one]
  exact rx_one p
theorem zero_p : ∃ c : P4, c.Is Pt.zero ∧ ∀ w : World, Calls Tryd.prog 33 #[] w fun e w' => e = .returned (.agg #[.int .u64 c.x.l0, .int .u64 c.x.l1, .int .u64 c.x.l2, .int .u64 c.x.l3, .int .u64 c.x.l4, .int .u64 c.y.l0, .int .u64 c.y.l1, .int .u64 c.y.l2, .int .u64 c.y.l3, .int .u64 c.y.l4, .int .u64 c.z.l0, .int .u64 c.z.l1, .int .u64 c.z.l2, .int .u64 c.z.l3, .int .u64 c.z.l4, .int .u64 c.t.l0, .int .u64 c.t.l1, .int .u64 c.t.l2, .int .u64 c.t.l3, .int .u64 c.t.l4]) ∧ Below w.heap.size w w' := by
  obtain ⟨c, h1, h2⟩ := of_is ⟨0, 0, 0, 0, 0⟩ ⟨1, 0, 0, 0, 0⟩ nil_tm one_tm Pt.zero kx_nil kx_one
  exact ⟨c, h1, fun w => zero_w _ _ _ _ (fun w => small_fe 0 (by omega) w) (fun w => small_fe 1 (by omega) w) h2 w⟩
theorem base_p : ∃ c : P4, c.Is baseP ∧ ∀ w : World, GbaseX w → GbaseY w → Calls Tryd.prog 25 #[] w fun e w' => e = .returned (.agg #[.int .u64 c.x.l0, .int .u64 c.x.l1, .int .u64 c.x.l2, .int .u64 c.x.l3, .int .u64 c.x.l4, .int .u64 c.y.l0, .int .u64 c.y.l1, .int .u64 c.y.l2, .int .u64 c.y.l3, .int .u64 c.y.l4, .int .u64 c.z.l0, .int .u64 c.z.l1, .int .u64 c.z.l2, .int .u64 c.z.l3, .int .u64 c.z.l4, .int .u64 c.t.l0, .int .u64 c.t.l1, .int .u64 c.t.l2, .int .u64 c.t.l3, .int .u64 c.t.l4]) ∧ Below w.heap.size w w' := by
  obtain ⟨c, h1, h2⟩ := of_is baseX_ baseY_ baseX_tm baseY_tm baseP baseX_k baseY_k
  exact ⟨c, h1, fun w hx hy => base_w _ _ _ _ h2 w hx hy⟩
set_option maxHeartbeats 2000000 in
theorem add_p (p q : P4) (P Q : Pt) (hp : p.Is P) (hq : q.Is Q) : ∃ c : P4, c.Is (P.add Q) ∧ ∀ w : World, GtwiceD w → Gf w → Calls Tryd.prog 28 #[.agg #[.int .u64 p.x.l0, .int .u64 p.x.l1, .int .u64 p.x.l2, .int .u64 p.x.l3, .int .u64 p.x.l4, .int .u64 p.y.l0, .int .u64 p.y.l1, .int .u64 p.y.l2, .int .u64 p.y.l3, .int .u64 p.y.l4, .int .u64 p.z.l0, .int .u64 p.z.l1, .int .u64 p.z.l2, .int .u64 p.z.l3, .int .u64 p.z.l4, .int .u64 p.t.l0, .int .u64 p.t.l1, .int .u64 p.t.l2, .int .u64 p.t.l3, .int .u64 p.t.l4], .agg #[.int .u64 q.x.l0, .int .u64 q.x.l1, .int .u64 q.x.l2, .int .u64 q.x.l3, .int .u64 q.x.l4, .int .u64 q.y.l0, .int .u64 q.y.l1, .int .u64 q.y.l2, .int .u64 q.y.l3, .int .u64 q.y.l4, .int .u64 q.z.l0, .int .u64 q.z.l1, .int .u64 q.z.l2, .int .u64 q.z.l3, .int .u64 q.z.l4, .int .u64 q.t.l0, .int .u64 q.t.l1, .int .u64 q.t.l2, .int .u64 q.t.l3, .int .u64 q.t.l4]] w fun e w' => e = .returned (.agg #[.int .u64 c.x.l0, .int .u64 c.x.l1, .int .u64 c.x.l2, .int .u64 c.x.l3, .int .u64 c.x.l4, .int .u64 c.y.l0, .int .u64 c.y.l1, .int .u64 c.y.l2, .int .u64 c.y.l3, .int .u64 c.y.l4, .int .u64 c.z.l0, .int .u64 c.z.l1, .int .u64 c.z.l2, .int .u64 c.z.l3, .int .u64 c.z.l4, .int .u64 c.t.l0, .int .u64 c.t.l1, .int .u64 c.t.l2, .int .u64 c.t.l3, .int .u64 c.t.l4]) ∧ Below w.heap.size w w' := by
  obtain ⟨da, tda, eda, qda⟩ := sub_ff p.y p.x hp.y hp.x
  have kda := kx_sub p.y p.x _ eda
  obtain ⟨db, tdb, edb, qdb⟩ := sub_ff q.y q.x hq.y hq.x
  have kdb := kx_sub q.y q.x _ edb
  obtain ⟨dn, tdn, edn, qdn⟩ := mul_fe da db tda tdb
  have kdn := kx_mul da db _ edn
  obtain ⟨ua, tua, eua, qua⟩ := add_fe p.y p.x hp.y hp.x
  have kua := kx_add p.y p.x _ eua
  obtain ⟨ub, tub, eub, qub⟩ := add_fe q.y q.x hq.y hq.x
  have kub := kx_add q.y q.x _ eub
  obtain ⟨up, tup, eup, qup⟩ := mul_fe ua ub tua tub
  have kup := kx_mul ua ub _ eup
  obtain ⟨ca, tca, eca, qca⟩ := mul_fe p.t twiceD_ hp.t twiceD_tm
  have kca := kx_mul p.t twiceD_ _ eca
  obtain ⟨cr, tcr, ecr, qcr⟩ := mul_fe ca q.t tca hq.t
  have kcr := kx_mul ca q.t _ ecr
  obtain ⟨ba, tba, eba, qba⟩ := add_fe p.z p.z hp.z hp.z
  have kba := kx_add p.z p.z _ eba
  obtain ⟨bo, tbo, ebo, qbo⟩ := mul_fe ba q.z tba hq.z
  have kbo := kx_mul ba q.z _ ebo
  obtain ⟨ea, tea, eea, qea⟩ := sub_ff up dn tup tdn
  have kea := kx_sub up dn _ eea
  obtain ⟨ga, tga, ega, qga⟩ := add_fe bo cr tbo tcr
  have kga := kx_add bo cr _ ega
  obtain ⟨ha, tha, eha, qha⟩ := add_fe up dn tup tdn
  have kha := kx_add up dn _ eha
  obtain ⟨fa, tfa, efa, qfa⟩ := sub_ff bo cr tbo tcr
  have kfa := kx_sub bo cr _ efa
  obtain ⟨c, ⟨c1, c2, c3, c4⟩, ⟨m1, m2, m3, m4⟩, qo⟩ := over_p ea ga ha fa tea tga tha tfa
  refine ⟨c, ⟨c1, c2, c3, c4, ?_⟩, fun w hT hZ => add_w p.x p.y p.z p.t q.x q.y q.z q.t da db dn ua ub up ca cr ba bo ea ga ha fa c.x c.y c.z c.t qda qdb qdn qua qub qup qca qcr qba qbo qea qga qha qfa qo w hT hZ⟩
  rw [m1, m2, m3, m4, kea, kga, kha, kfa]
  refine rx_add _ _ _ _ _ _ _ _ (kx dn) (kx up) (kx cr) (kx bo) P Q hp.rx hq.rx ?_ ?_ ?_ ?_
  · rw [kdn, kda, kdb]
  · rw [kup, kua, kub]
  · rw [kcr, kca, twiceD_k]
  · rw [kbo, kba, two_of]
set_option maxHeartbeats 2000000 in
theorem double_p (p : P4) (P : Pt) (hp : p.Is P) : ∃ c : P4, c.Is (P.add P) ∧ ∀ w : World, Gf w → Calls Tryd.prog 34 #[.agg #[.int .u64 p.x.l0, .int .u64 p.x.l1, .int .u64 p.x.l2, .int .u64 p.x.l3, .int .u64 p.x.l4, .int .u64 p.y.l0, .int .u64 p.y.l1, .int .u64 p.y.l2, .int .u64 p.y.l3, .int .u64 p.y.l4, .int .u64 p.z.l0, .int .u64 p.z.l1, .int .u64 p.z.l2, .int .u64 p.z.l3, .int .u64 p.z.l4, .int .u64 p.t.l0, .int .u64 p.t.l1, .int .u64 p.t.l2, .int .u64 p.t.l3, .int .u64 p.t.l4]] w fun e w' => e = .returned (.agg #[.int .u64 c.x.l0, .int .u64 c.x.l1, .int .u64 c.x.l2, .int .u64 c.x.l3, .int .u64 c.x.l4, .int .u64 c.y.l0, .int .u64 c.y.l1, .int .u64 c.y.l2, .int .u64 c.y.l3, .int .u64 c.y.l4, .int .u64 c.z.l0, .int .u64 c.z.l1, .int .u64 c.z.l2, .int .u64 c.z.l3, .int .u64 c.z.l4, .int .u64 c.t.l0, .int .u64 c.t.l1, .int .u64 c.t.l2, .int .u64 c.t.l3, .int .u64 c.t.l4]) ∧ Below w.heap.size w w' := by
  obtain ⟨sx, tsx, ksx, qsx⟩ := square_one p.x hp.x
  obtain ⟨sy, tsy, ksy, qsy⟩ := square_one p.y hp.y
  obtain ⟨sz, tsz, ksz, qsz⟩ := square_one p.z hp.z
  obtain ⟨su, tsu, esu, qsu⟩ := add_fe sx sy tsx tsy
  have ksu := kx_add sx sy _ esu
  obtain ⟨xy, txy, exy, qxy⟩ := add_fe p.x p.y hp.x hp.y
  have kxy := kx_add p.x p.y _ exy
  obtain ⟨sq, tsq, ksq, qsq⟩ := square_one xy txy
  obtain ⟨tw, ttw, etw, qtw⟩ := sub_ff sq su tsq tsu
  have ktw := kx_sub sq su _ etw
  obtain ⟨re, tre, ere, qre⟩ := sub_ff sy sx tsy tsx
  have kre := kx_sub sy sx _ ere
  obtain ⟨zz, tzz, ezz, qzz⟩ := add_fe sz sz tsz tsz
  have kzz := kx_add sz sz _ ezz
  obtain ⟨fa, tfa, efa, qfa⟩ := sub_ff zz re tzz tre
  have kfa := kx_sub zz re _ efa
  obtain ⟨c, ⟨c1, c2, c3, c4⟩, ⟨m1, m2, m3, m4⟩, qo⟩ := over_p tw re su fa ttw tre tsu tfa
  refine ⟨c, ⟨c1, c2, c3, c4, ?_⟩, fun w hZ => double_w p.x p.y p.z p.t sx sy sz su xy sq tw re zz fa c.x c.y c.z c.t qsx qsy qsz qsu qxy qsq qtw qre qzz qfa qo w hZ⟩
  rw [m1, m2, m3, m4, kfa, kzz, ktw, ksq, kxy, kre, ksu, ksx, ksy, ksz]
  exact rx_dbl2 _ _ _ _ P hp.rx
theorem eight_p (p : P4) (P : Pt) (hp : p.Is P) : ∃ c : P4, c.Is (((P.add P).add (P.add P)).add ((P.add P).add (P.add P))) ∧ ∀ w : World, Gf w → Calls Tryd.prog 29 #[.agg #[.int .u64 p.x.l0, .int .u64 p.x.l1, .int .u64 p.x.l2, .int .u64 p.x.l3, .int .u64 p.x.l4, .int .u64 p.y.l0, .int .u64 p.y.l1, .int .u64 p.y.l2, .int .u64 p.y.l3, .int .u64 p.y.l4, .int .u64 p.z.l0, .int .u64 p.z.l1, .int .u64 p.z.l2, .int .u64 p.z.l3, .int .u64 p.z.l4, .int .u64 p.t.l0, .int .u64 p.t.l1, .int .u64 p.t.l2, .int .u64 p.t.l3, .int .u64 p.t.l4]] w fun e w' => e = .returned (.agg #[.int .u64 c.x.l0, .int .u64 c.x.l1, .int .u64 c.x.l2, .int .u64 c.x.l3, .int .u64 c.x.l4, .int .u64 c.y.l0, .int .u64 c.y.l1, .int .u64 c.y.l2, .int .u64 c.y.l3, .int .u64 c.y.l4, .int .u64 c.z.l0, .int .u64 c.z.l1, .int .u64 c.z.l2, .int .u64 c.z.l3, .int .u64 c.z.l4, .int .u64 c.t.l0, .int .u64 c.t.l1, .int .u64 c.t.l2, .int .u64 c.t.l3, .int .u64 c.t.l4]) ∧ Below w.heap.size w w' := by
  obtain ⟨a, ha, qa⟩ := double_p p P hp
  obtain ⟨b, hb, qb⟩ := double_p a _ ha
  obtain ⟨c, hc, qc⟩ := double_p b _ hb
  exact ⟨c, hc, fun w hZ => eight_w p.x p.y p.z p.t a.x a.y a.z a.t b.x b.y b.z b.t c.x c.y c.z c.t qa qb qc w hZ⟩
theorem kx_num (x y : L5) : x.num % (P25 : Int) = y.num % (P25 : Int) ↔ kx x = kx y := by
  rw [kx_eq, ← x.nn_eq, ← y.nn_eq]
  omega
theorem same_p (p q : P4) (P Q : Pt) (hp : p.Is P) (hq : q.Is Q) : ∃ b : Bool, (b = true ↔ P = Q) ∧ ∀ w : World, Calls Tryd.prog 18 #[.agg #[.int .u64 p.x.l0, .int .u64 p.x.l1, .int .u64 p.x.l2, .int .u64 p.x.l3, .int .u64 p.x.l4, .int .u64 p.y.l0, .int .u64 p.y.l1, .int .u64 p.y.l2, .int .u64 p.y.l3, .int .u64 p.y.l4, .int .u64 p.z.l0, .int .u64 p.z.l1, .int .u64 p.z.l2, .int .u64 p.z.l3, .int .u64 p.z.l4, .int .u64 p.t.l0, .int .u64 p.t.l1, .int .u64 p.t.l2, .int .u64 p.t.l3, .int .u64 p.t.l4], .agg #[.int .u64 q.x.l0, .int .u64 q.x.l1, .int .u64 q.x.l2, .int .u64 q.x.l3, .int .u64 q.x.l4, .int .u64 q.y.l0, .int .u64 q.y.l1, .int .u64 q.y.l2, .int .u64 q.y.l3, .int .u64 q.y.l4, .int .u64 q.z.l0, .int .u64 q.z.l1, .int .u64 q.z.l2, .int .u64 q.z.l3, .int .u64 q.z.l4, .int .u64 q.t.l0, .int .u64 q.t.l1, .int .u64 q.t.l2, .int .u64 q.t.l3, .int .u64 q.t.l4]] w fun e w' => e = .returned (.bool b) ∧ Below w.heap.size w w' := by
  obtain ⟨a, ta, ea, qa⟩ := mul_fe p.x q.z hp.x hq.z
  have ka := kx_mul p.x q.z _ ea
  obtain ⟨b, tb, eb, qb⟩ := mul_fe q.x p.z hq.x hp.z
  have kb := kx_mul q.x p.z _ eb
  obtain ⟨c, tc, ec, qc⟩ := mul_fe p.y q.z hp.y hq.z
  have kc := kx_mul p.y q.z _ ec
  obtain ⟨d, td, ed, qd⟩ := mul_fe q.y p.z hq.y hp.z
  have kd := kx_mul q.y p.z _ ed
  have hs := rx_same _ _ _ _ _ _ _ _ P Q hp.rx hq.rx
  by_cases h1 : kx a = kx b
  · refine ⟨decide (c.num % (P25 : Int) = d.num % (P25 : Int)), ?_, fun w => same_yes_w p.x p.y p.z p.t q.x q.y q.z q.t a b c d _ qa qb (fun w => same_fe a b ta tb true (by rw [decide_eq_true ((kx_num a b).2 h1)]) w) qc qd (fun w => same_fe c d tc td _ rfl w) w⟩
    rw [decide_eq_true_eq, kx_num, ← hs, kc, kd, ← ka, ← kb]
    exact ⟨fun h => ⟨h1, h⟩, fun h => h.2⟩
  · refine ⟨false, ?_, fun w => same_no_w p.x p.y p.z p.t q.x q.y q.z q.t a b qa qb (fun w => same_fe a b ta tb false (by rw [decide_eq_false (fun h => h1 ((kx_num a b).1 h))]) w) w⟩
    rw [← hs, ← ka, ← kb]
    exact ⟨fun h => Bool.noConfusion h, fun h => absurd h.1 h1⟩
theorem pair_p (p : P4) (P : Pt) (hp : p.Is P) : ∃ x y : L5, x.Tm ∧ y.Tm ∧ kx x = P.x ∧ kx y = P.y ∧ ∀ w : World, Calls Tryd.prog 54 #[.agg #[.int .u64 p.x.l0, .int .u64 p.x.l1, .int .u64 p.x.l2, .int .u64 p.x.l3, .int .u64 p.x.l4, .int .u64 p.y.l0, .int .u64 p.y.l1, .int .u64 p.y.l2, .int .u64 p.y.l3, .int .u64 p.y.l4, .int .u64 p.z.l0, .int .u64 p.z.l1, .int .u64 p.z.l2, .int .u64 p.z.l3, .int .u64 p.z.l4, .int .u64 p.t.l0, .int .u64 p.t.l1, .int .u64 p.t.l2, .int .u64 p.t.l3, .int .u64 p.t.l4]] w fun e w' => e = .returned (.tuple #[.agg #[.int .u64 x.l0, .int .u64 x.l1, .int .u64 x.l2, .int .u64 x.l3, .int .u64 x.l4], .agg #[.int .u64 y.l0, .int .u64 y.l1, .int .u64 y.l2, .int .u64 y.l3, .int .u64 y.l4]]) ∧ Below w.heap.size w w' := by
  obtain ⟨i, ti, ei, qi⟩ := inv_fe p.z hp.z
  have ki := kx_inv p.z i ei hp.rx.1
  obtain ⟨a, ta, ea, qa⟩ := mul_fe p.x i hp.x ti
  obtain ⟨b, tb, eb, qb⟩ := mul_fe p.y i hp.y ti
  obtain ⟨h1, h2⟩ := rx_pair _ _ _ _ _ P hp.rx ki
  exact ⟨a, b, ta, tb, (kx_mul _ _ _ ea).trans h1, (kx_mul _ _ _ eb).trans h2, fun w => pair_w p.x p.y p.z p.t i a b qi qa qb w⟩
end Go.Proofs.YtedhfimjcpbcpaaDoor.Ed

/-
  The program's across of layer 10: the walk, given what each call answers. Conditions: as each theorem says.
-/
namespace Go.Proofs.YtedhfimjcpbcpaaDoor.Ed
open Go.RowKit
set_option linter.unusedVariables false
set_option linter.unusedSimpArgs false

set_option maxRecDepth 100000 in
set_option maxHeartbeats 8000000 in
theorem across_w (ya sq ua ma va za : L5) (tb : Bool)
    (Q1 : Hid (∀ w : World, Calls Tryd.prog 79 #[.int .u32 1] w fun e w' => e = .returned (.agg #[.int .u64 1, .int .u64 0, .int .u64 0, .int .u64 0, .int .u64 0]) ∧ Below w.heap.size w w'))
    (Q2 : Hid (∀ w : World, Calls Tryd.prog 80 #[.agg #[.int .u64 ya.l0, .int .u64 ya.l1, .int .u64 ya.l2, .int .u64 ya.l3, .int .u64 ya.l4], .int .i64 1] w fun e w' => e = .returned (.agg #[.int .u64 sq.l0, .int .u64 sq.l1, .int .u64 sq.l2, .int .u64 sq.l3, .int .u64 sq.l4]) ∧ Below w.heap.size w w'))
    (Q3 : Hid (∀ w : World, Gl w → Calls Tryd.prog 70 #[.agg #[.int .u64 sq.l0, .int .u64 sq.l1, .int .u64 sq.l2, .int .u64 sq.l3, .int .u64 sq.l4], .agg #[.int .u64 1, .int .u64 0, .int .u64 0, .int .u64 0, .int .u64 0]] w fun e w' => e = .returned (.agg #[.int .u64 ua.l0, .int .u64 ua.l1, .int .u64 ua.l2, .int .u64 ua.l3, .int .u64 ua.l4]) ∧ Below w.heap.size w w'))
    (Q4 : Hid (∀ w : World, Calls Tryd.prog 66 #[.agg #[.int .u64 929955233495203, .int .u64 466365720129213, .int .u64 1662059464998953, .int .u64 2033849074728123, .int .u64 1442794654840575], .agg #[.int .u64 sq.l0, .int .u64 sq.l1, .int .u64 sq.l2, .int .u64 sq.l3, .int .u64 sq.l4]] w fun e w' => e = .returned (.agg #[.int .u64 ma.l0, .int .u64 ma.l1, .int .u64 ma.l2, .int .u64 ma.l3, .int .u64 ma.l4]) ∧ Below w.heap.size w w'))
    (Q5 : Hid (∀ w : World, Calls Tryd.prog 71 #[.agg #[.int .u64 ma.l0, .int .u64 ma.l1, .int .u64 ma.l2, .int .u64 ma.l3, .int .u64 ma.l4], .agg #[.int .u64 1, .int .u64 0, .int .u64 0, .int .u64 0, .int .u64 0]] w fun e w' => e = .returned (.agg #[.int .u64 va.l0, .int .u64 va.l1, .int .u64 va.l2, .int .u64 va.l3, .int .u64 va.l4]) ∧ Below w.heap.size w w'))
    (Q6 : Hid (∀ w : World, Gl w → Calls Tryd.prog 83 #[.agg #[.int .u64 ua.l0, .int .u64 ua.l1, .int .u64 ua.l2, .int .u64 ua.l3, .int .u64 ua.l4], .agg #[.int .u64 va.l0, .int .u64 va.l1, .int .u64 va.l2, .int .u64 va.l3, .int .u64 va.l4]] w fun e w' => e = .returned (.tuple #[.agg #[.int .u64 za.l0, .int .u64 za.l1, .int .u64 za.l2, .int .u64 za.l3, .int .u64 za.l4], .bool tb]) ∧ Below w.heap.size w w'))
    (w : World) (D_0 : Hid (Gd w)) (Z_0 : Hid (Gl w)) :
    Calls Tryd.prog 37 #[.agg #[.int .u64 ya.l0, .int .u64 ya.l1, .int .u64 ya.l2, .int .u64 ya.l3, .int .u64 ya.l4]] w fun e w' => e = .returned (.tuple #[.agg #[.int .u64 za.l0, .int .u64 za.l1, .int .u64 za.l2, .int .u64 za.l3, .int .u64 za.l4], .bool tb]) ∧ Below w.heap.size w w' := by
  obtain ⟨ya0, ya1, ya2, ya3, ya4⟩ := ya
  obtain ⟨sq0, sq1, sq2, sq3, sq4⟩ := sq
  obtain ⟨ua0, ua1, ua2, ua3, ua4⟩ := ua
  obtain ⟨ma0, ma1, ma2, ma3, ma4⟩ := ma
  obtain ⟨va0, va1, va2, va3, va4⟩ := va
  obtain ⟨za0, za1, za2, za3, za4⟩ := za
  dsimp only at Q1 Q2 Q3 Q4 Q5 Q6 ⊢
  go_enter Tryd.func37, Tryd.ntmps37
  go_upto_region 1 with fail
  have HD := D_0.out.lt
  have HZ := Z_0.out.lt
  refine wp_cut (fun V => At 28 V w.heap.size [.int .u64 ya0, .int .u64 ya1, .int .u64 ya2, .int .u64 ya3, .int .u64 ya4] ∧ At 28 V (w.heap.size + 1) [.int .u64 0, .int .u64 0, .int .u64 0, .int .u64 0, .int .u64 0] ∧ Gd V ∧ Gl V ∧ Below w.heap.size w V) ⟨?_, ?_, ?_, ?_, ?_⟩ ?_
  · (repeat (first | refine At.drew ?_ | refine At.drewN ?_ _ | (refine at_new2 _ _ _ _ ?_; simp; done) | refine at_alloc ?_ _))
  · (repeat (first | refine At.drew ?_ | refine At.drewN ?_ _ | (refine at_new2 _ _ _ _ ?_; simp; done) | refine at_alloc ?_ _))
  · refine D_0.out.grown ?_
    (repeat (first | exact Below.refl _ _ | refine Below.drew ?_ | refine below_drewN ?_ _ | refine Below.alloc ?_ (by simp <;> omega) _))
  · refine Z_0.out.grown ?_
    (repeat (first | exact Below.refl _ _ | refine Below.drew ?_ | refine below_drewN ?_ _ | refine Below.alloc ?_ (by simp <;> omega) _))
  · (repeat (first | exact Below.refl _ _ | refine Below.drew ?_ | refine below_drewN ?_ _ | refine Below.alloc ?_ (by simp <;> omega) _))
  rintro w1 ⟨k0, k1, k2, k3, k4⟩
  have B1_1 := hid k0
  have B2_1 := hid k1
  have D_1 := hid k2
  have Z_1 := hid k3
  have G_1 := hid k4
  clear k0 k1 k2 k3 k4 D_0 Z_0
  refine wp_region_grow (ob := (fun k => if k = 3 then some (.cells #[.int .u64 0, .int .u64 0, .int .u64 0, .int .u64 0, .int .u64 0] 28) else if k = 4 then some (.cells #[.int .u64 0, .int .u64 0, .int .u64 0, .int .u64 0, .int .u64 0] 28) else none)) (st := (fun k => if k = 5 then some (3, .cells #[.int .u64 1, .int .u64 0, .int .u64 0, .int .u64 0, .int .u64 0] 28) else if k = 6 then some (4, .cells #[.int .u64 sq0, .int .u64 sq1, .int .u64 sq2, .int .u64 sq3, .int .u64 sq4] 28) else none)) (by kernel_rfl) ?_
  simp only [List.size_toArray, List.length_cons, List.length_nil, Nat.reduceAdd, Array.replicate_succ, Array.replicate_zero, List.push_toArray, List.nil_append, List.cons_append]
  refine g_first 0 _ (.agg #[.int .u64 1, .int .u64 0, .int .u64 0, .int .u64 0, .int .u64 0]) rfl rfl rfl (by kernel_rfl) (by kernel_rfl) (by kernel_rfl) ?_ ?_
  · refine Or.inl ⟨by rfl, fun w' hw' => ?_⟩
    refine quiet_call (by go_simp) (Q1.out _)
  try simp only [List.getElem_toArray, List.getElem_cons_zero, List.getElem_cons_succ, Act.put, List.setIfInBounds_toArray, List.set_cons_zero, List.set_cons_succ]
  refine g_first 1 _ (.agg #[.int .u64 ya0, .int .u64 ya1, .int .u64 ya2, .int .u64 ya3, .int .u64 ya4]) rfl rfl rfl (by kernel_rfl) (by kernel_rfl) (by kernel_rfl) ?_ ?_
  · refine Or.inl ⟨by rfl, fun w' hw' => ?_⟩
    exact quiet_load 28 _ rfl _ 0 rfl _ _ (at_mid (B1_1.out.below hw') 0 _ rfl) Tryd.underlying28 rfl (by kernel_rfl)
  try simp only [List.getElem_toArray, List.getElem_cons_zero, List.getElem_cons_succ, Act.put, List.setIfInBounds_toArray, List.set_cons_zero, List.set_cons_succ]
  refine g_first 2 _ (.agg #[.int .u64 sq0, .int .u64 sq1, .int .u64 sq2, .int .u64 sq3, .int .u64 sq4]) rfl rfl rfl (by kernel_rfl) (by kernel_rfl) (by kernel_rfl) ?_ ?_
  · refine Or.inl ⟨by rfl, fun w' hw' => ?_⟩
    refine quiet_call (by go_simp) (Q2.out _)
  try simp only [List.getElem_toArray, List.getElem_cons_zero, List.getElem_cons_succ, Act.put, List.setIfInBounds_toArray, List.set_cons_zero, List.set_cons_succ]
  refine g_make 3 _ (.cells #[.int .u64 0, .int .u64 0, .int .u64 0, .int .u64 0, .int .u64 0] 28) (fun k => (decide (3 ≤ k ∧ k ≤ 4)) || (decide (5 ≤ k ∧ k ≤ 6) && k != 5)) rfl rfl rfl rfl ?_ ?_ (by kernel_rfl) (by kernel_rfl) (by kernel_rfl) (by kernel_rfl) (fun g4 => ?_)
  · intro a w
    go_simp
  · intro j hj
    simp only [Bool.or_eq_true, Bool.and_eq_true, decide_eq_true_eq, bne_iff_ne] at hj
    rcases hj with hj | ⟨hj, hne⟩
    · left
      rcases (show j = 3 ∨ j = 4 by omega) with rfl | rfl <;> simp
    · right
      rcases (show j = 5 ∨ j = 6 by omega) with rfl | rfl <;> first | exact ⟨_, _, rfl, by decide⟩ | omega
  try simp only [List.getElem_toArray, List.getElem_cons_zero, List.getElem_cons_succ, Act.put, List.setIfInBounds_toArray, List.set_cons_zero, List.set_cons_succ]
  refine g_make 4 _ (.cells #[.int .u64 0, .int .u64 0, .int .u64 0, .int .u64 0, .int .u64 0] 28) (fun k => (decide (3 ≤ k ∧ k ≤ 4)) || (decide (5 ≤ k ∧ k ≤ 6) && k != 6)) rfl rfl rfl rfl ?_ ?_ (by kernel_rfl) (by kernel_rfl) (by kernel_rfl) (by kernel_rfl) (fun g5 => ?_)
  · intro a w
    go_simp
  · intro j hj
    simp only [Bool.or_eq_true, Bool.and_eq_true, decide_eq_true_eq, bne_iff_ne] at hj
    rcases hj with hj | ⟨hj, hne⟩
    · left
      rcases (show j = 3 ∨ j = 4 by omega) with rfl | rfl <;> simp
    · right
      rcases (show j = 5 ∨ j = 6 by omega) with rfl | rfl <;> first | exact ⟨_, _, rfl, by decide⟩ | omega
  try simp only [List.getElem_toArray, List.getElem_cons_zero, List.getElem_cons_succ, Act.put, List.setIfInBounds_toArray, List.set_cons_zero, List.set_cons_succ]
  refine g_store 5 3 _ (.cells #[.int .u64 1, .int .u64 0, .int .u64 0, .int .u64 0, .int .u64 0] 28) g4 (.cells #[.int .u64 0, .int .u64 0, .int .u64 0, .int .u64 0, .int .u64 0] 28) (fun k => decide (5 ≤ k ∧ k ≤ 6) && k != 5) rfl rfl rfl rfl ?_ (by kernel_rfl) (by kernel_rfl) (by kernel_rfl) (by kernel_rfl) (by simp [upd]) ?_ ?_
  · intro j hj
    simp only [Bool.and_eq_true, decide_eq_true_eq, bne_iff_ne] at hj
    rcases (show j = 5 ∨ j = 6 by omega) with rfl | rfl <;> first | exact ⟨_, _, rfl, by decide⟩ | omega
  · exact stores_whole 28 _ _ rfl g4 [.int .u64 1, .int .u64 0, .int .u64 0, .int .u64 0, .int .u64 0] [.int .u64 0, .int .u64 0, .int .u64 0, .int .u64 0, .int .u64 0] rfl rfl rfl (by kernel_rfl) (by kernel_rfl)
  try simp only [List.getElem_toArray, List.getElem_cons_zero, List.getElem_cons_succ, Act.put, List.setIfInBounds_toArray, List.set_cons_zero, List.set_cons_succ]
  refine g_store 6 4 _ (.cells #[.int .u64 sq0, .int .u64 sq1, .int .u64 sq2, .int .u64 sq3, .int .u64 sq4] 28) g5 (.cells #[.int .u64 0, .int .u64 0, .int .u64 0, .int .u64 0, .int .u64 0] 28) (fun k => decide (5 ≤ k ∧ k ≤ 6) && k != 6) rfl rfl rfl rfl ?_ (by kernel_rfl) (by kernel_rfl) (by kernel_rfl) (by kernel_rfl) (by simp [upd]) ?_ ?_
  · intro j hj
    simp only [Bool.and_eq_true, decide_eq_true_eq, bne_iff_ne] at hj
    rcases (show j = 5 ∨ j = 6 by omega) with rfl | rfl <;> first | exact ⟨_, _, rfl, by decide⟩ | omega
  · exact stores_whole 28 _ _ rfl g5 [.int .u64 sq0, .int .u64 sq1, .int .u64 sq2, .int .u64 sq3, .int .u64 sq4] [.int .u64 0, .int .u64 0, .int .u64 0, .int .u64 0, .int .u64 0] rfl rfl rfl (by kernel_rfl) (by kernel_rfl)
  try simp only [List.getElem_toArray, List.getElem_cons_zero, List.getElem_cons_succ, Act.put, List.setIfInBounds_toArray, List.set_cons_zero, List.set_cons_succ]
  refine ⟨by kernel_rfl, fun w2 hV => ?_⟩
  have own4 := hV.own 3 _ (by simp [upd]; rfl)
  have B4_2 : Hid (At 28 w2 g4 [.int .u64 1, .int .u64 0, .int .u64 0, .int .u64 0, .int .u64 0]) := own4.2.2
  have szB4 : w.heap.size ≤ g4 := by have h1 := own4.1; have h2 := G_1.out.size; dsimp only at h1; omega
  have nlB1B4 : w.heap.size < g4 := by have h1 := own4.1; have h2 := B1_1.out.lt; dsimp only at h1; omega
  have nlB2B4 : (w.heap.size + 1) < g4 := by have h1 := own4.1; have h2 := B2_1.out.lt; dsimp only at h1; omega
  have own5 := hV.own 4 _ (by simp [upd]; rfl)
  have B5_2 : Hid (At 28 w2 g5 [.int .u64 sq0, .int .u64 sq1, .int .u64 sq2, .int .u64 sq3, .int .u64 sq4]) := own5.2.2
  have szB5 : w.heap.size ≤ g5 := by have h1 := own5.1; have h2 := G_1.out.size; dsimp only at h1; omega
  have nlB1B5 : w.heap.size < g5 := by have h1 := own5.1; have h2 := B1_1.out.lt; dsimp only at h1; omega
  have nlB2B5 : (w.heap.size + 1) < g5 := by have h1 := own5.1; have h2 := B2_1.out.lt; dsimp only at h1; omega
  have g := hV.bel
  have B1_2 := hid (B1_1.out.below g)
  have B2_2 := hid (B2_1.out.below g)
  have D_2 := hid (D_1.out.grown g)
  have Z_2 := hid (Z_1.out.grown g)
  have G_2 := hid (G_1.out.trans (g.mono G_1.out.size))
  clear hV g own4 own5 B1_1 B2_1 D_1 Z_1 G_1
  go_wp2_with fail
  have D_2' := hid (D_2.out.grown (Below.refl _ w2).drew)
  have Z_2' := hid (Z_2.out.grown (Below.refl _ w2).drew)
  have K2 : At 28 w2.drew g5 [.int .u64 sq0, .int .u64 sq1, .int .u64 sq2, .int .u64 sq3, .int .u64 sq4] ∧ At 28 w2.drew g4 [.int .u64 1, .int .u64 0, .int .u64 0, .int .u64 0, .int .u64 0] ∧ Gd w2.drew := And.intro B5_2.out.drew (And.intro B4_2.out.drew (D_2'.out))
  refine wp_region_held_drew (S := fun w' => At 28 w' g5 [.int .u64 sq0, .int .u64 sq1, .int .u64 sq2, .int .u64 sq3, .int .u64 sq4] ∧ At 28 w' g4 [.int .u64 1, .int .u64 0, .int .u64 0, .int .u64 0, .int .u64 0] ∧ Gd w') (by kernel_rfl) K2 (fun hHeld => ?_)
  clear K2
  refine h_take 0 (v := .agg #[.int .u64 sq0, .int .u64 sq1, .int .u64 sq2, .int .u64 sq3, .int .u64 sq4]) rfl (by kernel_rfl) (by kernel_rfl) (by kernel_rfl) (fun _ _ _ h => h) (by rfl) ?hyr1_0 (by assumption) ?_
  case hyr1_0 =>
    intro w' hSw
    exact load_run 28 _ rfl _ 0 rfl _ _ (at_mid hSw.1 0 _ rfl) Tryd.underlying28 rfl (by kernel_rfl)
  try simp only [Act.put, List.setIfInBounds_toArray, List.set_cons_zero, List.set_cons_succ]
  refine h_take 1 (v := .agg #[.int .u64 1, .int .u64 0, .int .u64 0, .int .u64 0, .int .u64 0]) rfl (by kernel_rfl) (by kernel_rfl) (by kernel_rfl) (fun _ _ _ h => h) (by rfl) ?hyr1_1 (by assumption) ?_
  case hyr1_1 =>
    intro w' hSw
    exact load_run 28 _ rfl _ 0 rfl _ _ (at_mid hSw.2.1 0 _ rfl) Tryd.underlying28 rfl (by kernel_rfl)
  try simp only [Act.put, List.setIfInBounds_toArray, List.set_cons_zero, List.set_cons_succ]
  refine h_take 3 (v := .agg #[.int .u64 929955233495203, .int .u64 466365720129213, .int .u64 1662059464998953, .int .u64 2033849074728123, .int .u64 1442794654840575]) rfl (by kernel_rfl) (by kernel_rfl) (by kernel_rfl) (fun _ _ _ h => h) (by rfl) ?hyr1_3 (by assumption) ?_
  case hyr1_3 =>
    intro w' hSw
    exact load_run 28 _ rfl 3 0 rfl _ _ hSw.2.2.range Tryd.underlying28 rfl (by kernel_rfl)
  try simp only [Act.put, List.setIfInBounds_toArray, List.set_cons_zero, List.set_cons_succ]
  refine h_take 4 (v := .agg #[.int .u64 sq0, .int .u64 sq1, .int .u64 sq2, .int .u64 sq3, .int .u64 sq4]) rfl (by kernel_rfl) (by kernel_rfl) (by kernel_rfl) (fun _ _ _ h => h) (by rfl) ?hyr1_4 (by assumption) ?_
  case hyr1_4 =>
    intro w' hSw
    exact load_run 28 _ rfl _ 0 rfl _ _ (at_mid hSw.1 0 _ rfl) Tryd.underlying28 rfl (by kernel_rfl)
  try simp only [Act.put, List.setIfInBounds_toArray, List.set_cons_zero, List.set_cons_succ]
  refine h_take 6 (v := .agg #[.int .u64 1, .int .u64 0, .int .u64 0, .int .u64 0, .int .u64 0]) rfl (by kernel_rfl) (by kernel_rfl) (by kernel_rfl) (fun _ _ _ h => h) (by rfl) ?hyr1_6 (by assumption) ?_
  case hyr1_6 =>
    intro w' hSw
    exact load_run 28 _ rfl _ 0 rfl _ _ (at_mid hSw.2.1 0 _ rfl) Tryd.underlying28 rfl (by kernel_rfl)
  try simp only [Act.put, List.setIfInBounds_toArray, List.set_cons_zero, List.set_cons_succ]
  refine h_call 2 rfl (by kernel_rfl) (by rfl) (fun Kk hK => ?_)
  go_simp
  (refine (Q3.out _ Z_2'.out).mono ?_)
  rintro e w3 ⟨rfl, g0⟩
  have g : Below w2.heap.size w2 w3 := (Below.refl _ w2).drew.trans g0
  clear g0
  have B1_3 := hid (B1_2.out.below g)
  have B2_3 := hid (B2_2.out.below g)
  have B4_3 := hid (B4_2.out.below g)
  have B5_3 := hid (B5_2.out.below g)
  have D_3 := hid (D_2.out.grown g)
  have Z_3 := hid (Z_2.out.grown g)
  have G_3 := hid (G_2.out.trans (g.mono G_2.out.size))
  clear g B1_2 B2_2 B4_2 B5_2 D_2 Z_2 G_2
  clear D_2' Z_2'
  have K3 := And.intro B5_3.out (And.intro B4_3.out (D_3.out))
  go_wp2_with fail
  clear hHeld
  refine hK.out _ _ K3 (fun hHeld => ?_)
  clear hK Kk K3
  try simp only [Act.put, List.setIfInBounds_toArray, List.set_cons_zero, List.set_cons_succ]
  refine h_call 5 rfl (by kernel_rfl) (by rfl) (fun Kk hK => ?_)
  go_simp
  (refine (Q4.out _).mono ?_)
  rintro e w4 ⟨rfl, g0⟩
  have g := g0
  clear g0
  have B1_4 := hid (B1_3.out.below g)
  have B2_4 := hid (B2_3.out.below g)
  have B4_4 := hid (B4_3.out.below g)
  have B5_4 := hid (B5_3.out.below g)
  have D_4 := hid (D_3.out.grown g)
  have Z_4 := hid (Z_3.out.grown g)
  have G_4 := hid (G_3.out.trans (g.mono G_3.out.size))
  clear g B1_3 B2_3 B4_3 B5_3 D_3 Z_3 G_3
  have K4 := And.intro B5_4.out (And.intro B4_4.out (D_4.out))
  go_wp2_with fail
  clear hHeld
  refine hK.out _ _ K4 (fun hHeld => ?_)
  clear hK Kk K4
  try simp only [Act.put, List.setIfInBounds_toArray, List.set_cons_zero, List.set_cons_succ]
  refine h_call 7 rfl (by kernel_rfl) (by rfl) (fun Kk hK => ?_)
  go_simp
  (refine (Q5.out _).mono ?_)
  rintro e w5 ⟨rfl, g0⟩
  have g := g0
  clear g0
  have B1_5 := hid (B1_4.out.below g)
  have B2_5 := hid (B2_4.out.below g)
  have B4_5 := hid (B4_4.out.below g)
  have B5_5 := hid (B5_4.out.below g)
  have D_5 := hid (D_4.out.grown g)
  have Z_5 := hid (Z_4.out.grown g)
  have G_5 := hid (G_4.out.trans (g.mono G_4.out.size))
  clear g B1_4 B2_4 B4_4 B5_4 D_4 Z_4 G_4
  have K5 := And.intro B5_5.out (And.intro B4_5.out (D_5.out))
  go_wp2_with fail
  clear hHeld
  refine hK.out _ _ K5 (fun hHeld => ?_)
  clear hK Kk K5
  try simp only [Act.put, List.setIfInBounds_toArray, List.set_cons_zero, List.set_cons_succ]
  refine h_call 8 rfl (by kernel_rfl) (by rfl) (fun Kk hK => ?_)
  go_simp
  (refine (Q6.out _ Z_5.out).mono ?_)
  rintro e w6 ⟨rfl, g0⟩
  have g := g0
  clear g0
  have B1_6 := hid (B1_5.out.below g)
  have B2_6 := hid (B2_5.out.below g)
  have B4_6 := hid (B4_5.out.below g)
  have B5_6 := hid (B5_5.out.below g)
  have D_6 := hid (D_5.out.grown g)
  have Z_6 := hid (Z_5.out.grown g)
  have G_6 := hid (G_5.out.trans (g.mono G_5.out.size))
  clear g B1_5 B2_5 B4_5 B5_5 D_5 Z_5 G_5
  have K6 := And.intro B5_6.out (And.intro B4_6.out (D_6.out))
  go_wp2_with fail
  clear hHeld
  refine hK.out _ _ K6 (fun hHeld => ?_)
  clear hK Kk K6
  try simp only [Act.put, List.setIfInBounds_toArray, List.set_cons_zero, List.set_cons_succ]
  refine h_take 9 (v := .agg #[.int .u64 za0, .int .u64 za1, .int .u64 za2, .int .u64 za3, .int .u64 za4]) rfl (by kernel_rfl) (by kernel_rfl) (by kernel_rfl) (fun _ _ _ h => h) (by rfl) ?hyr1_9 (by assumption) ?_
  case hyr1_9 =>
    intro w' hSw
    clear hSw
    go_simp
  try simp only [Act.put, List.setIfInBounds_toArray, List.set_cons_zero, List.set_cons_succ]
  refine h_take 10 (v := .bool tb) rfl (by kernel_rfl) (by kernel_rfl) (by kernel_rfl) (fun _ _ _ h => h) (by rfl) ?hyr1_10 (by assumption) ?_
  case hyr1_10 =>
    intro w' hSw
    clear hSw
    go_simp
  try simp only [Act.put, List.setIfInBounds_toArray, List.set_cons_zero, List.set_cons_succ]
  have nbB1B2 : ¬ (w.heap.size = (w.heap.size + 1)) := by omega
  have nbB4B2 : ¬ (g4 = (w.heap.size + 1)) := by omega
  have nbB5B2 : ¬ (g5 = (w.heap.size + 1)) := by omega
  refine h_call 11 rfl (by kernel_rfl) (by rfl) (fun Kk hK => ?_)
  refine store_oth 28 _ _ rfl (w.heap.size + 1) [.int .u64 za0, .int .u64 za1, .int .u64 za2, .int .u64 za3, .int .u64 za4] _ rfl rfl B2_6.out rfl (by kernel_rfl) (by kernel_rfl) (fun w7 hC hO => ?_)
  have B1_7 := hid (hO.at B1_6.out nbB1B2)
  have B2_7 := hid hC
  have B4_7 := hid (hO.at B4_6.out nbB4B2)
  have B5_7 := hid (hO.at B5_6.out nbB5B2)
  have G_7 := hid (Oth.bel G_6.out hO (by omega))
  have D_7 := hid (D_6.out.below (below_oth hO (show w.heap.size ≤ (w.heap.size + 1) by omega) G_6.out.size) HD)
  have Z_7 := hid (Z_6.out.below (below_oth hO (show w.heap.size ≤ (w.heap.size + 1) by omega) G_6.out.size) HZ)
  clear B1_6 B2_6 B4_6 B5_6 D_6 Z_6 G_6 hC hO
  have K7 := And.intro B5_7.out (And.intro B4_7.out (D_7.out))
  clear hHeld
  refine hK.out _ _ K7 (fun hHeld => ?_)
  clear hK Kk K7
  try simp only [Act.put, List.setIfInBounds_toArray, List.set_cons_zero, List.set_cons_succ]
  refine h_take 12 (v := .bool tb) rfl (by kernel_rfl) (by kernel_rfl) (by kernel_rfl) (fun _ _ _ h => h) (by rfl) ?hyr1_12 (by assumption) ?_
  case hyr1_12 =>
    intro w' hSw
    clear hSw
    go_simp
  try simp only [Act.put, List.setIfInBounds_toArray, List.set_cons_zero, List.set_cons_succ]
  refine wpAnyH_done (by kernel_rfl) ?_ _
  clear hHeld
  go_wp2_with fail
  exact bodyPost_ret (v := .tuple #[.agg #[.int .u64 za0, .int .u64 za1, .int .u64 za2, .int .u64 za3, .int .u64 za4], .bool tb]) (results_cs (Tryd.results37) _ w7 (w.heap.size + 1) 0 [.int .u64 za0, .int .u64 za1, .int .u64 za2, .int .u64 za3, .int .u64 za4] _ _ rfl rfl B2_7.out.range Tryd.underlying28 rfl (by kernel_rfl)) rfl ⟨rfl, G_7.out⟩
end Go.Proofs.YtedhfimjcpbcpaaDoor.Ed

/-
  The program's Bytes of layer 10: the walk, given what each call answers. Conditions: as each theorem says.
-/
namespace Go.Proofs.YtedhfimjcpbcpaaDoor.Ed
open Go.RowKit
set_option linter.unusedVariables false
set_option linter.unusedSimpArgs false

set_option maxRecDepth 100000 in
set_option maxHeartbeats 8000000 in
theorem bytes_no_w (px py pz pt xa ya : L5) (n : Nat) (hn : n < 2 ^ 255)
    (Q1 : Hid (∀ w : World, Calls Tryd.prog 54 #[.agg #[.int .u64 px.l0, .int .u64 px.l1, .int .u64 px.l2, .int .u64 px.l3, .int .u64 px.l4, .int .u64 py.l0, .int .u64 py.l1, .int .u64 py.l2, .int .u64 py.l3, .int .u64 py.l4, .int .u64 pz.l0, .int .u64 pz.l1, .int .u64 pz.l2, .int .u64 pz.l3, .int .u64 pz.l4, .int .u64 pt.l0, .int .u64 pt.l1, .int .u64 pt.l2, .int .u64 pt.l3, .int .u64 pt.l4]] w fun e w' => e = .returned (.tuple #[.agg #[.int .u64 xa.l0, .int .u64 xa.l1, .int .u64 xa.l2, .int .u64 xa.l3, .int .u64 xa.l4], .agg #[.int .u64 ya.l0, .int .u64 ya.l1, .int .u64 ya.l2, .int .u64 ya.l3, .int .u64 ya.l4]]) ∧ Below w.heap.size w w'))
    (Q2 : Hid (∀ w : World, Calls Tryd.prog 39 #[.agg #[.int .u64 xa.l0, .int .u64 xa.l1, .int .u64 xa.l2, .int .u64 xa.l3, .int .u64 xa.l4]] w fun e w' => e = .returned (.bool false) ∧ Below w.heap.size w w'))
    (QB : Hid (∀ w : World, Calls Tryd.prog 55 #[.agg #[.int .u64 ya.l0, .int .u64 ya.l1, .int .u64 ya.l2, .int .u64 ya.l3, .int .u64 ya.l4]] w fun e w' => ∃ g, e = .returned (.slice (some ⟨g, 0, none⟩) 32 32) ∧ Fil n g 32 w' ∧ w.heap.size ≤ g ∧ Below w.heap.size w w')) (w : World) :
    Calls Tryd.prog 11 #[.agg #[.int .u64 px.l0, .int .u64 px.l1, .int .u64 px.l2, .int .u64 px.l3, .int .u64 px.l4, .int .u64 py.l0, .int .u64 py.l1, .int .u64 py.l2, .int .u64 py.l3, .int .u64 py.l4, .int .u64 pz.l0, .int .u64 pz.l1, .int .u64 pz.l2, .int .u64 pz.l3, .int .u64 pz.l4, .int .u64 pt.l0, .int .u64 pt.l1, .int .u64 pt.l2, .int .u64 pt.l3, .int .u64 pt.l4]] w fun e w' => ∃ g, e = .returned (.slice (some ⟨g, 0, none⟩) 32 32) ∧ Fil n g 32 w' ∧ w.heap.size ≤ g ∧ Below w.heap.size w w' := by
  obtain ⟨px0, px1, px2, px3, px4⟩ := px
  obtain ⟨py0, py1, py2, py3, py4⟩ := py
  obtain ⟨pz0, pz1, pz2, pz3, pz4⟩ := pz
  obtain ⟨pt0, pt1, pt2, pt3, pt4⟩ := pt
  obtain ⟨xa0, xa1, xa2, xa3, xa4⟩ := xa
  obtain ⟨ya0, ya1, ya2, ya3, ya4⟩ := ya
  dsimp only at Q1 Q2 QB ⊢
  go_enter Tryd.func11, Tryd.ntmps11
  go_upto_region 1 with fail
  refine wp_cut (fun V => At 32 V w.heap.size [.int .u64 px0, .int .u64 px1, .int .u64 px2, .int .u64 px3, .int .u64 px4, .int .u64 py0, .int .u64 py1, .int .u64 py2, .int .u64 py3, .int .u64 py4, .int .u64 pz0, .int .u64 pz1, .int .u64 pz2, .int .u64 pz3, .int .u64 pz4, .int .u64 pt0, .int .u64 pt1, .int .u64 pt2, .int .u64 pt3, .int .u64 pt4] ∧ Below w.heap.size w V) ⟨?_, ?_⟩ ?_
  · (repeat (first | refine At.drew ?_ | refine At.drewN ?_ _ | (refine at_new2 _ _ _ _ ?_; simp; done) | refine at_alloc ?_ _))
  · (repeat (first | exact Below.refl _ _ | refine Below.drew ?_ | refine below_drewN ?_ _ | refine Below.alloc ?_ (by simp <;> omega) _))
  rintro w1 ⟨k0, k1⟩
  have B1_1 := hid k0
  have G_1 := hid k1
  clear k0 k1
  go_wp2_with (first | (refine wpList_load_mid rfl 32 _ rfl w.heap.size 0 rfl [.int .u64 px0, .int .u64 px1, .int .u64 px2, .int .u64 px3, .int .u64 px4, .int .u64 py0, .int .u64 py1, .int .u64 py2, .int .u64 py3, .int .u64 py4, .int .u64 pz0, .int .u64 pz1, .int .u64 pz2, .int .u64 pz3, .int .u64 pz4, .int .u64 pt0, .int .u64 pt1, .int .u64 pt2, .int .u64 pt3, .int .u64 pt4] _ (at_mid B1_1.out 0 _ rfl) Tryd.underlying32 rfl (by kernel_rfl) ?_) | fail)
  refine (Q1.out _).mono ?_
  rintro e w2 ⟨rfl, g0⟩
  have g := g0
  clear g0
  have B1_2 := hid (B1_1.out.below g)
  have G_2 := hid (G_1.out.trans (g.mono G_1.out.size))
  clear g B1_1 G_1
  go_wp2_with fail
  refine calls_at (fun V => At 32 V w.heap.size [.int .u64 px0, .int .u64 px1, .int .u64 px2, .int .u64 px3, .int .u64 px4, .int .u64 py0, .int .u64 py1, .int .u64 py2, .int .u64 py3, .int .u64 py4, .int .u64 pz0, .int .u64 pz1, .int .u64 pz2, .int .u64 pz3, .int .u64 pz4, .int .u64 pt0, .int .u64 pt1, .int .u64 pt2, .int .u64 pt3, .int .u64 pt4] ∧ At 28 V w2.heap.size [.int .u64 xa0, .int .u64 xa1, .int .u64 xa2, .int .u64 xa3, .int .u64 xa4] ∧ At 28 V (w2.heap.size + 1) [.int .u64 ya0, .int .u64 ya1, .int .u64 ya2, .int .u64 ya3, .int .u64 ya4] ∧ Below w.heap.size w V) ⟨(at_alloc (at_alloc B1_2.out _) _), (at_alloc (at_new2 _ _ _ _ (by simp)) _), (at_new2 _ _ _ _ (by simp)), ((G_2.out.alloc (by have := G_2.out.size; simp <;> omega) _).alloc (by have := G_2.out.size; simp <;> omega) _)⟩ ?_
  have szB3 : w.heap.size ≤ w2.heap.size := by have := G_2.out.size; omega
  have nlB1B3 : w.heap.size < w2.heap.size := by have := B1_2.out.lt; omega
  have szB4 : w.heap.size ≤ (w2.heap.size + 1) := by have := G_2.out.size; omega
  have nlB1B4 : w.heap.size < (w2.heap.size + 1) := by have := B1_2.out.lt; omega
  rintro w3 ⟨k0, k1, k2, k3⟩
  have B1_3 := hid k0
  have B3_3 := hid k1
  have B4_3 := hid k2
  have G_3 := hid k3
  clear k0 k1 k2 k3 B1_2 G_2
  refine (QB.out _).mono ?_
  rintro e w4 ⟨g, rfl, hf, hgs, gw⟩
  have F_4 : Hid (Fil n g 32 w4) := hf
  have hgl : w.heap.size ≤ g := Nat.le_trans G_3.out.size hgs
  have B1_4 := hid (B1_3.out.below gw)
  have B3_4 := hid (B3_3.out.below gw)
  have B4_4 := hid (B4_3.out.below gw)
  have G_4 := hid (G_3.out.trans (gw.mono G_3.out.size))
  clear gw hf hgs B1_3 B3_3 B4_3 G_3
  go_wp2_with (first | (refine wpList_load_mid rfl 28 _ rfl w2.heap.size 0 rfl [.int .u64 xa0, .int .u64 xa1, .int .u64 xa2, .int .u64 xa3, .int .u64 xa4] _ (at_mid B3_4.out 0 _ rfl) Tryd.underlying28 rfl (by kernel_rfl) ?_) | fail)
  refine (Q2.out _).mono ?_
  rintro e w5 ⟨rfl, gw⟩
  have B1_5 := hid (B1_4.out.below gw)
  have B3_5 := hid (B3_4.out.below gw)
  have B4_5 := hid (B4_4.out.below gw)
  have F_5 := hid (F_4.out.below gw)
  have G_5 := hid (G_4.out.trans (gw.mono G_4.out.size))
  clear gw B1_4 B3_4 B4_4 F_4 G_4
  go_wp2_with fail
  go_ret
  exact ⟨g, rfl, F_5.out, hgl, G_5.out⟩
set_option maxRecDepth 100000 in
set_option maxHeartbeats 8000000 in
theorem bytes_yes_w (px py pz pt xa ya : L5) (n : Nat) (hn : n < 2 ^ 255)
    (Q1 : Hid (∀ w : World, Calls Tryd.prog 54 #[.agg #[.int .u64 px.l0, .int .u64 px.l1, .int .u64 px.l2, .int .u64 px.l3, .int .u64 px.l4, .int .u64 py.l0, .int .u64 py.l1, .int .u64 py.l2, .int .u64 py.l3, .int .u64 py.l4, .int .u64 pz.l0, .int .u64 pz.l1, .int .u64 pz.l2, .int .u64 pz.l3, .int .u64 pz.l4, .int .u64 pt.l0, .int .u64 pt.l1, .int .u64 pt.l2, .int .u64 pt.l3, .int .u64 pt.l4]] w fun e w' => e = .returned (.tuple #[.agg #[.int .u64 xa.l0, .int .u64 xa.l1, .int .u64 xa.l2, .int .u64 xa.l3, .int .u64 xa.l4], .agg #[.int .u64 ya.l0, .int .u64 ya.l1, .int .u64 ya.l2, .int .u64 ya.l3, .int .u64 ya.l4]]) ∧ Below w.heap.size w w'))
    (Q2 : Hid (∀ w : World, Calls Tryd.prog 39 #[.agg #[.int .u64 xa.l0, .int .u64 xa.l1, .int .u64 xa.l2, .int .u64 xa.l3, .int .u64 xa.l4]] w fun e w' => e = .returned (.bool true) ∧ Below w.heap.size w w'))
    (QB : Hid (∀ w : World, Calls Tryd.prog 55 #[.agg #[.int .u64 ya.l0, .int .u64 ya.l1, .int .u64 ya.l2, .int .u64 ya.l3, .int .u64 ya.l4]] w fun e w' => ∃ g, e = .returned (.slice (some ⟨g, 0, none⟩) 32 32) ∧ Fil n g 32 w' ∧ w.heap.size ≤ g ∧ Below w.heap.size w w')) (w : World) :
    Calls Tryd.prog 11 #[.agg #[.int .u64 px.l0, .int .u64 px.l1, .int .u64 px.l2, .int .u64 px.l3, .int .u64 px.l4, .int .u64 py.l0, .int .u64 py.l1, .int .u64 py.l2, .int .u64 py.l3, .int .u64 py.l4, .int .u64 pz.l0, .int .u64 pz.l1, .int .u64 pz.l2, .int .u64 pz.l3, .int .u64 pz.l4, .int .u64 pt.l0, .int .u64 pt.l1, .int .u64 pt.l2, .int .u64 pt.l3, .int .u64 pt.l4]] w fun e w' => ∃ g, e = .returned (.slice (some ⟨g, 0, none⟩) 32 32) ∧ Fil (n + 2 ^ 255) g 32 w' ∧ w.heap.size ≤ g ∧ Below w.heap.size w w' := by
  obtain ⟨px0, px1, px2, px3, px4⟩ := px
  obtain ⟨py0, py1, py2, py3, py4⟩ := py
  obtain ⟨pz0, pz1, pz2, pz3, pz4⟩ := pz
  obtain ⟨pt0, pt1, pt2, pt3, pt4⟩ := pt
  obtain ⟨xa0, xa1, xa2, xa3, xa4⟩ := xa
  obtain ⟨ya0, ya1, ya2, ya3, ya4⟩ := ya
  dsimp only at Q1 Q2 QB ⊢
  go_enter Tryd.func11, Tryd.ntmps11
  go_upto_region 1 with fail
  refine wp_cut (fun V => At 32 V w.heap.size [.int .u64 px0, .int .u64 px1, .int .u64 px2, .int .u64 px3, .int .u64 px4, .int .u64 py0, .int .u64 py1, .int .u64 py2, .int .u64 py3, .int .u64 py4, .int .u64 pz0, .int .u64 pz1, .int .u64 pz2, .int .u64 pz3, .int .u64 pz4, .int .u64 pt0, .int .u64 pt1, .int .u64 pt2, .int .u64 pt3, .int .u64 pt4] ∧ Below w.heap.size w V) ⟨?_, ?_⟩ ?_
  · (repeat (first | refine At.drew ?_ | refine At.drewN ?_ _ | (refine at_new2 _ _ _ _ ?_; simp; done) | refine at_alloc ?_ _))
  · (repeat (first | exact Below.refl _ _ | refine Below.drew ?_ | refine below_drewN ?_ _ | refine Below.alloc ?_ (by simp <;> omega) _))
  rintro w1 ⟨k0, k1⟩
  have B1_1 := hid k0
  have G_1 := hid k1
  clear k0 k1
  go_wp2_with (first | (refine wpList_load_mid rfl 32 _ rfl w.heap.size 0 rfl [.int .u64 px0, .int .u64 px1, .int .u64 px2, .int .u64 px3, .int .u64 px4, .int .u64 py0, .int .u64 py1, .int .u64 py2, .int .u64 py3, .int .u64 py4, .int .u64 pz0, .int .u64 pz1, .int .u64 pz2, .int .u64 pz3, .int .u64 pz4, .int .u64 pt0, .int .u64 pt1, .int .u64 pt2, .int .u64 pt3, .int .u64 pt4] _ (at_mid B1_1.out 0 _ rfl) Tryd.underlying32 rfl (by kernel_rfl) ?_) | fail)
  refine (Q1.out _).mono ?_
  rintro e w2 ⟨rfl, g0⟩
  have g := g0
  clear g0
  have B1_2 := hid (B1_1.out.below g)
  have G_2 := hid (G_1.out.trans (g.mono G_1.out.size))
  clear g B1_1 G_1
  go_wp2_with fail
  refine calls_at (fun V => At 32 V w.heap.size [.int .u64 px0, .int .u64 px1, .int .u64 px2, .int .u64 px3, .int .u64 px4, .int .u64 py0, .int .u64 py1, .int .u64 py2, .int .u64 py3, .int .u64 py4, .int .u64 pz0, .int .u64 pz1, .int .u64 pz2, .int .u64 pz3, .int .u64 pz4, .int .u64 pt0, .int .u64 pt1, .int .u64 pt2, .int .u64 pt3, .int .u64 pt4] ∧ At 28 V w2.heap.size [.int .u64 xa0, .int .u64 xa1, .int .u64 xa2, .int .u64 xa3, .int .u64 xa4] ∧ At 28 V (w2.heap.size + 1) [.int .u64 ya0, .int .u64 ya1, .int .u64 ya2, .int .u64 ya3, .int .u64 ya4] ∧ Below w.heap.size w V) ⟨(at_alloc (at_alloc B1_2.out _) _), (at_alloc (at_new2 _ _ _ _ (by simp)) _), (at_new2 _ _ _ _ (by simp)), ((G_2.out.alloc (by have := G_2.out.size; simp <;> omega) _).alloc (by have := G_2.out.size; simp <;> omega) _)⟩ ?_
  have szB3 : w.heap.size ≤ w2.heap.size := by have := G_2.out.size; omega
  have nlB1B3 : w.heap.size < w2.heap.size := by have := B1_2.out.lt; omega
  have szB4 : w.heap.size ≤ (w2.heap.size + 1) := by have := G_2.out.size; omega
  have nlB1B4 : w.heap.size < (w2.heap.size + 1) := by have := B1_2.out.lt; omega
  rintro w3 ⟨k0, k1, k2, k3⟩
  have B1_3 := hid k0
  have B3_3 := hid k1
  have B4_3 := hid k2
  have G_3 := hid k3
  clear k0 k1 k2 k3 B1_2 G_2
  refine (QB.out _).mono ?_
  rintro e w4 ⟨g, rfl, hf, hgs, gw⟩
  have F_4 : Hid (Fil n g 32 w4) := hf
  have hgl : w.heap.size ≤ g := Nat.le_trans G_3.out.size hgs
  have B1_4 := hid (B1_3.out.below gw)
  have B3_4 := hid (B3_3.out.below gw)
  have B4_4 := hid (B4_3.out.below gw)
  have G_4 := hid (G_3.out.trans (gw.mono G_3.out.size))
  clear gw hf hgs B1_3 B3_3 B4_3 G_3
  go_wp2_with (first | (refine wpList_load_mid rfl 28 _ rfl w2.heap.size 0 rfl [.int .u64 xa0, .int .u64 xa1, .int .u64 xa2, .int .u64 xa3, .int .u64 xa4] _ (at_mid B3_4.out 0 _ rfl) Tryd.underlying28 rfl (by kernel_rfl) ?_) | fail)
  refine (Q2.out _).mono ?_
  rintro e w5 ⟨rfl, gw⟩
  have B1_5 := hid (B1_4.out.below gw)
  have B3_5 := hid (B3_4.out.below gw)
  have B4_5 := hid (B4_4.out.below gw)
  have F_5 := hid (F_4.out.below gw)
  have G_5 := hid (G_4.out.trans (gw.mono G_4.out.size))
  clear gw B1_4 B3_4 B4_4 F_4 G_4
  have r31 : w5.cell? ⟨g, 31, none⟩ = some (.int .u8 (byteAt n 31)) := (F_5.out.cell 31 (by omega)).trans (by rw [if_pos (by omega)])
  have f31 := F_5.out.free 31
  have ho := or_top n hn
  go_wp2_with fail
  go_ret
  exact ⟨g, rfl, fil_sign n g _ F_5.out hn, hgl, G_5.out.setCell hgl _⟩
end Go.Proofs.YtedhfimjcpbcpaaDoor.Ed

/-
  The program's Of of layer 10: the walk, given what each call answers. Conditions: as each theorem says.
-/
namespace Go.Proofs.YtedhfimjcpbcpaaDoor.Ed
open Go.RowKit
set_option linter.unusedVariables false
set_option linter.unusedSimpArgs false

set_option maxRecDepth 100000 in
set_option maxHeartbeats 8000000 in
theorem ofP_short_w (a : Option Addr) (n c : Nat) (hn : ¬ n = 32) (w : World) :
    Calls Tryd.prog 7 #[.slice a n c] w fun e w' => e = .returned (.tuple #[.agg #[.int .u64 0, .int .u64 0, .int .u64 0, .int .u64 0, .int .u64 0, .int .u64 0, .int .u64 0, .int .u64 0, .int .u64 0, .int .u64 0, .int .u64 0, .int .u64 0, .int .u64 0, .int .u64 0, .int .u64 0, .int .u64 0, .int .u64 0, .int .u64 0, .int .u64 0, .int .u64 0], .bool false]) ∧ Below w.heap.size w w' := by
  have hn2 : (decide ((n : Int) = 32)) = false := decide_eq_false (by omega)
  have hn3 : ¬ (n : Int) = 32 := by omega
  go_enter Tryd.func7, Tryd.ntmps7
  go_upto_region 1 with fail
  refine wp_cut (fun V => At 32 V w.heap.size [.int .u64 0, .int .u64 0, .int .u64 0, .int .u64 0, .int .u64 0, .int .u64 0, .int .u64 0, .int .u64 0, .int .u64 0, .int .u64 0, .int .u64 0, .int .u64 0, .int .u64 0, .int .u64 0, .int .u64 0, .int .u64 0, .int .u64 0, .int .u64 0, .int .u64 0, .int .u64 0] ∧ Below w.heap.size w V) ⟨?_, ?_⟩ ?_
  · (repeat (first | refine At.drew ?_ | refine At.drewN ?_ _ | (refine at_new2 _ _ _ _ ?_; simp; done) | refine at_alloc ?_ _))
  · (repeat (first | exact Below.refl _ _ | refine Below.drew ?_ | refine below_drewN ?_ _ | refine Below.alloc ?_ (by simp <;> omega) _))
  rintro w1 ⟨k0, k1⟩
  have B2_1 := hid k0
  have G_1 := hid k1
  clear k0 k1
  go_wp2_with (refine list_store_whole rfl 32 _ _ rfl w.heap.size [.int .u64 0, .int .u64 0, .int .u64 0, .int .u64 0, .int .u64 0, .int .u64 0, .int .u64 0, .int .u64 0, .int .u64 0, .int .u64 0, .int .u64 0, .int .u64 0, .int .u64 0, .int .u64 0, .int .u64 0, .int .u64 0, .int .u64 0, .int .u64 0, .int .u64 0, .int .u64 0] _ rfl rfl B2_1.out rfl (by kernel_rfl) (by kernel_rfl) w.heap.size w G_1.out (by omega) (fun F hC hB => ?_))
  exact bodyPost_ret (v := .tuple #[.agg #[.int .u64 0, .int .u64 0, .int .u64 0, .int .u64 0, .int .u64 0, .int .u64 0, .int .u64 0, .int .u64 0, .int .u64 0, .int .u64 0, .int .u64 0, .int .u64 0, .int .u64 0, .int .u64 0, .int .u64 0, .int .u64 0, .int .u64 0, .int .u64 0, .int .u64 0, .int .u64 0], .bool false]) (results_cs (Tryd.results7) _ F w.heap.size 0 [.int .u64 0, .int .u64 0, .int .u64 0, .int .u64 0, .int .u64 0, .int .u64 0, .int .u64 0, .int .u64 0, .int .u64 0, .int .u64 0, .int .u64 0, .int .u64 0, .int .u64 0, .int .u64 0, .int .u64 0, .int .u64 0, .int .u64 0, .int .u64 0, .int .u64 0, .int .u64 0] _ _ rfl rfl hC.range Tryd.underlying32 rfl (by kernel_rfl)) rfl ⟨rfl, hB⟩
set_option maxRecDepth 100000 in
set_option maxHeartbeats 8000000 in
theorem ofP_big_w (ye : L5) (N y b o c : Nat) (hN : N < 2 ^ 256) (hy : Hid (y = N % 2 ^ 255)) (hs : bits .and .u8 (byteAt N 31) 128 = 0) (w : World) (hb : b < w.heap.size)
    (HC : Hid (∀ j, j < 32 → w.cell? ⟨b, o + j, none⟩ = some (.int .u8 (byteAt N j))))
    (KC : Hid (∀ W : World, Below w.heap.size w W → Calls Tryd.prog 35 #[.slice (some ⟨b, o, none⟩) 32 c] W fun e w' => ∃ v', e = .returned v' ∧ Own8 W.heap.size w' v' (leB N 32) ∧ Below W.heap.size W w'))
    (KO : Hid (∀ (w : World) (g c : Nat), g < w.heap.size → (∀ j, j < 32 → w.cell? ⟨g, 0 + j, none⟩ = some (.int .u8 (byteAt y j))) → Calls Tryd.prog 36 #[.slice (some ⟨g, 0, none⟩) 32 c] w fun e w' => e = .returned (.tuple #[.agg #[.int .u64 ye.l0, .int .u64 ye.l1, .int .u64 ye.l2, .int .u64 ye.l3, .int .u64 ye.l4], .bool false]) ∧ Below w.heap.size w w'))
    (D_0 : Hid (Gd w)) (Z_0 : Hid (Gl w)) :
    Calls Tryd.prog 7 #[.slice (some ⟨b, o, none⟩) 32 c] w fun e w' => e = .returned (.tuple #[.agg #[.int .u64 0, .int .u64 0, .int .u64 0, .int .u64 0, .int .u64 0, .int .u64 0, .int .u64 0, .int .u64 0, .int .u64 0, .int .u64 0, .int .u64 0, .int .u64 0, .int .u64 0, .int .u64 0, .int .u64 0, .int .u64 0, .int .u64 0, .int .u64 0, .int .u64 0, .int .u64 0], .bool false]) ∧ Below w.heap.size w w' := by
  obtain ⟨ye0, ye1, ye2, ye3, ye4⟩ := ye
  dsimp only at  KO ⊢
  go_enter Tryd.func7, Tryd.ntmps7
  go_upto_region 1 with fail
  have HD := D_0.out.lt
  have HZ := Z_0.out.lt
  refine wp_cut (fun V => At 32 V w.heap.size [.int .u64 0, .int .u64 0, .int .u64 0, .int .u64 0, .int .u64 0, .int .u64 0, .int .u64 0, .int .u64 0, .int .u64 0, .int .u64 0, .int .u64 0, .int .u64 0, .int .u64 0, .int .u64 0, .int .u64 0, .int .u64 0, .int .u64 0, .int .u64 0, .int .u64 0, .int .u64 0] ∧ Gd V ∧ Gl V ∧ Below w.heap.size w V) ⟨?_, ?_, ?_, ?_⟩ ?_
  · (repeat (first | refine At.drew ?_ | refine At.drewN ?_ _ | (refine at_new2 _ _ _ _ ?_; simp; done) | refine at_alloc ?_ _))
  · refine D_0.out.grown ?_
    (repeat (first | exact Below.refl _ _ | refine Below.drew ?_ | refine below_drewN ?_ _ | refine Below.alloc ?_ (by simp <;> omega) _))
  · refine Z_0.out.grown ?_
    (repeat (first | exact Below.refl _ _ | refine Below.drew ?_ | refine below_drewN ?_ _ | refine Below.alloc ?_ (by simp <;> omega) _))
  · (repeat (first | exact Below.refl _ _ | refine Below.drew ?_ | refine below_drewN ?_ _ | refine Below.alloc ?_ (by simp <;> omega) _))
  rintro w1 ⟨k0, k1, k2, k3⟩
  have B2_1 := hid k0
  have D_1 := hid k1
  have Z_1 := hid k2
  have G_1 := hid k3
  clear k0 k1 k2 k3 D_0 Z_0
  have c31 : w1.cell? ⟨b, o + 31, none⟩ = some (.int .u8 (byteAt N 31)) := (G_1.out.cell (p := ⟨b, o + 31, none⟩) hb).trans (HC.out 31 (by omega))
  go_wp2_with fail
  clear c31
  refine (KC.out w1 G_1.out).mono ?_
  rintro e w2 ⟨v2, rfl, ho, g⟩
  obtain ⟨gb, gc, L, rfl, hgb, hA, hL⟩ := own8_row ho
  obtain ⟨hAN, hcells⟩ := row_low hA hL hN hy.out
  clear hy
  have r31 : w2.cell? ⟨gb, 31, none⟩ = some (.int .u8 (byteAt N 31)) := by rw [hA.cell]; exact hL 31 (by omega)
  have f31 : w2.frozen? ⟨gb, 31, none⟩ = false := hA.free 31
  have nlB2 : w.heap.size < gb := Nat.lt_of_lt_of_le B2_1.out.lt hgb
  have hgw : w.heap.size ≤ gb := Nat.le_trans G_1.out.size hgb
  have B2_2 := hid (B2_1.out.below g)
  have D_2 := hid (D_1.out.grown g)
  have Z_2 := hid (Z_1.out.grown g)
  have G_2 := hid (G_1.out.trans (g.mono G_1.out.size))
  clear g ho hgb B2_1 D_1 Z_1 G_1
  go_wp2_with fail
  clear r31 f31 hAN
  have hO : Oth gb w2 (w2.setCell ⟨gb, 31, none⟩ (.int .u8 (byteAt y 31))) := (Oth.refl gb w2).set 31 _
  refine calls_at (fun V => (∀ j, j < 32 → V.cell? ⟨gb, 0 + j, none⟩ = some (.int .u8 (byteAt y j))) ∧ gb < V.heap.size ∧ At 32 V w.heap.size [.int .u64 0, .int .u64 0, .int .u64 0, .int .u64 0, .int .u64 0, .int .u64 0, .int .u64 0, .int .u64 0, .int .u64 0, .int .u64 0, .int .u64 0, .int .u64 0, .int .u64 0, .int .u64 0, .int .u64 0, .int .u64 0, .int .u64 0, .int .u64 0, .int .u64 0, .int .u64 0] ∧ Gd V ∧ Gl V ∧ Below w.heap.size w V) ⟨hcells, by simpa using hA.lt, hO.at B2_2.out (by omega), D_2.out.below (below_oth hO hgw G_2.out.size) HD, Z_2.out.below (below_oth hO hgw G_2.out.size) HZ, Oth.bel G_2.out hO hgw⟩ ?_
  clear hO hcells hA hL
  rintro w3 ⟨hcells, hlt, k0, k1, k2, k3⟩
  have B2_3 := hid k0
  have D_3 := hid k1
  have Z_3 := hid k2
  have G_3 := hid k3
  clear k0 k1 k2 k3 B2_2 D_2 Z_2 G_2
  refine (KO.out w3 gb gc hlt hcells).mono ?_
  rintro e w4 ⟨rfl, g⟩
  clear hlt hcells
  have B2_4 := hid (B2_3.out.below g)
  have D_4 := hid (D_3.out.grown g)
  have Z_4 := hid (Z_3.out.grown g)
  have G_4 := hid (G_3.out.trans (g.mono G_3.out.size))
  clear g B2_3 D_3 Z_3 G_3
  go_wp2_with (refine list_store_whole rfl 32 _ _ rfl w.heap.size [.int .u64 0, .int .u64 0, .int .u64 0, .int .u64 0, .int .u64 0, .int .u64 0, .int .u64 0, .int .u64 0, .int .u64 0, .int .u64 0, .int .u64 0, .int .u64 0, .int .u64 0, .int .u64 0, .int .u64 0, .int .u64 0, .int .u64 0, .int .u64 0, .int .u64 0, .int .u64 0] _ rfl rfl (at_alloc B2_4.out _) rfl (by kernel_rfl) (by kernel_rfl) w.heap.size w (G_4.out.alloc (by have := G_4.out.size; simp <;> omega) _) (by omega) (fun F hC hB => ?_))
  exact bodyPost_ret (v := .tuple #[.agg #[.int .u64 0, .int .u64 0, .int .u64 0, .int .u64 0, .int .u64 0, .int .u64 0, .int .u64 0, .int .u64 0, .int .u64 0, .int .u64 0, .int .u64 0, .int .u64 0, .int .u64 0, .int .u64 0, .int .u64 0, .int .u64 0, .int .u64 0, .int .u64 0, .int .u64 0, .int .u64 0], .bool false]) (results_cs (Tryd.results7) _ F w.heap.size 0 [.int .u64 0, .int .u64 0, .int .u64 0, .int .u64 0, .int .u64 0, .int .u64 0, .int .u64 0, .int .u64 0, .int .u64 0, .int .u64 0, .int .u64 0, .int .u64 0, .int .u64 0, .int .u64 0, .int .u64 0, .int .u64 0, .int .u64 0, .int .u64 0, .int .u64 0, .int .u64 0] _ _ rfl rfl hC.range Tryd.underlying32 rfl (by kernel_rfl)) rfl ⟨rfl, hB⟩
set_option maxRecDepth 100000 in
set_option maxHeartbeats 8000000 in
theorem ofP_notok_w (ye za : L5) (N y b o c : Nat) (hN : N < 2 ^ 256) (hy : Hid (y = N % 2 ^ 255)) (hs : bits .and .u8 (byteAt N 31) 128 = 0) (w : World) (hb : b < w.heap.size)
    (HC : Hid (∀ j, j < 32 → w.cell? ⟨b, o + j, none⟩ = some (.int .u8 (byteAt N j))))
    (KC : Hid (∀ W : World, Below w.heap.size w W → Calls Tryd.prog 35 #[.slice (some ⟨b, o, none⟩) 32 c] W fun e w' => ∃ v', e = .returned v' ∧ Own8 W.heap.size w' v' (leB N 32) ∧ Below W.heap.size W w'))
    (KO : Hid (∀ (w : World) (g c : Nat), g < w.heap.size → (∀ j, j < 32 → w.cell? ⟨g, 0 + j, none⟩ = some (.int .u8 (byteAt y j))) → Calls Tryd.prog 36 #[.slice (some ⟨g, 0, none⟩) 32 c] w fun e w' => e = .returned (.tuple #[.agg #[.int .u64 ye.l0, .int .u64 ye.l1, .int .u64 ye.l2, .int .u64 ye.l3, .int .u64 ye.l4], .bool true]) ∧ Below w.heap.size w w'))
    (Q1 : Hid (∀ w : World, Gd w → Gl w → Calls Tryd.prog 37 #[.agg #[.int .u64 ye.l0, .int .u64 ye.l1, .int .u64 ye.l2, .int .u64 ye.l3, .int .u64 ye.l4]] w fun e w' => e = .returned (.tuple #[.agg #[.int .u64 za.l0, .int .u64 za.l1, .int .u64 za.l2, .int .u64 za.l3, .int .u64 za.l4], .bool false]) ∧ Below w.heap.size w w'))
    (D_0 : Hid (Gd w)) (Z_0 : Hid (Gl w)) :
    Calls Tryd.prog 7 #[.slice (some ⟨b, o, none⟩) 32 c] w fun e w' => e = .returned (.tuple #[.agg #[.int .u64 0, .int .u64 0, .int .u64 0, .int .u64 0, .int .u64 0, .int .u64 0, .int .u64 0, .int .u64 0, .int .u64 0, .int .u64 0, .int .u64 0, .int .u64 0, .int .u64 0, .int .u64 0, .int .u64 0, .int .u64 0, .int .u64 0, .int .u64 0, .int .u64 0, .int .u64 0], .bool false]) ∧ Below w.heap.size w w' := by
  obtain ⟨ye0, ye1, ye2, ye3, ye4⟩ := ye
  obtain ⟨za0, za1, za2, za3, za4⟩ := za
  dsimp only at Q1 KO ⊢
  go_enter Tryd.func7, Tryd.ntmps7
  go_upto_region 1 with fail
  have HD := D_0.out.lt
  have HZ := Z_0.out.lt
  refine wp_cut (fun V => At 32 V w.heap.size [.int .u64 0, .int .u64 0, .int .u64 0, .int .u64 0, .int .u64 0, .int .u64 0, .int .u64 0, .int .u64 0, .int .u64 0, .int .u64 0, .int .u64 0, .int .u64 0, .int .u64 0, .int .u64 0, .int .u64 0, .int .u64 0, .int .u64 0, .int .u64 0, .int .u64 0, .int .u64 0] ∧ Gd V ∧ Gl V ∧ Below w.heap.size w V) ⟨?_, ?_, ?_, ?_⟩ ?_
  · (repeat (first | refine At.drew ?_ | refine At.drewN ?_ _ | (refine at_new2 _ _ _ _ ?_; simp; done) | refine at_alloc ?_ _))
  · refine D_0.out.grown ?_
    (repeat (first | exact Below.refl _ _ | refine Below.drew ?_ | refine below_drewN ?_ _ | refine Below.alloc ?_ (by simp <;> omega) _))
  · refine Z_0.out.grown ?_
    (repeat (first | exact Below.refl _ _ | refine Below.drew ?_ | refine below_drewN ?_ _ | refine Below.alloc ?_ (by simp <;> omega) _))
  · (repeat (first | exact Below.refl _ _ | refine Below.drew ?_ | refine below_drewN ?_ _ | refine Below.alloc ?_ (by simp <;> omega) _))
  rintro w1 ⟨k0, k1, k2, k3⟩
  have B2_1 := hid k0
  have D_1 := hid k1
  have Z_1 := hid k2
  have G_1 := hid k3
  clear k0 k1 k2 k3 D_0 Z_0
  have c31 : w1.cell? ⟨b, o + 31, none⟩ = some (.int .u8 (byteAt N 31)) := (G_1.out.cell (p := ⟨b, o + 31, none⟩) hb).trans (HC.out 31 (by omega))
  go_wp2_with fail
  clear c31
  refine (KC.out w1 G_1.out).mono ?_
  rintro e w2 ⟨v2, rfl, ho, g⟩
  obtain ⟨gb, gc, L, rfl, hgb, hA, hL⟩ := own8_row ho
  obtain ⟨hAN, hcells⟩ := row_low hA hL hN hy.out
  clear hy
  have r31 : w2.cell? ⟨gb, 31, none⟩ = some (.int .u8 (byteAt N 31)) := by rw [hA.cell]; exact hL 31 (by omega)
  have f31 : w2.frozen? ⟨gb, 31, none⟩ = false := hA.free 31
  have nlB2 : w.heap.size < gb := Nat.lt_of_lt_of_le B2_1.out.lt hgb
  have hgw : w.heap.size ≤ gb := Nat.le_trans G_1.out.size hgb
  have B2_2 := hid (B2_1.out.below g)
  have D_2 := hid (D_1.out.grown g)
  have Z_2 := hid (Z_1.out.grown g)
  have G_2 := hid (G_1.out.trans (g.mono G_1.out.size))
  clear g ho hgb B2_1 D_1 Z_1 G_1
  go_wp2_with fail
  clear r31 f31 hAN
  have hO : Oth gb w2 (w2.setCell ⟨gb, 31, none⟩ (.int .u8 (byteAt y 31))) := (Oth.refl gb w2).set 31 _
  refine calls_at (fun V => (∀ j, j < 32 → V.cell? ⟨gb, 0 + j, none⟩ = some (.int .u8 (byteAt y j))) ∧ gb < V.heap.size ∧ At 32 V w.heap.size [.int .u64 0, .int .u64 0, .int .u64 0, .int .u64 0, .int .u64 0, .int .u64 0, .int .u64 0, .int .u64 0, .int .u64 0, .int .u64 0, .int .u64 0, .int .u64 0, .int .u64 0, .int .u64 0, .int .u64 0, .int .u64 0, .int .u64 0, .int .u64 0, .int .u64 0, .int .u64 0] ∧ Gd V ∧ Gl V ∧ Below w.heap.size w V) ⟨hcells, by simpa using hA.lt, hO.at B2_2.out (by omega), D_2.out.below (below_oth hO hgw G_2.out.size) HD, Z_2.out.below (below_oth hO hgw G_2.out.size) HZ, Oth.bel G_2.out hO hgw⟩ ?_
  clear hO hcells hA hL
  rintro w3 ⟨hcells, hlt, k0, k1, k2, k3⟩
  have B2_3 := hid k0
  have D_3 := hid k1
  have Z_3 := hid k2
  have G_3 := hid k3
  clear k0 k1 k2 k3 B2_2 D_2 Z_2 G_2
  refine (KO.out w3 gb gc hlt hcells).mono ?_
  rintro e w4 ⟨rfl, g⟩
  clear hlt hcells
  have B2_4 := hid (B2_3.out.below g)
  have D_4 := hid (D_3.out.grown g)
  have Z_4 := hid (Z_3.out.grown g)
  have G_4 := hid (G_3.out.trans (g.mono G_3.out.size))
  clear g B2_3 D_3 Z_3 G_3
  go_wp2_with fail
  refine calls_at (fun V => At 32 V w.heap.size [.int .u64 0, .int .u64 0, .int .u64 0, .int .u64 0, .int .u64 0, .int .u64 0, .int .u64 0, .int .u64 0, .int .u64 0, .int .u64 0, .int .u64 0, .int .u64 0, .int .u64 0, .int .u64 0, .int .u64 0, .int .u64 0, .int .u64 0, .int .u64 0, .int .u64 0, .int .u64 0] ∧ Gd V ∧ Gl V ∧ At 28 V w4.heap.size [.int .u64 ye0, .int .u64 ye1, .int .u64 ye2, .int .u64 ye3, .int .u64 ye4] ∧ Below w.heap.size w V) ⟨(at_alloc B2_4.out _), (D_4.out.grown ((Below.refl _ _).alloc (Nat.le_refl _) _)), (Z_4.out.grown ((Below.refl _ _).alloc (Nat.le_refl _) _)), (at_new2 _ _ _ _ (by simp)), (G_4.out.alloc (by have := G_4.out.size; simp <;> omega) _)⟩ ?_
  have szB6 : w.heap.size ≤ w4.heap.size := by have := G_4.out.size; omega
  have nlB2B6 : w.heap.size < w4.heap.size := by have := B2_4.out.lt; omega
  rintro w5 ⟨k0, k1, k2, k3, k4⟩
  have B2_5 := hid k0
  have D_5 := hid k1
  have Z_5 := hid k2
  have B6_5 := hid k3
  have G_5 := hid k4
  clear k0 k1 k2 k3 k4 B2_4 D_4 Z_4 G_4
  refine (Q1.out _ D_5.out Z_5.out).mono ?_
  rintro e w6 ⟨rfl, g0⟩
  have g := g0
  clear g0
  have B2_6 := hid (B2_5.out.below g)
  have B6_6 := hid (B6_5.out.below g)
  have D_6 := hid (D_5.out.grown g)
  have Z_6 := hid (Z_5.out.grown g)
  have G_6 := hid (G_5.out.trans (g.mono G_5.out.size))
  clear g B2_5 B6_5 D_5 Z_5 G_5
  go_wp2_with (refine list_store_whole rfl 32 _ _ rfl w.heap.size [.int .u64 0, .int .u64 0, .int .u64 0, .int .u64 0, .int .u64 0, .int .u64 0, .int .u64 0, .int .u64 0, .int .u64 0, .int .u64 0, .int .u64 0, .int .u64 0, .int .u64 0, .int .u64 0, .int .u64 0, .int .u64 0, .int .u64 0, .int .u64 0, .int .u64 0, .int .u64 0] _ rfl rfl (at_alloc B2_6.out _) rfl (by kernel_rfl) (by kernel_rfl) w.heap.size w (G_6.out.alloc (by have := G_6.out.size; simp <;> omega) _) (by omega) (fun F hC hB => ?_))
  exact bodyPost_ret (v := .tuple #[.agg #[.int .u64 0, .int .u64 0, .int .u64 0, .int .u64 0, .int .u64 0, .int .u64 0, .int .u64 0, .int .u64 0, .int .u64 0, .int .u64 0, .int .u64 0, .int .u64 0, .int .u64 0, .int .u64 0, .int .u64 0, .int .u64 0, .int .u64 0, .int .u64 0, .int .u64 0, .int .u64 0], .bool false]) (results_cs (Tryd.results7) _ F w.heap.size 0 [.int .u64 0, .int .u64 0, .int .u64 0, .int .u64 0, .int .u64 0, .int .u64 0, .int .u64 0, .int .u64 0, .int .u64 0, .int .u64 0, .int .u64 0, .int .u64 0, .int .u64 0, .int .u64 0, .int .u64 0, .int .u64 0, .int .u64 0, .int .u64 0, .int .u64 0, .int .u64 0] _ _ rfl rfl hC.range Tryd.underlying32 rfl (by kernel_rfl)) rfl ⟨rfl, hB⟩
set_option maxRecDepth 100000 in
set_option maxHeartbeats 8000000 in
theorem ofP_yes_w (ye za cx cy cz ct : L5) (N y b o c : Nat) (hN : N < 2 ^ 256) (hy : Hid (y = N % 2 ^ 255)) (hs : bits .and .u8 (byteAt N 31) 128 = 0) (w : World) (hb : b < w.heap.size)
    (HC : Hid (∀ j, j < 32 → w.cell? ⟨b, o + j, none⟩ = some (.int .u8 (byteAt N j))))
    (KC : Hid (∀ W : World, Below w.heap.size w W → Calls Tryd.prog 35 #[.slice (some ⟨b, o, none⟩) 32 c] W fun e w' => ∃ v', e = .returned v' ∧ Own8 W.heap.size w' v' (leB N 32) ∧ Below W.heap.size W w'))
    (KO : Hid (∀ (w : World) (g c : Nat), g < w.heap.size → (∀ j, j < 32 → w.cell? ⟨g, 0 + j, none⟩ = some (.int .u8 (byteAt y j))) → Calls Tryd.prog 36 #[.slice (some ⟨g, 0, none⟩) 32 c] w fun e w' => e = .returned (.tuple #[.agg #[.int .u64 ye.l0, .int .u64 ye.l1, .int .u64 ye.l2, .int .u64 ye.l3, .int .u64 ye.l4], .bool true]) ∧ Below w.heap.size w w'))
    (Q1 : Hid (∀ w : World, Gd w → Gl w → Calls Tryd.prog 37 #[.agg #[.int .u64 ye.l0, .int .u64 ye.l1, .int .u64 ye.l2, .int .u64 ye.l3, .int .u64 ye.l4]] w fun e w' => e = .returned (.tuple #[.agg #[.int .u64 za.l0, .int .u64 za.l1, .int .u64 za.l2, .int .u64 za.l3, .int .u64 za.l4], .bool true]) ∧ Below w.heap.size w w'))
    (Q2 : Hid (∀ w : World, Calls Tryd.prog 39 #[.agg #[.int .u64 za.l0, .int .u64 za.l1, .int .u64 za.l2, .int .u64 za.l3, .int .u64 za.l4]] w fun e w' => e = .returned (.bool false) ∧ Below w.heap.size w w'))
    (Q3 : Hid (∀ w : World, Calls Tryd.prog 40 #[.agg #[.int .u64 za.l0, .int .u64 za.l1, .int .u64 za.l2, .int .u64 za.l3, .int .u64 za.l4], .agg #[.int .u64 ye.l0, .int .u64 ye.l1, .int .u64 ye.l2, .int .u64 ye.l3, .int .u64 ye.l4]] w fun e w' => e = .returned (.agg #[.int .u64 cx.l0, .int .u64 cx.l1, .int .u64 cx.l2, .int .u64 cx.l3, .int .u64 cx.l4, .int .u64 cy.l0, .int .u64 cy.l1, .int .u64 cy.l2, .int .u64 cy.l3, .int .u64 cy.l4, .int .u64 cz.l0, .int .u64 cz.l1, .int .u64 cz.l2, .int .u64 cz.l3, .int .u64 cz.l4, .int .u64 ct.l0, .int .u64 ct.l1, .int .u64 ct.l2, .int .u64 ct.l3, .int .u64 ct.l4]) ∧ Below w.heap.size w w'))
    (D_0 : Hid (Gd w)) (Z_0 : Hid (Gl w)) :
    Calls Tryd.prog 7 #[.slice (some ⟨b, o, none⟩) 32 c] w fun e w' => e = .returned (.tuple #[.agg #[.int .u64 cx.l0, .int .u64 cx.l1, .int .u64 cx.l2, .int .u64 cx.l3, .int .u64 cx.l4, .int .u64 cy.l0, .int .u64 cy.l1, .int .u64 cy.l2, .int .u64 cy.l3, .int .u64 cy.l4, .int .u64 cz.l0, .int .u64 cz.l1, .int .u64 cz.l2, .int .u64 cz.l3, .int .u64 cz.l4, .int .u64 ct.l0, .int .u64 ct.l1, .int .u64 ct.l2, .int .u64 ct.l3, .int .u64 ct.l4], .bool true]) ∧ Below w.heap.size w w' := by
  obtain ⟨ye0, ye1, ye2, ye3, ye4⟩ := ye
  obtain ⟨za0, za1, za2, za3, za4⟩ := za
  obtain ⟨cx0, cx1, cx2, cx3, cx4⟩ := cx
  obtain ⟨cy0, cy1, cy2, cy3, cy4⟩ := cy
  obtain ⟨cz0, cz1, cz2, cz3, cz4⟩ := cz
  obtain ⟨ct0, ct1, ct2, ct3, ct4⟩ := ct
  dsimp only at Q1 Q2 Q3 KO ⊢
  go_enter Tryd.func7, Tryd.ntmps7
  go_upto_region 1 with fail
  have HD := D_0.out.lt
  have HZ := Z_0.out.lt
  refine wp_cut (fun V => At 32 V w.heap.size [.int .u64 0, .int .u64 0, .int .u64 0, .int .u64 0, .int .u64 0, .int .u64 0, .int .u64 0, .int .u64 0, .int .u64 0, .int .u64 0, .int .u64 0, .int .u64 0, .int .u64 0, .int .u64 0, .int .u64 0, .int .u64 0, .int .u64 0, .int .u64 0, .int .u64 0, .int .u64 0] ∧ Gd V ∧ Gl V ∧ Below w.heap.size w V) ⟨?_, ?_, ?_, ?_⟩ ?_
  · (repeat (first | refine At.drew ?_ | refine At.drewN ?_ _ | (refine at_new2 _ _ _ _ ?_; simp; done) | refine at_alloc ?_ _))
  · refine D_0.out.grown ?_
    (repeat (first | exact Below.refl _ _ | refine Below.drew ?_ | refine below_drewN ?_ _ | refine Below.alloc ?_ (by simp <;> omega) _))
  · refine Z_0.out.grown ?_
    (repeat (first | exact Below.refl _ _ | refine Below.drew ?_ | refine below_drewN ?_ _ | refine Below.alloc ?_ (by simp <;> omega) _))
  · (repeat (first | exact Below.refl _ _ | refine Below.drew ?_ | refine below_drewN ?_ _ | refine Below.alloc ?_ (by simp <;> omega) _))
  rintro w1 ⟨k0, k1, k2, k3⟩
  have B2_1 := hid k0
  have D_1 := hid k1
  have Z_1 := hid k2
  have G_1 := hid k3
  clear k0 k1 k2 k3 D_0 Z_0
  have c31 : w1.cell? ⟨b, o + 31, none⟩ = some (.int .u8 (byteAt N 31)) := (G_1.out.cell (p := ⟨b, o + 31, none⟩) hb).trans (HC.out 31 (by omega))
  go_wp2_with fail
  clear c31
  refine (KC.out w1 G_1.out).mono ?_
  rintro e w2 ⟨v2, rfl, ho, g⟩
  obtain ⟨gb, gc, L, rfl, hgb, hA, hL⟩ := own8_row ho
  obtain ⟨hAN, hcells⟩ := row_low hA hL hN hy.out
  clear hy
  have r31 : w2.cell? ⟨gb, 31, none⟩ = some (.int .u8 (byteAt N 31)) := by rw [hA.cell]; exact hL 31 (by omega)
  have f31 : w2.frozen? ⟨gb, 31, none⟩ = false := hA.free 31
  have nlB2 : w.heap.size < gb := Nat.lt_of_lt_of_le B2_1.out.lt hgb
  have hgw : w.heap.size ≤ gb := Nat.le_trans G_1.out.size hgb
  have B2_2 := hid (B2_1.out.below g)
  have D_2 := hid (D_1.out.grown g)
  have Z_2 := hid (Z_1.out.grown g)
  have G_2 := hid (G_1.out.trans (g.mono G_1.out.size))
  clear g ho hgb B2_1 D_1 Z_1 G_1
  go_wp2_with fail
  clear r31 f31 hAN
  have hO : Oth gb w2 (w2.setCell ⟨gb, 31, none⟩ (.int .u8 (byteAt y 31))) := (Oth.refl gb w2).set 31 _
  refine calls_at (fun V => (∀ j, j < 32 → V.cell? ⟨gb, 0 + j, none⟩ = some (.int .u8 (byteAt y j))) ∧ gb < V.heap.size ∧ At 32 V w.heap.size [.int .u64 0, .int .u64 0, .int .u64 0, .int .u64 0, .int .u64 0, .int .u64 0, .int .u64 0, .int .u64 0, .int .u64 0, .int .u64 0, .int .u64 0, .int .u64 0, .int .u64 0, .int .u64 0, .int .u64 0, .int .u64 0, .int .u64 0, .int .u64 0, .int .u64 0, .int .u64 0] ∧ Gd V ∧ Gl V ∧ Below w.heap.size w V) ⟨hcells, by simpa using hA.lt, hO.at B2_2.out (by omega), D_2.out.below (below_oth hO hgw G_2.out.size) HD, Z_2.out.below (below_oth hO hgw G_2.out.size) HZ, Oth.bel G_2.out hO hgw⟩ ?_
  clear hO hcells hA hL
  rintro w3 ⟨hcells, hlt, k0, k1, k2, k3⟩
  have B2_3 := hid k0
  have D_3 := hid k1
  have Z_3 := hid k2
  have G_3 := hid k3
  clear k0 k1 k2 k3 B2_2 D_2 Z_2 G_2
  refine (KO.out w3 gb gc hlt hcells).mono ?_
  rintro e w4 ⟨rfl, g⟩
  clear hlt hcells
  have B2_4 := hid (B2_3.out.below g)
  have D_4 := hid (D_3.out.grown g)
  have Z_4 := hid (Z_3.out.grown g)
  have G_4 := hid (G_3.out.trans (g.mono G_3.out.size))
  clear g B2_3 D_3 Z_3 G_3
  go_wp2_with fail
  refine calls_at (fun V => At 32 V w.heap.size [.int .u64 0, .int .u64 0, .int .u64 0, .int .u64 0, .int .u64 0, .int .u64 0, .int .u64 0, .int .u64 0, .int .u64 0, .int .u64 0, .int .u64 0, .int .u64 0, .int .u64 0, .int .u64 0, .int .u64 0, .int .u64 0, .int .u64 0, .int .u64 0, .int .u64 0, .int .u64 0] ∧ Gd V ∧ Gl V ∧ At 28 V w4.heap.size [.int .u64 ye0, .int .u64 ye1, .int .u64 ye2, .int .u64 ye3, .int .u64 ye4] ∧ Below w.heap.size w V) ⟨(at_alloc B2_4.out _), (D_4.out.grown ((Below.refl _ _).alloc (Nat.le_refl _) _)), (Z_4.out.grown ((Below.refl _ _).alloc (Nat.le_refl _) _)), (at_new2 _ _ _ _ (by simp)), (G_4.out.alloc (by have := G_4.out.size; simp <;> omega) _)⟩ ?_
  have szB6 : w.heap.size ≤ w4.heap.size := by have := G_4.out.size; omega
  have nlB2B6 : w.heap.size < w4.heap.size := by have := B2_4.out.lt; omega
  rintro w5 ⟨k0, k1, k2, k3, k4⟩
  have B2_5 := hid k0
  have D_5 := hid k1
  have Z_5 := hid k2
  have B6_5 := hid k3
  have G_5 := hid k4
  clear k0 k1 k2 k3 k4 B2_4 D_4 Z_4 G_4
  refine (Q1.out _ D_5.out Z_5.out).mono ?_
  rintro e w6 ⟨rfl, g0⟩
  have g := g0
  clear g0
  have B2_6 := hid (B2_5.out.below g)
  have B6_6 := hid (B6_5.out.below g)
  have D_6 := hid (D_5.out.grown g)
  have Z_6 := hid (Z_5.out.grown g)
  have G_6 := hid (G_5.out.trans (g.mono G_5.out.size))
  clear g B2_5 B6_5 D_5 Z_5 G_5
  go_wp2_with fail
  refine calls_at (fun V => At 32 V w.heap.size [.int .u64 0, .int .u64 0, .int .u64 0, .int .u64 0, .int .u64 0, .int .u64 0, .int .u64 0, .int .u64 0, .int .u64 0, .int .u64 0, .int .u64 0, .int .u64 0, .int .u64 0, .int .u64 0, .int .u64 0, .int .u64 0, .int .u64 0, .int .u64 0, .int .u64 0, .int .u64 0] ∧ At 28 V w4.heap.size [.int .u64 ye0, .int .u64 ye1, .int .u64 ye2, .int .u64 ye3, .int .u64 ye4] ∧ Gd V ∧ Gl V ∧ At 28 V w6.heap.size [.int .u64 za0, .int .u64 za1, .int .u64 za2, .int .u64 za3, .int .u64 za4] ∧ Below w.heap.size w V) ⟨(at_alloc B2_6.out _), (at_alloc B6_6.out _), (D_6.out.grown ((Below.refl _ _).alloc (Nat.le_refl _) _)), (Z_6.out.grown ((Below.refl _ _).alloc (Nat.le_refl _) _)), (at_new2 _ _ _ _ (by simp)), (G_6.out.alloc (by have := G_6.out.size; simp <;> omega) _)⟩ ?_
  have szB8 : w.heap.size ≤ w6.heap.size := by have := G_6.out.size; omega
  have nlB2B8 : w.heap.size < w6.heap.size := by have := B2_6.out.lt; omega
  have nlB6B8 : w4.heap.size < w6.heap.size := by have := B6_6.out.lt; omega
  rintro w7 ⟨k0, k1, k2, k3, k4, k5⟩
  have B2_7 := hid k0
  have B6_7 := hid k1
  have D_7 := hid k2
  have Z_7 := hid k3
  have B8_7 := hid k4
  have G_7 := hid k5
  clear k0 k1 k2 k3 k4 k5 B2_6 B6_6 D_6 Z_6 G_6
  refine (Q2.out _).mono ?_
  rintro e w8 ⟨rfl, g0⟩
  have g := g0
  clear g0
  have B2_8 := hid (B2_7.out.below g)
  have B6_8 := hid (B6_7.out.below g)
  have B8_8 := hid (B8_7.out.below g)
  have D_8 := hid (D_7.out.grown g)
  have Z_8 := hid (Z_7.out.grown g)
  have G_8 := hid (G_7.out.trans (g.mono G_7.out.size))
  clear g B2_7 B6_7 B8_7 D_7 Z_7 G_7
  go_wp2_with (first | (refine wpList_load_mid rfl 28 _ rfl w6.heap.size 0 rfl [.int .u64 za0, .int .u64 za1, .int .u64 za2, .int .u64 za3, .int .u64 za4] _ (at_mid B8_8.out 0 _ rfl) Tryd.underlying28 rfl (by kernel_rfl) ?_) | (refine wpList_load_mid rfl 28 _ rfl w4.heap.size 0 rfl [.int .u64 ye0, .int .u64 ye1, .int .u64 ye2, .int .u64 ye3, .int .u64 ye4] _ (at_mid B6_8.out 0 _ rfl) Tryd.underlying28 rfl (by kernel_rfl) ?_) | fail)
  refine (Q3.out _).mono ?_
  rintro e w9 ⟨rfl, g0⟩
  have g := g0
  clear g0
  have B2_9 := hid (B2_8.out.below g)
  have B6_9 := hid (B6_8.out.below g)
  have B8_9 := hid (B8_8.out.below g)
  have D_9 := hid (D_8.out.grown g)
  have Z_9 := hid (Z_8.out.grown g)
  have G_9 := hid (G_8.out.trans (g.mono G_8.out.size))
  clear g B2_8 B6_8 B8_8 D_8 Z_8 G_8
  go_wp2_with (first | (refine list_store_whole rfl 32 _ _ rfl w.heap.size [.int .u64 cx0, .int .u64 cx1, .int .u64 cx2, .int .u64 cx3, .int .u64 cx4, .int .u64 cy0, .int .u64 cy1, .int .u64 cy2, .int .u64 cy3, .int .u64 cy4, .int .u64 cz0, .int .u64 cz1, .int .u64 cz2, .int .u64 cz3, .int .u64 cz4, .int .u64 ct0, .int .u64 ct1, .int .u64 ct2, .int .u64 ct3, .int .u64 ct4] _ rfl rfl B2_9.out rfl (by kernel_rfl) (by kernel_rfl) w.heap.size w G_9.out (by omega) (fun F hC hB => ?_)) | fail)
  exact bodyPost_ret (v := .tuple #[.agg #[.int .u64 cx0, .int .u64 cx1, .int .u64 cx2, .int .u64 cx3, .int .u64 cx4, .int .u64 cy0, .int .u64 cy1, .int .u64 cy2, .int .u64 cy3, .int .u64 cy4, .int .u64 cz0, .int .u64 cz1, .int .u64 cz2, .int .u64 cz3, .int .u64 cz4, .int .u64 ct0, .int .u64 ct1, .int .u64 ct2, .int .u64 ct3, .int .u64 ct4], .bool true]) (results_cs (Tryd.results7) _ F w.heap.size 0 [.int .u64 cx0, .int .u64 cx1, .int .u64 cx2, .int .u64 cx3, .int .u64 cx4, .int .u64 cy0, .int .u64 cy1, .int .u64 cy2, .int .u64 cy3, .int .u64 cy4, .int .u64 cz0, .int .u64 cz1, .int .u64 cz2, .int .u64 cz3, .int .u64 cz4, .int .u64 ct0, .int .u64 ct1, .int .u64 ct2, .int .u64 ct3, .int .u64 ct4] _ _ rfl rfl hC.range Tryd.underlying32 rfl (by kernel_rfl)) rfl ⟨rfl, hB⟩
set_option maxRecDepth 100000 in
set_option maxHeartbeats 8000000 in
theorem ofP_big_neg_w (ye : L5) (N y b o c : Nat) (hN : N < 2 ^ 256) (hy : Hid (y = N % 2 ^ 255)) (hs : bits .and .u8 (byteAt N 31) 128 = 128) (w : World) (hb : b < w.heap.size)
    (HC : Hid (∀ j, j < 32 → w.cell? ⟨b, o + j, none⟩ = some (.int .u8 (byteAt N j))))
    (KC : Hid (∀ W : World, Below w.heap.size w W → Calls Tryd.prog 35 #[.slice (some ⟨b, o, none⟩) 32 c] W fun e w' => ∃ v', e = .returned v' ∧ Own8 W.heap.size w' v' (leB N 32) ∧ Below W.heap.size W w'))
    (KO : Hid (∀ (w : World) (g c : Nat), g < w.heap.size → (∀ j, j < 32 → w.cell? ⟨g, 0 + j, none⟩ = some (.int .u8 (byteAt y j))) → Calls Tryd.prog 36 #[.slice (some ⟨g, 0, none⟩) 32 c] w fun e w' => e = .returned (.tuple #[.agg #[.int .u64 ye.l0, .int .u64 ye.l1, .int .u64 ye.l2, .int .u64 ye.l3, .int .u64 ye.l4], .bool false]) ∧ Below w.heap.size w w'))
    (D_0 : Hid (Gd w)) (Z_0 : Hid (Gl w)) :
    Calls Tryd.prog 7 #[.slice (some ⟨b, o, none⟩) 32 c] w fun e w' => e = .returned (.tuple #[.agg #[.int .u64 0, .int .u64 0, .int .u64 0, .int .u64 0, .int .u64 0, .int .u64 0, .int .u64 0, .int .u64 0, .int .u64 0, .int .u64 0, .int .u64 0, .int .u64 0, .int .u64 0, .int .u64 0, .int .u64 0, .int .u64 0, .int .u64 0, .int .u64 0, .int .u64 0, .int .u64 0], .bool false]) ∧ Below w.heap.size w w' := by
  obtain ⟨ye0, ye1, ye2, ye3, ye4⟩ := ye
  dsimp only at  KO ⊢
  go_enter Tryd.func7, Tryd.ntmps7
  go_upto_region 1 with fail
  have HD := D_0.out.lt
  have HZ := Z_0.out.lt
  refine wp_cut (fun V => At 32 V w.heap.size [.int .u64 0, .int .u64 0, .int .u64 0, .int .u64 0, .int .u64 0, .int .u64 0, .int .u64 0, .int .u64 0, .int .u64 0, .int .u64 0, .int .u64 0, .int .u64 0, .int .u64 0, .int .u64 0, .int .u64 0, .int .u64 0, .int .u64 0, .int .u64 0, .int .u64 0, .int .u64 0] ∧ Gd V ∧ Gl V ∧ Below w.heap.size w V) ⟨?_, ?_, ?_, ?_⟩ ?_
  · (repeat (first | refine At.drew ?_ | refine At.drewN ?_ _ | (refine at_new2 _ _ _ _ ?_; simp; done) | refine at_alloc ?_ _))
  · refine D_0.out.grown ?_
    (repeat (first | exact Below.refl _ _ | refine Below.drew ?_ | refine below_drewN ?_ _ | refine Below.alloc ?_ (by simp <;> omega) _))
  · refine Z_0.out.grown ?_
    (repeat (first | exact Below.refl _ _ | refine Below.drew ?_ | refine below_drewN ?_ _ | refine Below.alloc ?_ (by simp <;> omega) _))
  · (repeat (first | exact Below.refl _ _ | refine Below.drew ?_ | refine below_drewN ?_ _ | refine Below.alloc ?_ (by simp <;> omega) _))
  rintro w1 ⟨k0, k1, k2, k3⟩
  have B2_1 := hid k0
  have D_1 := hid k1
  have Z_1 := hid k2
  have G_1 := hid k3
  clear k0 k1 k2 k3 D_0 Z_0
  have c31 : w1.cell? ⟨b, o + 31, none⟩ = some (.int .u8 (byteAt N 31)) := (G_1.out.cell (p := ⟨b, o + 31, none⟩) hb).trans (HC.out 31 (by omega))
  go_wp2_with fail
  clear c31
  refine (KC.out w1 G_1.out).mono ?_
  rintro e w2 ⟨v2, rfl, ho, g⟩
  obtain ⟨gb, gc, L, rfl, hgb, hA, hL⟩ := own8_row ho
  obtain ⟨hAN, hcells⟩ := row_low hA hL hN hy.out
  clear hy
  have r31 : w2.cell? ⟨gb, 31, none⟩ = some (.int .u8 (byteAt N 31)) := by rw [hA.cell]; exact hL 31 (by omega)
  have f31 : w2.frozen? ⟨gb, 31, none⟩ = false := hA.free 31
  have nlB2 : w.heap.size < gb := Nat.lt_of_lt_of_le B2_1.out.lt hgb
  have hgw : w.heap.size ≤ gb := Nat.le_trans G_1.out.size hgb
  have B2_2 := hid (B2_1.out.below g)
  have D_2 := hid (D_1.out.grown g)
  have Z_2 := hid (Z_1.out.grown g)
  have G_2 := hid (G_1.out.trans (g.mono G_1.out.size))
  clear g ho hgb B2_1 D_1 Z_1 G_1
  go_wp2_with fail
  clear r31 f31 hAN
  have hO : Oth gb w2 (w2.setCell ⟨gb, 31, none⟩ (.int .u8 (byteAt y 31))) := (Oth.refl gb w2).set 31 _
  refine calls_at (fun V => (∀ j, j < 32 → V.cell? ⟨gb, 0 + j, none⟩ = some (.int .u8 (byteAt y j))) ∧ gb < V.heap.size ∧ At 32 V w.heap.size [.int .u64 0, .int .u64 0, .int .u64 0, .int .u64 0, .int .u64 0, .int .u64 0, .int .u64 0, .int .u64 0, .int .u64 0, .int .u64 0, .int .u64 0, .int .u64 0, .int .u64 0, .int .u64 0, .int .u64 0, .int .u64 0, .int .u64 0, .int .u64 0, .int .u64 0, .int .u64 0] ∧ Gd V ∧ Gl V ∧ Below w.heap.size w V) ⟨hcells, by simpa using hA.lt, hO.at B2_2.out (by omega), D_2.out.below (below_oth hO hgw G_2.out.size) HD, Z_2.out.below (below_oth hO hgw G_2.out.size) HZ, Oth.bel G_2.out hO hgw⟩ ?_
  clear hO hcells hA hL
  rintro w3 ⟨hcells, hlt, k0, k1, k2, k3⟩
  have B2_3 := hid k0
  have D_3 := hid k1
  have Z_3 := hid k2
  have G_3 := hid k3
  clear k0 k1 k2 k3 B2_2 D_2 Z_2 G_2
  refine (KO.out w3 gb gc hlt hcells).mono ?_
  rintro e w4 ⟨rfl, g⟩
  clear hlt hcells
  have B2_4 := hid (B2_3.out.below g)
  have D_4 := hid (D_3.out.grown g)
  have Z_4 := hid (Z_3.out.grown g)
  have G_4 := hid (G_3.out.trans (g.mono G_3.out.size))
  clear g B2_3 D_3 Z_3 G_3
  go_wp2_with (refine list_store_whole rfl 32 _ _ rfl w.heap.size [.int .u64 0, .int .u64 0, .int .u64 0, .int .u64 0, .int .u64 0, .int .u64 0, .int .u64 0, .int .u64 0, .int .u64 0, .int .u64 0, .int .u64 0, .int .u64 0, .int .u64 0, .int .u64 0, .int .u64 0, .int .u64 0, .int .u64 0, .int .u64 0, .int .u64 0, .int .u64 0] _ rfl rfl (at_alloc B2_4.out _) rfl (by kernel_rfl) (by kernel_rfl) w.heap.size w (G_4.out.alloc (by have := G_4.out.size; simp <;> omega) _) (by omega) (fun F hC hB => ?_))
  exact bodyPost_ret (v := .tuple #[.agg #[.int .u64 0, .int .u64 0, .int .u64 0, .int .u64 0, .int .u64 0, .int .u64 0, .int .u64 0, .int .u64 0, .int .u64 0, .int .u64 0, .int .u64 0, .int .u64 0, .int .u64 0, .int .u64 0, .int .u64 0, .int .u64 0, .int .u64 0, .int .u64 0, .int .u64 0, .int .u64 0], .bool false]) (results_cs (Tryd.results7) _ F w.heap.size 0 [.int .u64 0, .int .u64 0, .int .u64 0, .int .u64 0, .int .u64 0, .int .u64 0, .int .u64 0, .int .u64 0, .int .u64 0, .int .u64 0, .int .u64 0, .int .u64 0, .int .u64 0, .int .u64 0, .int .u64 0, .int .u64 0, .int .u64 0, .int .u64 0, .int .u64 0, .int .u64 0] _ _ rfl rfl hC.range Tryd.underlying32 rfl (by kernel_rfl)) rfl ⟨rfl, hB⟩
set_option maxRecDepth 100000 in
set_option maxHeartbeats 8000000 in
theorem ofP_notok_neg_w (ye za : L5) (N y b o c : Nat) (hN : N < 2 ^ 256) (hy : Hid (y = N % 2 ^ 255)) (hs : bits .and .u8 (byteAt N 31) 128 = 128) (w : World) (hb : b < w.heap.size)
    (HC : Hid (∀ j, j < 32 → w.cell? ⟨b, o + j, none⟩ = some (.int .u8 (byteAt N j))))
    (KC : Hid (∀ W : World, Below w.heap.size w W → Calls Tryd.prog 35 #[.slice (some ⟨b, o, none⟩) 32 c] W fun e w' => ∃ v', e = .returned v' ∧ Own8 W.heap.size w' v' (leB N 32) ∧ Below W.heap.size W w'))
    (KO : Hid (∀ (w : World) (g c : Nat), g < w.heap.size → (∀ j, j < 32 → w.cell? ⟨g, 0 + j, none⟩ = some (.int .u8 (byteAt y j))) → Calls Tryd.prog 36 #[.slice (some ⟨g, 0, none⟩) 32 c] w fun e w' => e = .returned (.tuple #[.agg #[.int .u64 ye.l0, .int .u64 ye.l1, .int .u64 ye.l2, .int .u64 ye.l3, .int .u64 ye.l4], .bool true]) ∧ Below w.heap.size w w'))
    (Q1 : Hid (∀ w : World, Gd w → Gl w → Calls Tryd.prog 37 #[.agg #[.int .u64 ye.l0, .int .u64 ye.l1, .int .u64 ye.l2, .int .u64 ye.l3, .int .u64 ye.l4]] w fun e w' => e = .returned (.tuple #[.agg #[.int .u64 za.l0, .int .u64 za.l1, .int .u64 za.l2, .int .u64 za.l3, .int .u64 za.l4], .bool false]) ∧ Below w.heap.size w w'))
    (D_0 : Hid (Gd w)) (Z_0 : Hid (Gl w)) :
    Calls Tryd.prog 7 #[.slice (some ⟨b, o, none⟩) 32 c] w fun e w' => e = .returned (.tuple #[.agg #[.int .u64 0, .int .u64 0, .int .u64 0, .int .u64 0, .int .u64 0, .int .u64 0, .int .u64 0, .int .u64 0, .int .u64 0, .int .u64 0, .int .u64 0, .int .u64 0, .int .u64 0, .int .u64 0, .int .u64 0, .int .u64 0, .int .u64 0, .int .u64 0, .int .u64 0, .int .u64 0], .bool false]) ∧ Below w.heap.size w w' := by
  obtain ⟨ye0, ye1, ye2, ye3, ye4⟩ := ye
  obtain ⟨za0, za1, za2, za3, za4⟩ := za
  dsimp only at Q1 KO ⊢
  go_enter Tryd.func7, Tryd.ntmps7
  go_upto_region 1 with fail
  have HD := D_0.out.lt
  have HZ := Z_0.out.lt
  refine wp_cut (fun V => At 32 V w.heap.size [.int .u64 0, .int .u64 0, .int .u64 0, .int .u64 0, .int .u64 0, .int .u64 0, .int .u64 0, .int .u64 0, .int .u64 0, .int .u64 0, .int .u64 0, .int .u64 0, .int .u64 0, .int .u64 0, .int .u64 0, .int .u64 0, .int .u64 0, .int .u64 0, .int .u64 0, .int .u64 0] ∧ Gd V ∧ Gl V ∧ Below w.heap.size w V) ⟨?_, ?_, ?_, ?_⟩ ?_
  · (repeat (first | refine At.drew ?_ | refine At.drewN ?_ _ | (refine at_new2 _ _ _ _ ?_; simp; done) | refine at_alloc ?_ _))
  · refine D_0.out.grown ?_
    (repeat (first | exact Below.refl _ _ | refine Below.drew ?_ | refine below_drewN ?_ _ | refine Below.alloc ?_ (by simp <;> omega) _))
  · refine Z_0.out.grown ?_
    (repeat (first | exact Below.refl _ _ | refine Below.drew ?_ | refine below_drewN ?_ _ | refine Below.alloc ?_ (by simp <;> omega) _))
  · (repeat (first | exact Below.refl _ _ | refine Below.drew ?_ | refine below_drewN ?_ _ | refine Below.alloc ?_ (by simp <;> omega) _))
  rintro w1 ⟨k0, k1, k2, k3⟩
  have B2_1 := hid k0
  have D_1 := hid k1
  have Z_1 := hid k2
  have G_1 := hid k3
  clear k0 k1 k2 k3 D_0 Z_0
  have c31 : w1.cell? ⟨b, o + 31, none⟩ = some (.int .u8 (byteAt N 31)) := (G_1.out.cell (p := ⟨b, o + 31, none⟩) hb).trans (HC.out 31 (by omega))
  go_wp2_with fail
  clear c31
  refine (KC.out w1 G_1.out).mono ?_
  rintro e w2 ⟨v2, rfl, ho, g⟩
  obtain ⟨gb, gc, L, rfl, hgb, hA, hL⟩ := own8_row ho
  obtain ⟨hAN, hcells⟩ := row_low hA hL hN hy.out
  clear hy
  have r31 : w2.cell? ⟨gb, 31, none⟩ = some (.int .u8 (byteAt N 31)) := by rw [hA.cell]; exact hL 31 (by omega)
  have f31 : w2.frozen? ⟨gb, 31, none⟩ = false := hA.free 31
  have nlB2 : w.heap.size < gb := Nat.lt_of_lt_of_le B2_1.out.lt hgb
  have hgw : w.heap.size ≤ gb := Nat.le_trans G_1.out.size hgb
  have B2_2 := hid (B2_1.out.below g)
  have D_2 := hid (D_1.out.grown g)
  have Z_2 := hid (Z_1.out.grown g)
  have G_2 := hid (G_1.out.trans (g.mono G_1.out.size))
  clear g ho hgb B2_1 D_1 Z_1 G_1
  go_wp2_with fail
  clear r31 f31 hAN
  have hO : Oth gb w2 (w2.setCell ⟨gb, 31, none⟩ (.int .u8 (byteAt y 31))) := (Oth.refl gb w2).set 31 _
  refine calls_at (fun V => (∀ j, j < 32 → V.cell? ⟨gb, 0 + j, none⟩ = some (.int .u8 (byteAt y j))) ∧ gb < V.heap.size ∧ At 32 V w.heap.size [.int .u64 0, .int .u64 0, .int .u64 0, .int .u64 0, .int .u64 0, .int .u64 0, .int .u64 0, .int .u64 0, .int .u64 0, .int .u64 0, .int .u64 0, .int .u64 0, .int .u64 0, .int .u64 0, .int .u64 0, .int .u64 0, .int .u64 0, .int .u64 0, .int .u64 0, .int .u64 0] ∧ Gd V ∧ Gl V ∧ Below w.heap.size w V) ⟨hcells, by simpa using hA.lt, hO.at B2_2.out (by omega), D_2.out.below (below_oth hO hgw G_2.out.size) HD, Z_2.out.below (below_oth hO hgw G_2.out.size) HZ, Oth.bel G_2.out hO hgw⟩ ?_
  clear hO hcells hA hL
  rintro w3 ⟨hcells, hlt, k0, k1, k2, k3⟩
  have B2_3 := hid k0
  have D_3 := hid k1
  have Z_3 := hid k2
  have G_3 := hid k3
  clear k0 k1 k2 k3 B2_2 D_2 Z_2 G_2
  refine (KO.out w3 gb gc hlt hcells).mono ?_
  rintro e w4 ⟨rfl, g⟩
  clear hlt hcells
  have B2_4 := hid (B2_3.out.below g)
  have D_4 := hid (D_3.out.grown g)
  have Z_4 := hid (Z_3.out.grown g)
  have G_4 := hid (G_3.out.trans (g.mono G_3.out.size))
  clear g B2_3 D_3 Z_3 G_3
  go_wp2_with fail
  refine calls_at (fun V => At 32 V w.heap.size [.int .u64 0, .int .u64 0, .int .u64 0, .int .u64 0, .int .u64 0, .int .u64 0, .int .u64 0, .int .u64 0, .int .u64 0, .int .u64 0, .int .u64 0, .int .u64 0, .int .u64 0, .int .u64 0, .int .u64 0, .int .u64 0, .int .u64 0, .int .u64 0, .int .u64 0, .int .u64 0] ∧ Gd V ∧ Gl V ∧ At 28 V w4.heap.size [.int .u64 ye0, .int .u64 ye1, .int .u64 ye2, .int .u64 ye3, .int .u64 ye4] ∧ Below w.heap.size w V) ⟨(at_alloc B2_4.out _), (D_4.out.grown ((Below.refl _ _).alloc (Nat.le_refl _) _)), (Z_4.out.grown ((Below.refl _ _).alloc (Nat.le_refl _) _)), (at_new2 _ _ _ _ (by simp)), (G_4.out.alloc (by have := G_4.out.size; simp <;> omega) _)⟩ ?_
  have szB6 : w.heap.size ≤ w4.heap.size := by have := G_4.out.size; omega
  have nlB2B6 : w.heap.size < w4.heap.size := by have := B2_4.out.lt; omega
  rintro w5 ⟨k0, k1, k2, k3, k4⟩
  have B2_5 := hid k0
  have D_5 := hid k1
  have Z_5 := hid k2
  have B6_5 := hid k3
  have G_5 := hid k4
  clear k0 k1 k2 k3 k4 B2_4 D_4 Z_4 G_4
  refine (Q1.out _ D_5.out Z_5.out).mono ?_
  rintro e w6 ⟨rfl, g0⟩
  have g := g0
  clear g0
  have B2_6 := hid (B2_5.out.below g)
  have B6_6 := hid (B6_5.out.below g)
  have D_6 := hid (D_5.out.grown g)
  have Z_6 := hid (Z_5.out.grown g)
  have G_6 := hid (G_5.out.trans (g.mono G_5.out.size))
  clear g B2_5 B6_5 D_5 Z_5 G_5
  go_wp2_with (refine list_store_whole rfl 32 _ _ rfl w.heap.size [.int .u64 0, .int .u64 0, .int .u64 0, .int .u64 0, .int .u64 0, .int .u64 0, .int .u64 0, .int .u64 0, .int .u64 0, .int .u64 0, .int .u64 0, .int .u64 0, .int .u64 0, .int .u64 0, .int .u64 0, .int .u64 0, .int .u64 0, .int .u64 0, .int .u64 0, .int .u64 0] _ rfl rfl (at_alloc B2_6.out _) rfl (by kernel_rfl) (by kernel_rfl) w.heap.size w (G_6.out.alloc (by have := G_6.out.size; simp <;> omega) _) (by omega) (fun F hC hB => ?_))
  exact bodyPost_ret (v := .tuple #[.agg #[.int .u64 0, .int .u64 0, .int .u64 0, .int .u64 0, .int .u64 0, .int .u64 0, .int .u64 0, .int .u64 0, .int .u64 0, .int .u64 0, .int .u64 0, .int .u64 0, .int .u64 0, .int .u64 0, .int .u64 0, .int .u64 0, .int .u64 0, .int .u64 0, .int .u64 0, .int .u64 0], .bool false]) (results_cs (Tryd.results7) _ F w.heap.size 0 [.int .u64 0, .int .u64 0, .int .u64 0, .int .u64 0, .int .u64 0, .int .u64 0, .int .u64 0, .int .u64 0, .int .u64 0, .int .u64 0, .int .u64 0, .int .u64 0, .int .u64 0, .int .u64 0, .int .u64 0, .int .u64 0, .int .u64 0, .int .u64 0, .int .u64 0, .int .u64 0] _ _ rfl rfl hC.range Tryd.underlying32 rfl (by kernel_rfl)) rfl ⟨rfl, hB⟩
set_option maxRecDepth 100000 in
set_option maxHeartbeats 8000000 in
theorem ofP_yes_neg_w (ye za xn cx cy cz ct : L5) (N y b o c : Nat) (hN : N < 2 ^ 256) (hy : Hid (y = N % 2 ^ 255)) (hs : bits .and .u8 (byteAt N 31) 128 = 128) (w : World) (hb : b < w.heap.size)
    (HC : Hid (∀ j, j < 32 → w.cell? ⟨b, o + j, none⟩ = some (.int .u8 (byteAt N j))))
    (KC : Hid (∀ W : World, Below w.heap.size w W → Calls Tryd.prog 35 #[.slice (some ⟨b, o, none⟩) 32 c] W fun e w' => ∃ v', e = .returned v' ∧ Own8 W.heap.size w' v' (leB N 32) ∧ Below W.heap.size W w'))
    (KO : Hid (∀ (w : World) (g c : Nat), g < w.heap.size → (∀ j, j < 32 → w.cell? ⟨g, 0 + j, none⟩ = some (.int .u8 (byteAt y j))) → Calls Tryd.prog 36 #[.slice (some ⟨g, 0, none⟩) 32 c] w fun e w' => e = .returned (.tuple #[.agg #[.int .u64 ye.l0, .int .u64 ye.l1, .int .u64 ye.l2, .int .u64 ye.l3, .int .u64 ye.l4], .bool true]) ∧ Below w.heap.size w w'))
    (Q1 : Hid (∀ w : World, Gd w → Gl w → Calls Tryd.prog 37 #[.agg #[.int .u64 ye.l0, .int .u64 ye.l1, .int .u64 ye.l2, .int .u64 ye.l3, .int .u64 ye.l4]] w fun e w' => e = .returned (.tuple #[.agg #[.int .u64 za.l0, .int .u64 za.l1, .int .u64 za.l2, .int .u64 za.l3, .int .u64 za.l4], .bool true]) ∧ Below w.heap.size w w'))
    (Q2 : Hid (∀ w : World, Gl w → Calls Tryd.prog 38 #[.agg #[.int .u64 za.l0, .int .u64 za.l1, .int .u64 za.l2, .int .u64 za.l3, .int .u64 za.l4]] w fun e w' => e = .returned (.agg #[.int .u64 xn.l0, .int .u64 xn.l1, .int .u64 xn.l2, .int .u64 xn.l3, .int .u64 xn.l4]) ∧ Below w.heap.size w w'))
    (Q3 : Hid (∀ w : World, Calls Tryd.prog 39 #[.agg #[.int .u64 xn.l0, .int .u64 xn.l1, .int .u64 xn.l2, .int .u64 xn.l3, .int .u64 xn.l4]] w fun e w' => e = .returned (.bool true) ∧ Below w.heap.size w w'))
    (Q4 : Hid (∀ w : World, Calls Tryd.prog 40 #[.agg #[.int .u64 xn.l0, .int .u64 xn.l1, .int .u64 xn.l2, .int .u64 xn.l3, .int .u64 xn.l4], .agg #[.int .u64 ye.l0, .int .u64 ye.l1, .int .u64 ye.l2, .int .u64 ye.l3, .int .u64 ye.l4]] w fun e w' => e = .returned (.agg #[.int .u64 cx.l0, .int .u64 cx.l1, .int .u64 cx.l2, .int .u64 cx.l3, .int .u64 cx.l4, .int .u64 cy.l0, .int .u64 cy.l1, .int .u64 cy.l2, .int .u64 cy.l3, .int .u64 cy.l4, .int .u64 cz.l0, .int .u64 cz.l1, .int .u64 cz.l2, .int .u64 cz.l3, .int .u64 cz.l4, .int .u64 ct.l0, .int .u64 ct.l1, .int .u64 ct.l2, .int .u64 ct.l3, .int .u64 ct.l4]) ∧ Below w.heap.size w w'))
    (D_0 : Hid (Gd w)) (Z_0 : Hid (Gl w)) :
    Calls Tryd.prog 7 #[.slice (some ⟨b, o, none⟩) 32 c] w fun e w' => e = .returned (.tuple #[.agg #[.int .u64 cx.l0, .int .u64 cx.l1, .int .u64 cx.l2, .int .u64 cx.l3, .int .u64 cx.l4, .int .u64 cy.l0, .int .u64 cy.l1, .int .u64 cy.l2, .int .u64 cy.l3, .int .u64 cy.l4, .int .u64 cz.l0, .int .u64 cz.l1, .int .u64 cz.l2, .int .u64 cz.l3, .int .u64 cz.l4, .int .u64 ct.l0, .int .u64 ct.l1, .int .u64 ct.l2, .int .u64 ct.l3, .int .u64 ct.l4], .bool true]) ∧ Below w.heap.size w w' := by
  obtain ⟨ye0, ye1, ye2, ye3, ye4⟩ := ye
  obtain ⟨za0, za1, za2, za3, za4⟩ := za
  obtain ⟨xn0, xn1, xn2, xn3, xn4⟩ := xn
  obtain ⟨cx0, cx1, cx2, cx3, cx4⟩ := cx
  obtain ⟨cy0, cy1, cy2, cy3, cy4⟩ := cy
  obtain ⟨cz0, cz1, cz2, cz3, cz4⟩ := cz
  obtain ⟨ct0, ct1, ct2, ct3, ct4⟩ := ct
  dsimp only at Q1 Q2 Q3 Q4 KO ⊢
  go_enter Tryd.func7, Tryd.ntmps7
  go_upto_region 1 with fail
  have HD := D_0.out.lt
  have HZ := Z_0.out.lt
  refine wp_cut (fun V => At 32 V w.heap.size [.int .u64 0, .int .u64 0, .int .u64 0, .int .u64 0, .int .u64 0, .int .u64 0, .int .u64 0, .int .u64 0, .int .u64 0, .int .u64 0, .int .u64 0, .int .u64 0, .int .u64 0, .int .u64 0, .int .u64 0, .int .u64 0, .int .u64 0, .int .u64 0, .int .u64 0, .int .u64 0] ∧ Gd V ∧ Gl V ∧ Below w.heap.size w V) ⟨?_, ?_, ?_, ?_⟩ ?_
  · (repeat (first | refine At.drew ?_ | refine At.drewN ?_ _ | (refine at_new2 _ _ _ _ ?_; simp; done) | refine at_alloc ?_ _))
  · refine D_0.out.grown ?_
    (repeat (first | exact Below.refl _ _ | refine Below.drew ?_ | refine below_drewN ?_ _ | refine Below.alloc ?_ (by simp <;> omega) _))
  · refine Z_0.out.grown ?_
    (repeat (first | exact Below.refl _ _ | refine Below.drew ?_ | refine below_drewN ?_ _ | refine Below.alloc ?_ (by simp <;> omega) _))
  · (repeat (first | exact Below.refl _ _ | refine Below.drew ?_ | refine below_drewN ?_ _ | refine Below.alloc ?_ (by simp <;> omega) _))
  rintro w1 ⟨k0, k1, k2, k3⟩
  have B2_1 := hid k0
  have D_1 := hid k1
  have Z_1 := hid k2
  have G_1 := hid k3
  clear k0 k1 k2 k3 D_0 Z_0
  have c31 : w1.cell? ⟨b, o + 31, none⟩ = some (.int .u8 (byteAt N 31)) := (G_1.out.cell (p := ⟨b, o + 31, none⟩) hb).trans (HC.out 31 (by omega))
  go_wp2_with fail
  clear c31
  refine (KC.out w1 G_1.out).mono ?_
  rintro e w2 ⟨v2, rfl, ho, g⟩
  obtain ⟨gb, gc, L, rfl, hgb, hA, hL⟩ := own8_row ho
  obtain ⟨hAN, hcells⟩ := row_low hA hL hN hy.out
  clear hy
  have r31 : w2.cell? ⟨gb, 31, none⟩ = some (.int .u8 (byteAt N 31)) := by rw [hA.cell]; exact hL 31 (by omega)
  have f31 : w2.frozen? ⟨gb, 31, none⟩ = false := hA.free 31
  have nlB2 : w.heap.size < gb := Nat.lt_of_lt_of_le B2_1.out.lt hgb
  have hgw : w.heap.size ≤ gb := Nat.le_trans G_1.out.size hgb
  have B2_2 := hid (B2_1.out.below g)
  have D_2 := hid (D_1.out.grown g)
  have Z_2 := hid (Z_1.out.grown g)
  have G_2 := hid (G_1.out.trans (g.mono G_1.out.size))
  clear g ho hgb B2_1 D_1 Z_1 G_1
  go_wp2_with fail
  clear r31 f31 hAN
  have hO : Oth gb w2 (w2.setCell ⟨gb, 31, none⟩ (.int .u8 (byteAt y 31))) := (Oth.refl gb w2).set 31 _
  refine calls_at (fun V => (∀ j, j < 32 → V.cell? ⟨gb, 0 + j, none⟩ = some (.int .u8 (byteAt y j))) ∧ gb < V.heap.size ∧ At 32 V w.heap.size [.int .u64 0, .int .u64 0, .int .u64 0, .int .u64 0, .int .u64 0, .int .u64 0, .int .u64 0, .int .u64 0, .int .u64 0, .int .u64 0, .int .u64 0, .int .u64 0, .int .u64 0, .int .u64 0, .int .u64 0, .int .u64 0, .int .u64 0, .int .u64 0, .int .u64 0, .int .u64 0] ∧ Gd V ∧ Gl V ∧ Below w.heap.size w V) ⟨hcells, by simpa using hA.lt, hO.at B2_2.out (by omega), D_2.out.below (below_oth hO hgw G_2.out.size) HD, Z_2.out.below (below_oth hO hgw G_2.out.size) HZ, Oth.bel G_2.out hO hgw⟩ ?_
  clear hO hcells hA hL
  rintro w3 ⟨hcells, hlt, k0, k1, k2, k3⟩
  have B2_3 := hid k0
  have D_3 := hid k1
  have Z_3 := hid k2
  have G_3 := hid k3
  clear k0 k1 k2 k3 B2_2 D_2 Z_2 G_2
  refine (KO.out w3 gb gc hlt hcells).mono ?_
  rintro e w4 ⟨rfl, g⟩
  clear hlt hcells
  have B2_4 := hid (B2_3.out.below g)
  have D_4 := hid (D_3.out.grown g)
  have Z_4 := hid (Z_3.out.grown g)
  have G_4 := hid (G_3.out.trans (g.mono G_3.out.size))
  clear g B2_3 D_3 Z_3 G_3
  go_wp2_with fail
  refine calls_at (fun V => At 32 V w.heap.size [.int .u64 0, .int .u64 0, .int .u64 0, .int .u64 0, .int .u64 0, .int .u64 0, .int .u64 0, .int .u64 0, .int .u64 0, .int .u64 0, .int .u64 0, .int .u64 0, .int .u64 0, .int .u64 0, .int .u64 0, .int .u64 0, .int .u64 0, .int .u64 0, .int .u64 0, .int .u64 0] ∧ Gd V ∧ Gl V ∧ At 28 V w4.heap.size [.int .u64 ye0, .int .u64 ye1, .int .u64 ye2, .int .u64 ye3, .int .u64 ye4] ∧ Below w.heap.size w V) ⟨(at_alloc B2_4.out _), (D_4.out.grown ((Below.refl _ _).alloc (Nat.le_refl _) _)), (Z_4.out.grown ((Below.refl _ _).alloc (Nat.le_refl _) _)), (at_new2 _ _ _ _ (by simp)), (G_4.out.alloc (by have := G_4.out.size; simp <;> omega) _)⟩ ?_
  have szB6 : w.heap.size ≤ w4.heap.size := by have := G_4.out.size; omega
  have nlB2B6 : w.heap.size < w4.heap.size := by have := B2_4.out.lt; omega
  rintro w5 ⟨k0, k1, k2, k3, k4⟩
  have B2_5 := hid k0
  have D_5 := hid k1
  have Z_5 := hid k2
  have B6_5 := hid k3
  have G_5 := hid k4
  clear k0 k1 k2 k3 k4 B2_4 D_4 Z_4 G_4
  refine (Q1.out _ D_5.out Z_5.out).mono ?_
  rintro e w6 ⟨rfl, g0⟩
  have g := g0
  clear g0
  have B2_6 := hid (B2_5.out.below g)
  have B6_6 := hid (B6_5.out.below g)
  have D_6 := hid (D_5.out.grown g)
  have Z_6 := hid (Z_5.out.grown g)
  have G_6 := hid (G_5.out.trans (g.mono G_5.out.size))
  clear g B2_5 B6_5 D_5 Z_5 G_5
  go_wp2_with fail
  refine calls_at (fun V => At 32 V w.heap.size [.int .u64 0, .int .u64 0, .int .u64 0, .int .u64 0, .int .u64 0, .int .u64 0, .int .u64 0, .int .u64 0, .int .u64 0, .int .u64 0, .int .u64 0, .int .u64 0, .int .u64 0, .int .u64 0, .int .u64 0, .int .u64 0, .int .u64 0, .int .u64 0, .int .u64 0, .int .u64 0] ∧ At 28 V w4.heap.size [.int .u64 ye0, .int .u64 ye1, .int .u64 ye2, .int .u64 ye3, .int .u64 ye4] ∧ Gd V ∧ Gl V ∧ At 28 V w6.heap.size [.int .u64 za0, .int .u64 za1, .int .u64 za2, .int .u64 za3, .int .u64 za4] ∧ Below w.heap.size w V) ⟨(at_alloc B2_6.out _), (at_alloc B6_6.out _), (D_6.out.grown ((Below.refl _ _).alloc (Nat.le_refl _) _)), (Z_6.out.grown ((Below.refl _ _).alloc (Nat.le_refl _) _)), (at_new2 _ _ _ _ (by simp)), (G_6.out.alloc (by have := G_6.out.size; simp <;> omega) _)⟩ ?_
  have szB8 : w.heap.size ≤ w6.heap.size := by have := G_6.out.size; omega
  have nlB2B8 : w.heap.size < w6.heap.size := by have := B2_6.out.lt; omega
  have nlB6B8 : w4.heap.size < w6.heap.size := by have := B6_6.out.lt; omega
  rintro w7 ⟨k0, k1, k2, k3, k4, k5⟩
  have B2_7 := hid k0
  have B6_7 := hid k1
  have D_7 := hid k2
  have Z_7 := hid k3
  have B8_7 := hid k4
  have G_7 := hid k5
  clear k0 k1 k2 k3 k4 k5 B2_6 B6_6 D_6 Z_6 G_6
  refine (Q2.out _ Z_7.out).mono ?_
  rintro e w8 ⟨rfl, g0⟩
  have g := g0
  clear g0
  have B2_8 := hid (B2_7.out.below g)
  have B6_8 := hid (B6_7.out.below g)
  have B8_8 := hid (B8_7.out.below g)
  have D_8 := hid (D_7.out.grown g)
  have Z_8 := hid (Z_7.out.grown g)
  have G_8 := hid (G_7.out.trans (g.mono G_7.out.size))
  clear g B2_7 B6_7 B8_7 D_7 Z_7 G_7
  have nbB2B8 : ¬ (w.heap.size = w6.heap.size) := by omega
  have nbB6B8 : ¬ (w4.heap.size = w6.heap.size) := by omega
  go_wp2_with (first | (refine list_store_oth rfl 28 _ _ rfl w6.heap.size [.int .u64 xn0, .int .u64 xn1, .int .u64 xn2, .int .u64 xn3, .int .u64 xn4] _ rfl rfl B8_8.out rfl (by kernel_rfl) (by kernel_rfl) (fun w9 hC hO => ?_); have cc0 := hC.cell 0; have cc1 := hC.cell 1; have cc2 := hC.cell 2; have cc3 := hC.cell 3; have cc4 := hC.cell 4; simp only [List.getElem?_cons_zero, List.getElem?_cons_succ] at cc0 cc1 cc2 cc3 cc4) | fail)
  clear cc0 cc1 cc2 cc3 cc4
  have B2_9 := hid (hO.at B2_8.out nbB2B8)
  have B6_9 := hid (hO.at B6_8.out nbB6B8)
  have B8_9 := hid hC
  have G_9 := hid (Oth.bel G_8.out hO (by omega))
  have D_9 := hid (D_8.out.below (below_oth hO (show w.heap.size ≤ w6.heap.size by omega) G_8.out.size) HD)
  have Z_9 := hid (Z_8.out.below (below_oth hO (show w.heap.size ≤ w6.heap.size by omega) G_8.out.size) HZ)
  clear B2_8 B6_8 B8_8 D_8 Z_8 G_8 hC hO
  refine (Q3.out _).mono ?_
  rintro e w10 ⟨rfl, g0⟩
  have g := g0
  clear g0
  have B2_10 := hid (B2_9.out.below g)
  have B6_10 := hid (B6_9.out.below g)
  have B8_10 := hid (B8_9.out.below g)
  have D_10 := hid (D_9.out.grown g)
  have Z_10 := hid (Z_9.out.grown g)
  have G_10 := hid (G_9.out.trans (g.mono G_9.out.size))
  clear g B2_9 B6_9 B8_9 D_9 Z_9 G_9
  go_wp2_with (first | (refine wpList_load_mid rfl 28 _ rfl w6.heap.size 0 rfl [.int .u64 xn0, .int .u64 xn1, .int .u64 xn2, .int .u64 xn3, .int .u64 xn4] _ (at_mid B8_10.out 0 _ rfl) Tryd.underlying28 rfl (by kernel_rfl) ?_) | (refine wpList_load_mid rfl 28 _ rfl w4.heap.size 0 rfl [.int .u64 ye0, .int .u64 ye1, .int .u64 ye2, .int .u64 ye3, .int .u64 ye4] _ (at_mid B6_10.out 0 _ rfl) Tryd.underlying28 rfl (by kernel_rfl) ?_) | fail)
  refine (Q4.out _).mono ?_
  rintro e w11 ⟨rfl, g0⟩
  have g := g0
  clear g0
  have B2_11 := hid (B2_10.out.below g)
  have B6_11 := hid (B6_10.out.below g)
  have B8_11 := hid (B8_10.out.below g)
  have D_11 := hid (D_10.out.grown g)
  have Z_11 := hid (Z_10.out.grown g)
  have G_11 := hid (G_10.out.trans (g.mono G_10.out.size))
  clear g B2_10 B6_10 B8_10 D_10 Z_10 G_10
  go_wp2_with (first | (refine list_store_whole rfl 32 _ _ rfl w.heap.size [.int .u64 cx0, .int .u64 cx1, .int .u64 cx2, .int .u64 cx3, .int .u64 cx4, .int .u64 cy0, .int .u64 cy1, .int .u64 cy2, .int .u64 cy3, .int .u64 cy4, .int .u64 cz0, .int .u64 cz1, .int .u64 cz2, .int .u64 cz3, .int .u64 cz4, .int .u64 ct0, .int .u64 ct1, .int .u64 ct2, .int .u64 ct3, .int .u64 ct4] _ rfl rfl B2_11.out rfl (by kernel_rfl) (by kernel_rfl) w.heap.size w G_11.out (by omega) (fun F hC hB => ?_)) | fail)
  exact bodyPost_ret (v := .tuple #[.agg #[.int .u64 cx0, .int .u64 cx1, .int .u64 cx2, .int .u64 cx3, .int .u64 cx4, .int .u64 cy0, .int .u64 cy1, .int .u64 cy2, .int .u64 cy3, .int .u64 cy4, .int .u64 cz0, .int .u64 cz1, .int .u64 cz2, .int .u64 cz3, .int .u64 cz4, .int .u64 ct0, .int .u64 ct1, .int .u64 ct2, .int .u64 ct3, .int .u64 ct4], .bool true]) (results_cs (Tryd.results7) _ F w.heap.size 0 [.int .u64 cx0, .int .u64 cx1, .int .u64 cx2, .int .u64 cx3, .int .u64 cx4, .int .u64 cy0, .int .u64 cy1, .int .u64 cy2, .int .u64 cy3, .int .u64 cy4, .int .u64 cz0, .int .u64 cz1, .int .u64 cz2, .int .u64 cz3, .int .u64 cz4, .int .u64 ct0, .int .u64 ct1, .int .u64 ct2, .int .u64 ct3, .int .u64 ct4] _ _ rfl rfl hC.range Tryd.underlying32 rfl (by kernel_rfl)) rfl ⟨rfl, hB⟩
set_option maxRecDepth 100000 in
set_option maxHeartbeats 8000000 in
theorem ofP_zero_neg_w (ye za xn : L5) (N y b o c : Nat) (hN : N < 2 ^ 256) (hy : Hid (y = N % 2 ^ 255)) (hs : bits .and .u8 (byteAt N 31) 128 = 128) (w : World) (hb : b < w.heap.size)
    (HC : Hid (∀ j, j < 32 → w.cell? ⟨b, o + j, none⟩ = some (.int .u8 (byteAt N j))))
    (KC : Hid (∀ W : World, Below w.heap.size w W → Calls Tryd.prog 35 #[.slice (some ⟨b, o, none⟩) 32 c] W fun e w' => ∃ v', e = .returned v' ∧ Own8 W.heap.size w' v' (leB N 32) ∧ Below W.heap.size W w'))
    (KO : Hid (∀ (w : World) (g c : Nat), g < w.heap.size → (∀ j, j < 32 → w.cell? ⟨g, 0 + j, none⟩ = some (.int .u8 (byteAt y j))) → Calls Tryd.prog 36 #[.slice (some ⟨g, 0, none⟩) 32 c] w fun e w' => e = .returned (.tuple #[.agg #[.int .u64 ye.l0, .int .u64 ye.l1, .int .u64 ye.l2, .int .u64 ye.l3, .int .u64 ye.l4], .bool true]) ∧ Below w.heap.size w w'))
    (Q1 : Hid (∀ w : World, Gd w → Gl w → Calls Tryd.prog 37 #[.agg #[.int .u64 ye.l0, .int .u64 ye.l1, .int .u64 ye.l2, .int .u64 ye.l3, .int .u64 ye.l4]] w fun e w' => e = .returned (.tuple #[.agg #[.int .u64 za.l0, .int .u64 za.l1, .int .u64 za.l2, .int .u64 za.l3, .int .u64 za.l4], .bool true]) ∧ Below w.heap.size w w'))
    (Q2 : Hid (∀ w : World, Gl w → Calls Tryd.prog 38 #[.agg #[.int .u64 za.l0, .int .u64 za.l1, .int .u64 za.l2, .int .u64 za.l3, .int .u64 za.l4]] w fun e w' => e = .returned (.agg #[.int .u64 xn.l0, .int .u64 xn.l1, .int .u64 xn.l2, .int .u64 xn.l3, .int .u64 xn.l4]) ∧ Below w.heap.size w w'))
    (Q3 : Hid (∀ w : World, Calls Tryd.prog 39 #[.agg #[.int .u64 xn.l0, .int .u64 xn.l1, .int .u64 xn.l2, .int .u64 xn.l3, .int .u64 xn.l4]] w fun e w' => e = .returned (.bool false) ∧ Below w.heap.size w w'))
    (D_0 : Hid (Gd w)) (Z_0 : Hid (Gl w)) :
    Calls Tryd.prog 7 #[.slice (some ⟨b, o, none⟩) 32 c] w fun e w' => e = .returned (.tuple #[.agg #[.int .u64 0, .int .u64 0, .int .u64 0, .int .u64 0, .int .u64 0, .int .u64 0, .int .u64 0, .int .u64 0, .int .u64 0, .int .u64 0, .int .u64 0, .int .u64 0, .int .u64 0, .int .u64 0, .int .u64 0, .int .u64 0, .int .u64 0, .int .u64 0, .int .u64 0, .int .u64 0], .bool false]) ∧ Below w.heap.size w w' := by
  obtain ⟨ye0, ye1, ye2, ye3, ye4⟩ := ye
  obtain ⟨za0, za1, za2, za3, za4⟩ := za
  obtain ⟨xn0, xn1, xn2, xn3, xn4⟩ := xn
  dsimp only at Q1 Q2 Q3 KO ⊢
  go_enter Tryd.func7, Tryd.ntmps7
  go_upto_region 1 with fail
  have HD := D_0.out.lt
  have HZ := Z_0.out.lt
  refine wp_cut (fun V => At 32 V w.heap.size [.int .u64 0, .int .u64 0, .int .u64 0, .int .u64 0, .int .u64 0, .int .u64 0, .int .u64 0, .int .u64 0, .int .u64 0, .int .u64 0, .int .u64 0, .int .u64 0, .int .u64 0, .int .u64 0, .int .u64 0, .int .u64 0, .int .u64 0, .int .u64 0, .int .u64 0, .int .u64 0] ∧ Gd V ∧ Gl V ∧ Below w.heap.size w V) ⟨?_, ?_, ?_, ?_⟩ ?_
  · (repeat (first | refine At.drew ?_ | refine At.drewN ?_ _ | (refine at_new2 _ _ _ _ ?_; simp; done) | refine at_alloc ?_ _))
  · refine D_0.out.grown ?_
    (repeat (first | exact Below.refl _ _ | refine Below.drew ?_ | refine below_drewN ?_ _ | refine Below.alloc ?_ (by simp <;> omega) _))
  · refine Z_0.out.grown ?_
    (repeat (first | exact Below.refl _ _ | refine Below.drew ?_ | refine below_drewN ?_ _ | refine Below.alloc ?_ (by simp <;> omega) _))
  · (repeat (first | exact Below.refl _ _ | refine Below.drew ?_ | refine below_drewN ?_ _ | refine Below.alloc ?_ (by simp <;> omega) _))
  rintro w1 ⟨k0, k1, k2, k3⟩
  have B2_1 := hid k0
  have D_1 := hid k1
  have Z_1 := hid k2
  have G_1 := hid k3
  clear k0 k1 k2 k3 D_0 Z_0
  have c31 : w1.cell? ⟨b, o + 31, none⟩ = some (.int .u8 (byteAt N 31)) := (G_1.out.cell (p := ⟨b, o + 31, none⟩) hb).trans (HC.out 31 (by omega))
  go_wp2_with fail
  clear c31
  refine (KC.out w1 G_1.out).mono ?_
  rintro e w2 ⟨v2, rfl, ho, g⟩
  obtain ⟨gb, gc, L, rfl, hgb, hA, hL⟩ := own8_row ho
  obtain ⟨hAN, hcells⟩ := row_low hA hL hN hy.out
  clear hy
  have r31 : w2.cell? ⟨gb, 31, none⟩ = some (.int .u8 (byteAt N 31)) := by rw [hA.cell]; exact hL 31 (by omega)
  have f31 : w2.frozen? ⟨gb, 31, none⟩ = false := hA.free 31
  have nlB2 : w.heap.size < gb := Nat.lt_of_lt_of_le B2_1.out.lt hgb
  have hgw : w.heap.size ≤ gb := Nat.le_trans G_1.out.size hgb
  have B2_2 := hid (B2_1.out.below g)
  have D_2 := hid (D_1.out.grown g)
  have Z_2 := hid (Z_1.out.grown g)
  have G_2 := hid (G_1.out.trans (g.mono G_1.out.size))
  clear g ho hgb B2_1 D_1 Z_1 G_1
  go_wp2_with fail
  clear r31 f31 hAN
  have hO : Oth gb w2 (w2.setCell ⟨gb, 31, none⟩ (.int .u8 (byteAt y 31))) := (Oth.refl gb w2).set 31 _
  refine calls_at (fun V => (∀ j, j < 32 → V.cell? ⟨gb, 0 + j, none⟩ = some (.int .u8 (byteAt y j))) ∧ gb < V.heap.size ∧ At 32 V w.heap.size [.int .u64 0, .int .u64 0, .int .u64 0, .int .u64 0, .int .u64 0, .int .u64 0, .int .u64 0, .int .u64 0, .int .u64 0, .int .u64 0, .int .u64 0, .int .u64 0, .int .u64 0, .int .u64 0, .int .u64 0, .int .u64 0, .int .u64 0, .int .u64 0, .int .u64 0, .int .u64 0] ∧ Gd V ∧ Gl V ∧ Below w.heap.size w V) ⟨hcells, by simpa using hA.lt, hO.at B2_2.out (by omega), D_2.out.below (below_oth hO hgw G_2.out.size) HD, Z_2.out.below (below_oth hO hgw G_2.out.size) HZ, Oth.bel G_2.out hO hgw⟩ ?_
  clear hO hcells hA hL
  rintro w3 ⟨hcells, hlt, k0, k1, k2, k3⟩
  have B2_3 := hid k0
  have D_3 := hid k1
  have Z_3 := hid k2
  have G_3 := hid k3
  clear k0 k1 k2 k3 B2_2 D_2 Z_2 G_2
  refine (KO.out w3 gb gc hlt hcells).mono ?_
  rintro e w4 ⟨rfl, g⟩
  clear hlt hcells
  have B2_4 := hid (B2_3.out.below g)
  have D_4 := hid (D_3.out.grown g)
  have Z_4 := hid (Z_3.out.grown g)
  have G_4 := hid (G_3.out.trans (g.mono G_3.out.size))
  clear g B2_3 D_3 Z_3 G_3
  go_wp2_with fail
  refine calls_at (fun V => At 32 V w.heap.size [.int .u64 0, .int .u64 0, .int .u64 0, .int .u64 0, .int .u64 0, .int .u64 0, .int .u64 0, .int .u64 0, .int .u64 0, .int .u64 0, .int .u64 0, .int .u64 0, .int .u64 0, .int .u64 0, .int .u64 0, .int .u64 0, .int .u64 0, .int .u64 0, .int .u64 0, .int .u64 0] ∧ Gd V ∧ Gl V ∧ At 28 V w4.heap.size [.int .u64 ye0, .int .u64 ye1, .int .u64 ye2, .int .u64 ye3, .int .u64 ye4] ∧ Below w.heap.size w V) ⟨(at_alloc B2_4.out _), (D_4.out.grown ((Below.refl _ _).alloc (Nat.le_refl _) _)), (Z_4.out.grown ((Below.refl _ _).alloc (Nat.le_refl _) _)), (at_new2 _ _ _ _ (by simp)), (G_4.out.alloc (by have := G_4.out.size; simp <;> omega) _)⟩ ?_
  have szB6 : w.heap.size ≤ w4.heap.size := by have := G_4.out.size; omega
  have nlB2B6 : w.heap.size < w4.heap.size := by have := B2_4.out.lt; omega
  rintro w5 ⟨k0, k1, k2, k3, k4⟩
  have B2_5 := hid k0
  have D_5 := hid k1
  have Z_5 := hid k2
  have B6_5 := hid k3
  have G_5 := hid k4
  clear k0 k1 k2 k3 k4 B2_4 D_4 Z_4 G_4
  refine (Q1.out _ D_5.out Z_5.out).mono ?_
  rintro e w6 ⟨rfl, g0⟩
  have g := g0
  clear g0
  have B2_6 := hid (B2_5.out.below g)
  have B6_6 := hid (B6_5.out.below g)
  have D_6 := hid (D_5.out.grown g)
  have Z_6 := hid (Z_5.out.grown g)
  have G_6 := hid (G_5.out.trans (g.mono G_5.out.size))
  clear g B2_5 B6_5 D_5 Z_5 G_5
  go_wp2_with fail
  refine calls_at (fun V => At 32 V w.heap.size [.int .u64 0, .int .u64 0, .int .u64 0, .int .u64 0, .int .u64 0, .int .u64 0, .int .u64 0, .int .u64 0, .int .u64 0, .int .u64 0, .int .u64 0, .int .u64 0, .int .u64 0, .int .u64 0, .int .u64 0, .int .u64 0, .int .u64 0, .int .u64 0, .int .u64 0, .int .u64 0] ∧ At 28 V w4.heap.size [.int .u64 ye0, .int .u64 ye1, .int .u64 ye2, .int .u64 ye3, .int .u64 ye4] ∧ Gd V ∧ Gl V ∧ At 28 V w6.heap.size [.int .u64 za0, .int .u64 za1, .int .u64 za2, .int .u64 za3, .int .u64 za4] ∧ Below w.heap.size w V) ⟨(at_alloc B2_6.out _), (at_alloc B6_6.out _), (D_6.out.grown ((Below.refl _ _).alloc (Nat.le_refl _) _)), (Z_6.out.grown ((Below.refl _ _).alloc (Nat.le_refl _) _)), (at_new2 _ _ _ _ (by simp)), (G_6.out.alloc (by have := G_6.out.size; simp <;> omega) _)⟩ ?_
  have szB8 : w.heap.size ≤ w6.heap.size := by have := G_6.out.size; omega
  have nlB2B8 : w.heap.size < w6.heap.size := by have := B2_6.out.lt; omega
  have nlB6B8 : w4.heap.size < w6.heap.size := by have := B6_6.out.lt; omega
  rintro w7 ⟨k0, k1, k2, k3, k4, k5⟩
  have B2_7 := hid k0
  have B6_7 := hid k1
  have D_7 := hid k2
  have Z_7 := hid k3
  have B8_7 := hid k4
  have G_7 := hid k5
  clear k0 k1 k2 k3 k4 k5 B2_6 B6_6 D_6 Z_6 G_6
  refine (Q2.out _ Z_7.out).mono ?_
  rintro e w8 ⟨rfl, g0⟩
  have g := g0
  clear g0
  have B2_8 := hid (B2_7.out.below g)
  have B6_8 := hid (B6_7.out.below g)
  have B8_8 := hid (B8_7.out.below g)
  have D_8 := hid (D_7.out.grown g)
  have Z_8 := hid (Z_7.out.grown g)
  have G_8 := hid (G_7.out.trans (g.mono G_7.out.size))
  clear g B2_7 B6_7 B8_7 D_7 Z_7 G_7
  have nbB2B8 : ¬ (w.heap.size = w6.heap.size) := by omega
  have nbB6B8 : ¬ (w4.heap.size = w6.heap.size) := by omega
  go_wp2_with (first | (refine list_store_oth rfl 28 _ _ rfl w6.heap.size [.int .u64 xn0, .int .u64 xn1, .int .u64 xn2, .int .u64 xn3, .int .u64 xn4] _ rfl rfl B8_8.out rfl (by kernel_rfl) (by kernel_rfl) (fun w9 hC hO => ?_); have cc0 := hC.cell 0; have cc1 := hC.cell 1; have cc2 := hC.cell 2; have cc3 := hC.cell 3; have cc4 := hC.cell 4; simp only [List.getElem?_cons_zero, List.getElem?_cons_succ] at cc0 cc1 cc2 cc3 cc4) | fail)
  clear cc0 cc1 cc2 cc3 cc4
  have B2_9 := hid (hO.at B2_8.out nbB2B8)
  have B6_9 := hid (hO.at B6_8.out nbB6B8)
  have B8_9 := hid hC
  have G_9 := hid (Oth.bel G_8.out hO (by omega))
  have D_9 := hid (D_8.out.below (below_oth hO (show w.heap.size ≤ w6.heap.size by omega) G_8.out.size) HD)
  have Z_9 := hid (Z_8.out.below (below_oth hO (show w.heap.size ≤ w6.heap.size by omega) G_8.out.size) HZ)
  clear B2_8 B6_8 B8_8 D_8 Z_8 G_8 hC hO
  refine (Q3.out _).mono ?_
  rintro e w10 ⟨rfl, g0⟩
  have g := g0
  clear g0
  have B2_10 := hid (B2_9.out.below g)
  have B6_10 := hid (B6_9.out.below g)
  have B8_10 := hid (B8_9.out.below g)
  have D_10 := hid (D_9.out.grown g)
  have Z_10 := hid (Z_9.out.grown g)
  have G_10 := hid (G_9.out.trans (g.mono G_9.out.size))
  clear g B2_9 B6_9 B8_9 D_9 Z_9 G_9
  go_wp2_with (refine list_store_whole rfl 32 _ _ rfl w.heap.size [.int .u64 0, .int .u64 0, .int .u64 0, .int .u64 0, .int .u64 0, .int .u64 0, .int .u64 0, .int .u64 0, .int .u64 0, .int .u64 0, .int .u64 0, .int .u64 0, .int .u64 0, .int .u64 0, .int .u64 0, .int .u64 0, .int .u64 0, .int .u64 0, .int .u64 0, .int .u64 0] _ rfl rfl B2_10.out rfl (by kernel_rfl) (by kernel_rfl) w.heap.size w G_10.out (by omega) (fun F hC hB => ?_))
  exact bodyPost_ret (v := .tuple #[.agg #[.int .u64 0, .int .u64 0, .int .u64 0, .int .u64 0, .int .u64 0, .int .u64 0, .int .u64 0, .int .u64 0, .int .u64 0, .int .u64 0, .int .u64 0, .int .u64 0, .int .u64 0, .int .u64 0, .int .u64 0, .int .u64 0, .int .u64 0, .int .u64 0, .int .u64 0, .int .u64 0], .bool false]) (results_cs (Tryd.results7) _ F w.heap.size 0 [.int .u64 0, .int .u64 0, .int .u64 0, .int .u64 0, .int .u64 0, .int .u64 0, .int .u64 0, .int .u64 0, .int .u64 0, .int .u64 0, .int .u64 0, .int .u64 0, .int .u64 0, .int .u64 0, .int .u64 0, .int .u64 0, .int .u64 0, .int .u64 0, .int .u64 0, .int .u64 0] _ _ rfl rfl hC.range Tryd.underlying32 rfl (by kernel_rfl)) rfl ⟨rfl, hB⟩
end Go.Proofs.YtedhfimjcpbcpaaDoor.Ed

/-
  The contracts of the program's Bytes, Of and From of layer 10, of points of the curve. Conditions: as each theorem says.
-/
namespace Go.Proofs.YtedhfimjcpbcpaaDoor.Ed
open Go.RowKit
set_option linter.unusedVariables false
set_option linter.unusedSimpArgs false

theorem nn_k (x : L5) (a : K) (h : kx x = a) : x.nn = a.val := by rw [← h, kx_nn]
theorem neg_bit (x : L5) (tx : x.Tm) (b : Bool) (hb : b = true ↔ x.nn % 2 = 1) (w : World) : Calls Tryd.prog 39 #[.agg #[.int .u64 x.l0, .int .u64 x.l1, .int .u64 x.l2, .int .u64 x.l3, .int .u64 x.l4]] w fun e w' => e = .returned (.bool b) ∧ Below w.heap.size w w' := by
  refine negative_fe x tx b ?_ w
  have e := x.nn_eq
  rw [← e]
  by_cases h : x.nn % 2 = 1
  · rw [hb.2 h, decide_eq_true (by omega)]
  · rw [decide_eq_false (by omega)]
    cases b
    · rfl
    · exact absurd (hb.1 rfl) h
theorem bytes_p (p : P4) (P : Pt) (hp : p.Is P) : ∀ w : World, Calls Tryd.prog 11 #[.agg #[.int .u64 p.x.l0, .int .u64 p.x.l1, .int .u64 p.x.l2, .int .u64 p.x.l3, .int .u64 p.x.l4, .int .u64 p.y.l0, .int .u64 p.y.l1, .int .u64 p.y.l2, .int .u64 p.y.l3, .int .u64 p.y.l4, .int .u64 p.z.l0, .int .u64 p.z.l1, .int .u64 p.z.l2, .int .u64 p.z.l3, .int .u64 p.z.l4, .int .u64 p.t.l0, .int .u64 p.t.l1, .int .u64 p.t.l2, .int .u64 p.t.l3, .int .u64 p.t.l4]] w fun e w' => ∃ g, e = .returned (.slice (some ⟨g, 0, none⟩) 32 32) ∧ SK .u8 w' (.slice (some ⟨g, 0, none⟩) 32 32) (bytesOf P) ∧ w.heap.size ≤ g ∧ Below w.heap.size w w' := by
  intro w
  obtain ⟨x, y, tx, ty, ex, ey, qp⟩ := pair_p p P hp
  have nx := nn_k x _ ex
  have ny := nn_k y _ ey
  have ly : P.y.val < 2 ^ 255 := Nat.lt_trans (val_lt _) P25_top
  have qb : ∀ w : World, Calls Tryd.prog 55 #[.agg #[.int .u64 y.l0, .int .u64 y.l1, .int .u64 y.l2, .int .u64 y.l3, .int .u64 y.l4]] w fun e w' => ∃ g, e = .returned (.slice (some ⟨g, 0, none⟩) 32 32) ∧ Fil P.y.val g 32 w' ∧ w.heap.size ≤ g ∧ Below w.heap.size w w' := fun w => by
    have h := bytes_fe y ty w
    rwa [ny] at h
  by_cases hx : P.x.val % 2 = 1
  · refine (bytes_yes_w p.x p.y p.z p.t x y P.y.val ly qp (neg_bit x tx true (by rw [nx]; exact ⟨fun _ => hx, fun _ => rfl⟩)) qb w).mono fun e w' h => ?_
    obtain ⟨g, e1, e2, e3, e4⟩ := h
    refine ⟨g, e1, ?_, e3, e4⟩
    unfold bytesOf
    rw [if_pos hx]
    exact fil_sk _ _ _ e2
  · refine (bytes_no_w p.x p.y p.z p.t x y P.y.val ly qp (neg_bit x tx false (by rw [nx]; exact ⟨fun h => Bool.noConfusion h, fun h => absurd h hx⟩)) qb w).mono fun e w' h => ?_
    obtain ⟨g, e1, e2, e3, e4⟩ := h
    refine ⟨g, e1, ?_, e3, e4⟩
    unfold bytesOf
    rw [if_neg hx, Nat.add_zero]
    exact fil_sk _ _ _ e2
/-- The x of a y, as the document has it. -/
theorem across_p (y : L5) (ty : y.Tm) (U V : Nat) (hU : (y.nn * y.nn % P25 + P25 - 1) % P25 = U) (hV : (D25 * (y.nn * y.nn % P25) % P25 + 1) % P25 = V) : ∃ z : L5, z.Tm ∧ z.nn = ratN U V ∧ ∀ w : World, Gd w → Gl w → Calls Tryd.prog 37 #[.agg #[.int .u64 y.l0, .int .u64 y.l1, .int .u64 y.l2, .int .u64 y.l3, .int .u64 y.l4]] w fun e w' => e = .returned (.tuple #[.agg #[.int .u64 z.l0, .int .u64 z.l1, .int .u64 z.l2, .int .u64 z.l3, .int .u64 z.l4], .bool (ratOk U V)]) ∧ Below w.heap.size w w' := by
  obtain ⟨s, ts, es, qs⟩ := square_fe y 1 ty (by omega) 1 (Or.inr (Or.inl ⟨by omega, by omega, rfl⟩))
  have ns : s.nn = y.nn * y.nn % P25 := nn_mul y y s (by
    have e := es.out
    rw [show (2 : Nat) ^ 1 = 1 + 1 from rfl, Int.pow_succ, Int.pow_succ, Int.pow_zero, Int.one_mul] at e
    exact e)
  have n1 : L5.nn ⟨1, 0, 0, 0, 0⟩ = 1 := nn_small 1 (by decide +kernel)
  have nd : d_.nn = D25 := nn_low (by decide +kernel) (by decide +kernel)
  obtain ⟨u, tu, eu, qu⟩ := sub_fe s ⟨1, 0, 0, 0, 0⟩ ts one_tm
  have nu := nn_sub _ _ _ eu.out
  obtain ⟨m, tm, em, qm⟩ := mul_fe d_ s d_tm ts
  have nm := nn_mul _ _ _ em.out
  obtain ⟨v, tv, ev, qv⟩ := add_fe m ⟨1, 0, 0, 0, 0⟩ tm one_tm
  have nv := nn_add _ _ _ ev.out
  obtain ⟨z, lz, ez, qz⟩ := root_fe u v tu tv
  rw [n1, ns, hU] at nu
  rw [nd, ns] at nm
  rw [n1, nm, hV] at nv
  obtain ⟨c1, c2⟩ := code_rat u.nn_lt v.nn_lt
  have nz : z.nn = codeN u.nn v.nn := nn_low ez (by rw [c2]; exact rat_lt _ _)
  rw [c2, nu, nv] at nz
  refine ⟨z, lz.tm, nz, fun w hD hZ => ?_⟩
  rw [← nu, ← nv, ← c1]
  exact across_w y s u m v z (codeOk u.nn v.nn) (fun w => small_fe 1 (by omega) w) qs qu qm qv qz w hD hZ
theorem ld_nn (n : Nat) (h : n < P25) : (ld n).nn = n := nn_low (ld_num n) h
theorem bs_byte (n : Nat) : ∀ j, 0 ≤ byteAt n j ∧ byteAt n j ≤ 255 := fun j => byteAt_rng n j
theorem vb_low (y : Nat) (h : y < 2 ^ 255) : vb (byteAt y) 32 = y := by
  rw [vb_byteAt]
  exact Nat.mod_eq_of_lt (Nat.lt_trans h (by decide +kernel))
theorem bit_low (N : Nat) (h : N < 2 ^ 255) : bits .and .u8 (byteAt N 31) 128 = 0 := by
  show bits .and .u8 ((N / 2 ^ 248 % 256 : Nat) : Int) 128 = 0
  rw [and128 _ (by omega), show N / 2 ^ 248 % 256 / 128 * 128 = 0 by omega]
  rfl
theorem bit_high (N : Nat) (h : 2 ^ 255 ≤ N) (h2 : N < 2 ^ 256) : bits .and .u8 (byteAt N 31) 128 = 128 := by
  show bits .and .u8 ((N / 2 ^ 248 % 256 : Nat) : Int) 128 = 128
  rw [and128 _ (by omega), show N / 2 ^ 248 % 256 / 128 * 128 = 128 by omega]
  rfl
theorem ko_yes (y : Nat) (h : y < P25) (w : World) (g c : Nat) (hg : g < w.heap.size) (hc : ∀ j, j < 32 → w.cell? ⟨g, 0 + j, none⟩ = some (.int .u8 (byteAt y j))) :
    Calls Tryd.prog 36 #[.slice (some ⟨g, 0, none⟩) 32 c] w fun e w' => e = .returned (.tuple #[.agg #[.int .u64 (ld y).l0, .int .u64 (ld y).l1, .int .u64 (ld y).l2, .int .u64 (ld y).l3, .int .u64 (ld y).l4], .bool true]) ∧ Below w.heap.size w w' := by
  have hv := vb_low y (Nat.lt_trans h P25_top)
  have h2 := Go.Proofs.YtedhfimjcpbcpaaDoor.of_yes (byteAt y) (bs_byte y) g 0 c w hg hc (by rw [hv]; exact h)
  rwa [hv] at h2
theorem ko_no (y : Nat) (h : ¬ y < P25) (h2 : y < 2 ^ 255) (w : World) (g c : Nat) (hg : g < w.heap.size) (hc : ∀ j, j < 32 → w.cell? ⟨g, 0 + j, none⟩ = some (.int .u8 (byteAt y j))) :
    Calls Tryd.prog 36 #[.slice (some ⟨g, 0, none⟩) 32 c] w fun e w' => e = .returned (.tuple #[.agg #[.int .u64 0, .int .u64 0, .int .u64 0, .int .u64 0, .int .u64 0], .bool false]) ∧ Below w.heap.size w w' := by
  have hv := vb_low y h2
  exact Go.Proofs.YtedhfimjcpbcpaaDoor.of_no (byteAt y) (bs_byte y) g 0 c w hg hc (by rw [hv]; exact h)
theorem kc_clone (N b o c : Nat) (w : World) (hs : SK .u8 w (.slice (some ⟨b, o, none⟩) 32 c) (leB N 32)) (W : World) (hW : Below w.heap.size w W) :
    Calls Tryd.prog 35 #[.slice (some ⟨b, o, none⟩) 32 c] W fun e w' => ∃ v', e = .returned v' ∧ Own8 W.heap.size w' v' (leB N 32) ∧ Below W.heap.size W w' :=
  clone_own (leB N 32) (by rw [leB_length]; omega) ⟨b, o, none⟩ c 32 (leB_length _ _) W (hs.below hW)
theorem hc_bytes (N b o c : Nat) (w : World) (hs : SK .u8 w (.slice (some ⟨b, o, none⟩) 32 c) (leB N 32)) : b < w.heap.size ∧ ∀ j, j < 32 → w.cell? ⟨b, o + j, none⟩ = some (.int .u8 (byteAt N j)) := by
  refine ⟨hs.blk (leB_length _ _) (by omega), fun j hj => ?_⟩
  rw [hs.cells (leB_length _ _) (by omega) j hj, leB_byte N j hj]
theorem of_yes_p (P : Pt) : ∃ c : P4, c.Is P ∧ ∀ (v : Value) (w : World), SK .u8 w v (bytesOf P) → Gd w → Gl w → Calls Tryd.prog 7 #[v] w fun e w' => e = .returned (.tuple #[.agg #[.int .u64 c.x.l0, .int .u64 c.x.l1, .int .u64 c.x.l2, .int .u64 c.x.l3, .int .u64 c.x.l4, .int .u64 c.y.l0, .int .u64 c.y.l1, .int .u64 c.y.l2, .int .u64 c.y.l3, .int .u64 c.y.l4, .int .u64 c.z.l0, .int .u64 c.z.l1, .int .u64 c.z.l2, .int .u64 c.z.l3, .int .u64 c.z.l4, .int .u64 c.t.l0, .int .u64 c.t.l1, .int .u64 c.t.l2, .int .u64 c.t.l3, .int .u64 c.t.l4], .bool true]) ∧ Below w.heap.size w w' := by
  have hy := val_lt P.y
  have ht := P25_top
  have ty : (ld P.y.val).Tm := ld_tame _ (by omega)
  have ny := ld_nn P.y.val hy
  have ky : kx (ld P.y.val) = P.y := by unfold kx; rw [ny, k_of]
  have hpt := of_point P _ _ _ _ rfl rfl rfl rfl
  obtain ⟨U, hU⟩ : ∃ U, (P.y.val * P.y.val % P25 + P25 - 1) % P25 = U := ⟨_, rfl⟩
  obtain ⟨V, hV⟩ : ∃ V, (D25 * (P.y.val * P.y.val % P25) % P25 + 1) % P25 = V := ⟨_, rfl⟩
  rw [hU, hV] at hpt
  obtain ⟨o1, o2, o3⟩ := hpt
  obtain ⟨s0, s1⟩ := of_sign (ratN U V) P.x.val (val_lt _) o2 o3
  obtain ⟨z, tz, nz, qz⟩ := across_p (ld P.y.val) ty U V (by rw [ny]; exact hU) (by rw [ny]; exact hV)
  rw [o1] at qz
  by_cases hx : P.x.val % 2 = 1
  · obtain ⟨xn, tn, en, qn⟩ := neg_fe z tz
    have nn : xn.nn = P.x.val := by
      rw [nn_neg z xn en.out, nz, (s1 hx).2]
      exact Nat.mod_eq_of_lt (val_lt _)
    have kn : kx xn = P.x := by unfold kx; rw [nn, k_of]
    obtain ⟨c, hc, qc⟩ := of_is xn (ld P.y.val) tn ty P kn ky
    refine ⟨c, hc, fun v w hs hD hZ => ?_⟩
    unfold bytesOf at hs
    rw [if_pos hx] at hs
    obtain ⟨b, o, cc, rfl, -⟩ := hs.words (leB_length _ _) (by omega)
    obtain ⟨hb, hcl⟩ := hc_bytes _ _ _ _ _ hs
    exact ofP_yes_neg_w (ld P.y.val) z xn c.x c.y c.z c.t (P.y.val + 2 ^ 255) P.y.val b o cc (by omega) (show P.y.val = (P.y.val + 2 ^ 255) % 2 ^ 255 by omega) (bit_high _ (by omega) (by omega)) w hb hcl (kc_clone _ _ _ _ _ hs) (ko_yes P.y.val hy) qz qn (neg_bit xn tn true (by rw [nn]; exact ⟨fun _ => hx, fun _ => rfl⟩)) qc hD hZ
  · have nz2 : z.nn = P.x.val := by rw [nz]; exact s0 (by omega)
    have kz : kx z = P.x := by unfold kx; rw [nz2, k_of]
    obtain ⟨c, hc, qc⟩ := of_is z (ld P.y.val) tz ty P kz ky
    refine ⟨c, hc, fun v w hs hD hZ => ?_⟩
    unfold bytesOf at hs
    rw [if_neg hx, Nat.add_zero] at hs
    obtain ⟨b, o, cc, rfl, -⟩ := hs.words (leB_length _ _) (by omega)
    obtain ⟨hb, hcl⟩ := hc_bytes _ _ _ _ _ hs
    exact ofP_yes_w (ld P.y.val) z c.x c.y c.z c.t P.y.val P.y.val b o cc (by omega) (show P.y.val = P.y.val % 2 ^ 255 by omega) (bit_low _ (by omega)) w hb hcl (kc_clone _ _ _ _ _ hs) (ko_yes P.y.val hy) qz (neg_bit z tz false (by rw [nz2]; exact ⟨fun h => Bool.noConfusion h, fun h => absurd h hx⟩)) qc hD hZ
theorem of_no_p (l : List Nat) (hb : Bb l) (hno : ∀ P, ¬ bytesOf P = l) (v : Value) (w : World) (hs : SK .u8 w v l) (hD : Gd w) (hZ : Gl w) :
    Calls Tryd.prog 7 #[v] w fun e w' => e = .returned (.tuple #[.agg #[.int .u64 0, .int .u64 0, .int .u64 0, .int .u64 0, .int .u64 0, .int .u64 0, .int .u64 0, .int .u64 0, .int .u64 0, .int .u64 0, .int .u64 0, .int .u64 0, .int .u64 0, .int .u64 0, .int .u64 0, .int .u64 0, .int .u64 0, .int .u64 0, .int .u64 0, .int .u64 0], .bool false]) ∧ Below w.heap.size w w' := by
  have ht := P25_top
  by_cases hlen : l.length = 32
  · have hl := le_hv l hb hlen
    have hN2 : hvN (turn l) 32 < 2 ^ 256 := by
      have := hvN_lt (turn l) (bb_turn l hb) 32
      rwa [show (256 : Nat) ^ 32 = 2 ^ 256 by decide +kernel] at this
    obtain ⟨N, hN⟩ : ∃ N, hvN (turn l) 32 = N := ⟨_, rfl⟩
    rw [hN] at hl hN2
    rw [← hl] at hs
    obtain ⟨b, o, cc, rfl, -⟩ := hs.words (leB_length _ _) (by omega)
    obtain ⟨hbl, hcl⟩ := hc_bytes _ _ _ _ _ hs
    obtain ⟨y, hy⟩ : ∃ y, y = N % 2 ^ 255 := ⟨_, rfl⟩
    have hy2 : y < 2 ^ 255 := by omega
    by_cases hyP : y < P25
    · have ty : (ld y).Tm := ld_tame _ (by omega)
      have ny := ld_nn y hyP
      obtain ⟨U, hU⟩ : ∃ U, (y * y % P25 + P25 - 1) % P25 = U := ⟨_, rfl⟩
      obtain ⟨V, hV⟩ : ∃ V, (D25 * (y * y % P25) % P25 + 1) % P25 = V := ⟨_, rfl⟩
      obtain ⟨z, tz, nz, qz⟩ := across_p (ld y) ty U V (by rw [ny]; exact hU) (by rw [ny]; exact hV)
      by_cases hok : ratOk U V = true
      · have hon := of_on y _ _ U V rfl hU rfl hV hok
        obtain ⟨a1, a2, a3, a4, a5⟩ := uv_k y _ _ U V rfl hU rfl hV
        have hr := (rat_spec U V a3 a4 hok).2
        have hlt := rat_lt U V
        have hodd := P25_odd
        by_cases hsg : N < 2 ^ 255
        · exfalso
          refine hno ⟨k (ratN U V), k y, hon.1⟩ ?_
          unfold bytesOf
          dsimp only
          rw [k_small _ hlt, k_small _ hyP, if_neg (by omega), Nat.add_zero, show y = N by omega]
          exact hl
        · by_cases hz : ratN U V = 0
          · rw [hok] at qz
            obtain ⟨xn, tn, en, qn⟩ := neg_fe z tz
            have nn : xn.nn = 0 := by
              rw [nn_neg z xn en.out, nz, hz, Nat.sub_zero, Nat.mod_self]
            exact ofP_zero_neg_w (ld y) z xn N y b o cc hN2 hy (bit_high _ (by omega) hN2) w hbl hcl (kc_clone _ _ _ _ _ hs) (ko_yes y hyP) qz qn (neg_bit xn tn false (by rw [nn]; exact ⟨fun h => Bool.noConfusion h, fun h => by omega⟩)) hD hZ
          · exfalso
            have e1 : k (P25 - ratN U V) = -k (ratN U V) := by
              have := k_sub 0 (ratN U V) (by omega)
              rw [Nat.zero_add, k_mod, k_zero, from_zero] at this
              exact this
            refine hno ⟨k (P25 - ratN U V), k y, by rw [e1]; exact hon.2⟩ ?_
            unfold bytesOf
            dsimp only
            rw [k_small _ hyP, k_small _ (by omega), if_pos (by omega), show y + 2 ^ 255 = N by omega]
            exact hl
      · have hf : ratOk U V = false := by simpa using hok
        rw [hf] at qz
        by_cases hsg : N < 2 ^ 255
        · exact ofP_notok_w (ld y) z N y b o cc hN2 hy (bit_low _ hsg) w hbl hcl (kc_clone _ _ _ _ _ hs) (ko_yes y hyP) qz hD hZ
        · exact ofP_notok_neg_w (ld y) z N y b o cc hN2 hy (bit_high _ (by omega) hN2) w hbl hcl (kc_clone _ _ _ _ _ hs) (ko_yes y hyP) qz hD hZ
    · by_cases hsg : N < 2 ^ 255
      · exact ofP_big_w ⟨0, 0, 0, 0, 0⟩ N y b o cc hN2 hy (bit_low _ hsg) w hbl hcl (kc_clone _ _ _ _ _ hs) (ko_no y hyP hy2) hD hZ
      · exact ofP_big_neg_w ⟨0, 0, 0, 0, 0⟩ N y b o cc hN2 hy (bit_high _ (by omega) hN2) w hbl hcl (kc_clone _ _ _ _ _ hs) (ko_no y hyP hy2) hD hZ
  · obtain ⟨a, c, rfl⟩ := hs.shape
    exact ofP_short_w a l.length c hlen w
end Go.Proofs.YtedhfimjcpbcpaaDoor.Ed

/-
  Points, the program's and the document's, as lists of cells that nobody looks into; the contracts of layer 10 said of such. Conditions: as each theorem says.
-/
namespace Go.Proofs.YtedhfimjcpbcpaaDoor.Ed
open Go.RowKit
set_option linter.unusedVariables false
set_option linter.unusedSimpArgs false

/-- A list of cells that fills a point. -/
structure Pl (L : List Value) : Prop where
  len : L.length = 20
  one : L.toArray.all (·.oneCell') = true
theorem Pl.il {L : List Value} (h : Pl L) : (Tryd.prog.info? 32).map (·.size) = some L.length := by rw [h.len]; kernel_rfl
theorem Pl.is {L : List Value} (h : Pl L) : (Tryd.prog.info? 32).map (·.size) = some L.toArray.size := by rw [List.size_toArray]; exact h.il
/-- The cells of a point. -/
def P4.l (c : P4) : List Value := [.int .u64 c.x.l0, .int .u64 c.x.l1, .int .u64 c.x.l2, .int .u64 c.x.l3, .int .u64 c.x.l4, .int .u64 c.y.l0, .int .u64 c.y.l1, .int .u64 c.y.l2, .int .u64 c.y.l3, .int .u64 c.y.l4, .int .u64 c.z.l0, .int .u64 c.z.l1, .int .u64 c.z.l2, .int .u64 c.z.l3, .int .u64 c.z.l4, .int .u64 c.t.l0, .int .u64 c.t.l1, .int .u64 c.t.l2, .int .u64 c.t.l3, .int .u64 c.t.l4]
theorem P4.pl (c : P4) : Pl c.l := ⟨rfl, by kernel_rfl⟩
end Go.Proofs.YtedhfimjcpbcpaaDoor.Ed

/-
  The law's awake of layer 10: the chapter's example: the walk, given what each call answers. Conditions: as each theorem says.
-/
namespace Go.Proofs.YtedhfimjcpbcpaaDoor.Ed
open Go.RowKit
set_option linter.unusedVariables false
set_option linter.unusedSimpArgs false

end Go.Proofs.YtedhfimjcpbcpaaDoor.Ed

/-
  Multiples of points of the curve; sums by four numbers each, so that the kernel can reckon them; the order of the base is a prime, and its multiple of the base is nought. No program is spoken of here. Conditions: as each theorem says.
-/
namespace Go.Proofs.YtedhfimjcpbcpaaDoor.Ed
open Go.RowKit
set_option linter.unusedVariables false

/-- So many times a point. -/
noncomputable def Pt.mul : Nat → Pt → Pt
  | 0, _ => Pt.zero
  | n + 1, P => (Pt.mul n P).add P
theorem Pt.mul_next (n : Nat) (P : Pt) : Pt.mul (n + 1) P = (Pt.mul n P).add P := by rw [Pt.mul]
theorem Pt.mul_one (P : Pt) : Pt.mul 1 P = P := by
  rw [show (1 : Nat) = 0 + 1 from rfl, Pt.mul_next, Pt.mul, Pt.zero_add]
theorem Pt.mul_sum (m : Nat) (P : Pt) : ∀ n, Pt.mul (m + n) P = (Pt.mul m P).add (Pt.mul n P)
  | 0 => (Pt.add_zero _).symm
  | n + 1 => by
    show (Pt.mul (m + n) P).add P = (Pt.mul m P).add ((Pt.mul n P).add P)
    rw [Pt.mul_sum m P n, Pt.add_assoc]
theorem Pt.mul_mul (n : Nat) (P : Pt) : ∀ m, Pt.mul (m * n) P = Pt.mul m (Pt.mul n P)
  | 0 => by rw [Nat.zero_mul, Pt.mul, Pt.mul]
  | m + 1 => by
    rw [Nat.succ_mul, Pt.mul_sum, Pt.mul_mul n P m, Pt.mul_next]
theorem Pt.swap4 (a b c d : Pt) : (a.add b).add (c.add d) = (a.add c).add (b.add d) := by
  rw [Pt.add_assoc a b, ← Pt.add_assoc b c d, Pt.add_comm b c, Pt.add_assoc c b d, ← Pt.add_assoc a c]
theorem Pt.mul_pts (P Q : Pt) : ∀ n, Pt.mul n (P.add Q) = (Pt.mul n P).add (Pt.mul n Q)
  | 0 => by rw [Pt.mul, Pt.mul, Pt.mul, Pt.add_zero]
  | n + 1 => by
    show (Pt.mul n (P.add Q)).add (P.add Q) = ((Pt.mul n P).add P).add ((Pt.mul n Q).add Q)
    rw [Pt.mul_pts P Q n, Pt.swap4]
theorem Pt.mul_two (n : Nat) (P : Pt) : Pt.mul (n + n) P = (Pt.mul n P).add (Pt.mul n P) := Pt.mul_sum n P n

/-- Four numbers. -/
structure S4 where
  x : Nat
  y : Nat
  z : Nat
  t : Nat
def S4.Is (s : S4) (P : Pt) : Prop := Rx (k s.x) (k s.y) (k s.z) (k s.t) P
def sb (a b : Nat) : Nat := (a + P25 - b % P25) % P25
/-- What the sum is made of. -/
def S4.mix (a b c d : Nat) : S4 := ⟨sb b a * sb d c % P25, (d + c) * (b + a) % P25, sb d c * (d + c) % P25, sb b a * (b + a) % P25⟩
def S4.add (s t : S4) : S4 := S4.mix (sb s.y s.x * sb t.y t.x % P25) ((s.y + s.x) * (t.y + t.x) % P25) (s.t * (D25 + D25) * t.t % P25) ((s.z * t.z + s.z * t.z) % P25)
def S4.nil : S4 := ⟨0, 1, 1, 0⟩
/-- So many times, by doubling and adding. -/
def S4.mul : Nat → Nat → S4 → S4
  | 0, _, _ => S4.nil
  | t + 1, n, s => if n % 2 = 1 then ((S4.mul t (n / 2) s).add (S4.mul t (n / 2) s)).add s else (S4.mul t (n / 2) s).add (S4.mul t (n / 2) s)
/-- Whether it is nought. -/
def S4.none (s : S4) : Bool := s.x % P25 == 0 && s.y % P25 == s.z % P25
theorem S4.none_is (s : S4) (P : Pt) (h : s.Is P) : s.none = true ↔ P = Pt.zero := by
  have e := rx_same _ _ _ _ _ _ _ _ P Pt.zero h rx_zero
  rw [times_one, times_one, zero_times, one_times, k_nought, k_eq] at e
  unfold S4.none
  rw [Bool.and_eq_true, beq_iff_eq, beq_iff_eq]
  exact e
theorem S4.of_is (x y t : Nat) (P : Pt) (hx : k x = P.x) (hy : k y = P.y) (ht : x * y % P25 = t) : S4.Is ⟨x, y, 1, t⟩ P := by
  unfold S4.Is
  dsimp only
  rw [← ht, k_mod, k_mul, hx, hy, k_one]
  exact rx_one P
/-- The order of the base. -/
def L25 : Nat := 7237005577332262213973186563042994240857116359379907606001950938285454250989
def baseS : S4 := ⟨bX, bY, 1, bX * bY % P25⟩
theorem base_is : baseS.Is baseP := S4.of_is bX bY _ baseP rfl rfl rfl
end Go.Proofs.YtedhfimjcpbcpaaDoor.Ed

/-
  All points of the curve are multiples of one, whose order is eight times the base's: so that many times any point is nought. No program is spoken of here. Conditions: as each theorem says.
-/
namespace Go.Proofs.YtedhfimjcpbcpaaDoor.Ed
open Go.RowKit
set_option linter.unusedVariables false

theorem Pt.cancel (a b c : Pt) (h : a.add b = a.add c) : b = c := by
  have e : a.neg.add (a.add b) = a.neg.add (a.add c) := by rw [h]
  rw [← Pt.add_assoc, ← Pt.add_assoc, Pt.add_comm a.neg a, Pt.add_neg, Pt.zero_add, Pt.zero_add] at e
  exact e
/-- A point as one number. -/
def code (P : Pt) : Nat := P.y.val + (if P.x.val % 2 = 1 then P25 else 0)
end Go.Proofs.YtedhfimjcpbcpaaDoor.Ed

/-
  What layer 11 asks of multiples: eight times, the base's by numbers modulo the order, four bits at a time. No program is spoken of here. Conditions: as each theorem says.
-/
namespace Go.Proofs.YtedhfimjcpbcpaaDoor.Ed
open Go.RowKit
set_option linter.unusedVariables false

theorem mul_twice (P : Pt) : Pt.mul 2 P = P.add P := by rw [show (2 : Nat) = 1 + 1 from rfl, Pt.mul_two, Pt.mul_one]
theorem mul_eight (P : Pt) : Pt.mul 8 P = ((P.add P).add (P.add P)).add ((P.add P).add (P.add P)) := by
  rw [show (8 : Nat) = 4 + 4 from rfl, Pt.mul_two, show (4 : Nat) = 2 + 2 from rfl, Pt.mul_two, mul_twice]
end Go.Proofs.YtedhfimjcpbcpaaDoor.Ed

/-
  Points in an array, as lists of cells; combo's sixteen times a point, and a point's small multiples. Conditions: as each theorem says.
-/
namespace Go.Proofs.YtedhfimjcpbcpaaDoor.Ed
open Go.RowKit
set_option linter.unusedVariables false
set_option linter.unusedSimpArgs false

/-- The cells of points in a row. -/
def fm (qs : List P4) : List Value := qs.flatMap P4.l
theorem fm_cons (c : P4) (qs : List P4) : fm (c :: qs) = c.l ++ fm qs := rfl
theorem l_len (c : P4) : c.l.length = 20 := rfl
theorem fm_len : ∀ qs : List P4, (fm qs).length = 20 * qs.length
  | [] => rfl
  | c :: qs => by rw [fm_cons, List.length_append, l_len, fm_len qs, List.length_cons]; omega
theorem fm_mid : ∀ (qs : List P4) (i : Nat) (c : P4), qs[i]? = some c → ((fm qs).drop (i * 20)).take 20 = c.l
  | [], i, c, h => by simp at h
  | d :: qs, 0, c, h => by
    simp only [List.getElem?_cons_zero, Option.some.injEq] at h
    subst h
    rw [fm_cons, Nat.zero_mul, List.drop_zero, List.take_append_of_le_length (by rw [l_len]; omega), List.take_of_length_le (by rw [l_len]; omega)]
  | d :: qs, i + 1, c, h => by
    simp only [List.getElem?_cons_succ] at h
    rw [fm_cons, List.drop_append, List.drop_of_length_le (by rw [l_len]; omega), List.nil_append, l_len, show (i + 1) * 20 - 20 = i * 20 by omega]
    exact fm_mid qs i c h
theorem fm_set : ∀ (qs : List P4) (i : Nat) (c : P4), i < qs.length → (fm qs).take (i * 20) ++ c.l ++ (fm qs).drop (i * 20 + 20) = fm (qs.set i c)
  | [], i, c, h => by simp at h
  | d :: qs, 0, c, h => by
    rw [List.set_cons_zero, fm_cons, fm_cons, Nat.zero_mul, List.take_zero, List.nil_append, Nat.zero_add, List.drop_append, List.drop_of_length_le (by rw [l_len]; omega), List.nil_append, l_len, Nat.sub_self, List.drop_zero]
  | d :: qs, i + 1, c, h => by
    have h2 : i < qs.length := by simpa using h
    rw [List.set_cons_succ, fm_cons, fm_cons, ← fm_set qs i c h2, List.take_append, List.take_of_length_le (by rw [l_len]; omega), l_len, List.drop_append, List.drop_of_length_le (by rw [l_len]; omega), List.nil_append, l_len, show (i + 1) * 20 - 20 = i * 20 by omega, show (i + 1) * 20 + 20 - 20 = i * 20 + 20 by omega]
    simp only [List.append_assoc]
theorem fm_one (qs : List P4) : (fm qs).toArray.all (·.oneCell') = true := by
  simp only [List.all_toArray, fm, List.all_flatMap, List.all_eq_true]
  intro c _ v hv
  have := c.pl.one
  simp only [List.all_toArray, List.all_eq_true] at this
  exact this v hv
theorem fm_il (qs : List P4) (h : qs.length = 16) : (Tryd.prog.info? 82).map (·.size) = some (fm qs).length := by rw [fm_len, h]; kernel_rfl
theorem fm_is (qs : List P4) (h : qs.length = 16) : (Tryd.prog.info? 82).map (·.size) = some (fm qs).toArray.size := by rw [List.size_toArray]; exact fm_il qs h

/-- A part of a variable is stored. -/
theorem at_midset {T : TypeId} {b : Nat} : ∀ (vs : List Value) {W : World} {L : List Value} (o : Nat), At T W b L → o + vs.length ≤ L.length → At T (W.setCells b o vs) b (L.take o ++ vs ++ L.drop (o + vs.length))
  | [], W, L, o, h, hl => by
    show At T W b _
    rw [List.append_nil, List.length_nil, Nat.add_zero, List.take_append_drop]
    exact h
  | v :: r, W, L, o, h, hl => by
    have hl2 : o + (r.length + 1) ≤ L.length := hl
    have k := at_midset r (o + 1) (h.set o v) (by rw [List.length_set]; omega)
    have e : (L.set o v).take (o + 1) ++ r ++ (L.set o v).drop (o + 1 + r.length) = L.take o ++ (v :: r) ++ L.drop (o + (v :: r).length) := by
      rw [List.length_cons, List.drop_set_of_lt (by omega), List.take_set, List.take_succ_eq_append_getElem (by omega : o < L.length), List.set_append_right _ _ (by rw [List.length_take]; omega), List.length_take, Nat.min_eq_left (by omega), Nat.sub_self, List.set_cons_zero]
      simp only [List.append_assoc, List.cons_append, List.nil_append]
      congr 4
      omega
    rw [← e]
    exact k
theorem mid_there {T : TypeId} {W : World} {b : Nat} {L : List Value} (h : At T W b L) {o n : Nat} (hn : o + n ≤ L.length) : W.there b o n := by
  intro j hj
  rw [h.cell (o + j), List.getElem?_eq_getElem (by omega)]
  exact ⟨rfl, h.free (o + j)⟩
theorem store_mid {op : Oper} {a : Act} {w : World} {K : Act → World → Prop} {Q : Exit → Act → World → Prop} (ty T : TypeId) (x y : Operand) (ho : op.op = .store ty x y)
    (b o : Nat) (L L0 : List Value) (hx : a.eval x = .pointer (some ⟨b, o, none⟩)) (hy : a.eval y = .agg L.toArray) (hA : At T w b L0) (hl : o + L.length ≤ L0.length)
    (hi : (Tryd.prog.info? ty).map (·.size) = some L.toArray.size) (h1 : L.toArray.all (·.oneCell') = true)
    (h : ∀ F, At T F b (L0.take o ++ L ++ L0.drop (o + L.length)) → Oth b w F → K (a.put op.dst undef) F) : op.wp Tryd.prog a w K Q :=
  wp_store_mid ty x y ho b o L.toArray hx hy (mid_there hA (by simpa using hl)) hi h1 (h _ (at_midset L o hA hl) (Oth.sets L o (Oth.refl b w)))

def nilE : L5 := ⟨0, 0, 0, 0, 0⟩
def nilP : P4 := ⟨nilE, nilE, nilE, nilE⟩
theorem zero_16 : Tryd.zeroCells82 = (fm (List.replicate 16 nilP)).toArray := by kernel_rfl
theorem build_16 (c : P4) (w : World) : (Instr.build 82 #[(0, .agg c.l.toArray)]).run Tryd.prog w = .ok (.agg (fm (c :: List.replicate 15 nilP)).toArray) w := by
  obtain ⟨⟨x0, x1, x2, x3, x4⟩, ⟨y0, y1, y2, y3, y4⟩, ⟨z0, z1, z2, z3, z4⟩, ⟨t0, t1, t2, t3, t4⟩⟩ := c
  kernel_rfl
end Go.Proofs.YtedhfimjcpbcpaaDoor.Ed
