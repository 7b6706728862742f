/-
  A walk of the law FieldBack, in one of eight cases: for any three tame elements it returns true and changes no memory that was there, where the package's variables are as the program lays them. Conditions: as each theorem says.
-/
import Derived.Test.YtnebpleplogfeaaDoorFBkMath
namespace Go.Proofs.YtnebpleplogfeaaDoor
open Go.RowKit
set_option linter.unusedVariables false
set_option linter.unusedSimpArgs false

attribute [local go_sem] ext_cell ext_frozen
set_option maxRecDepth 100000 in
set_option maxHeartbeats 16000000 in
theorem fbk_nys (x y z : L5) (tx : x.Tm) (ty : y.Tm) (tz : z.Tm) (hz0 : ¬ x.nn = 0) (hok : codeOk x.nn y.nn = true) (hsd : codeN (x.nn * x.nn % P25) 1 = x.nn) (w : World) (hg : Gl w) : Calls Tryd.prog 7 #[.agg #[.int .u64 x.l0, .int .u64 x.l1, .int .u64 x.l2, .int .u64 x.l3, .int .u64 x.l4], .agg #[.int .u64 y.l0, .int .u64 y.l1, .int .u64 y.l2, .int .u64 y.l3, .int .u64 y.l4], .agg #[.int .u64 z.l0, .int .u64 z.l1, .int .u64 z.l2, .int .u64 z.l3, .int .u64 z.l4]] w fun e w' => e = .returned (.bool true) ∧ Below w.heap.size w w' := by
  have HG : Hid (Gl w) := hg
  have kw : Hid (∀ W, Gl W → Calls Tryd.prog 8 #[] W fun e w' => e = .returned (.bool true) ∧ Below W.heap.size W w') := fun W h => awake4_any W h
  have kt' : ∀ W g, Els W g 3 (pickL x y z) → Calls Tryd.prog 9 #[.slice (some ⟨g, 0, none⟩) 3 3] W fun e w' => e = .returned (.bool true) ∧ Below W.heap.size W w' := by
    intro W g h
    refine tame_any (pickL x y z) 3 g (by omega) (fun i hi => ?_) W h true ⟨fun h i hi => ?_, fun h => rfl⟩
    · rcases (show i = 0 ∨ i = 1 ∨ i = 2 by omega) with rfl | rfl | rfl
      · exact tx.wds
      · exact ty.wds
      · exact tz.wds
    · rcases (show i = 0 ∨ i = 1 ∨ i = 2 by omega) with rfl | rfl | rfl
      · exact tx
      · exact ty
      · exact tz
  have HE : Hid (∀ W : World, Els (W.alloc (.cells #[.int .u64 x.l0, .int .u64 x.l1, .int .u64 x.l2, .int .u64 x.l3, .int .u64 x.l4, .int .u64 y.l0, .int .u64 y.l1, .int .u64 y.l2, .int .u64 y.l3, .int .u64 y.l4, .int .u64 z.l0, .int .u64 z.l1, .int .u64 z.l2, .int .u64 z.l3, .int .u64 z.l4] 24)) W.heap.size 3 (pickL x y z)) := fun W => els_three W x y z
  have gl := hg.lt
  have tt1 : L5.Tm ⟨1, 0, 0, 0, 0⟩ := tm_small 1 (by omega)
  have nn1 : L5.nn ⟨1, 0, 0, 0, 0⟩ = 1 := nn_small 1 (by decide +kernel)
  have nn0 : L5.nn ⟨0, 0, 0, 0, 0⟩ = 0 := nn_small 0 (by decide +kernel)
  have kone := fun w => small_fe 1 (by omega) w
  obtain ⟨a, ha, ea, ka⟩ := add_fe y z ty tz
  obtain ⟨b, hb, eb, kb⟩ := mul_fe x a tx ha
  obtain ⟨c, hc, ec, kc⟩ := mul_fe x y tx ty
  obtain ⟨d, hd, ed, kd⟩ := mul_fe x z tx tz
  obtain ⟨f, hf, ef, kf⟩ := add_fe c d hc hd
  obtain ⟨g, hg', eg, kg⟩ := mul_fe c z hc tz
  obtain ⟨h, hh, eh, kh⟩ := mul_fe y z ty tz
  obtain ⟨i, hi, ei, ki⟩ := mul_fe x h tx hh
  obtain ⟨j, hj, ej, kj⟩ := add_fe x y tx ty
  obtain ⟨k, hk, ek, kk⟩ := sub_fe j y hj ty
  obtain ⟨l, hl, el, kl⟩ := inv_fe x tx
  obtain ⟨m, hm, em, km⟩ := mul_fe x l tx hl
  obtain ⟨n, hn, en, kn⟩ := mul_fe x x tx tx
  obtain ⟨p, hp, ep, kp⟩ := root_fe n ⟨1, 0, 0, 0, 0⟩ hn tt1
  obtain ⟨q, hq, eq, kq⟩ := neg_fe x tx
  obtain ⟨r, hr, er, kr⟩ := root_fe x y tx ty
  obtain ⟨s, hs, es, ks⟩ := mul_fe r r hr.tm hr.tm
  obtain ⟨t, ht, et, kt⟩ := mul_fe s y hs ty
  have vva := nn_add y z a ea.out
  have vvb := nn_mul x a b eb.out
  have vvc := nn_mul x y c ec.out
  have vvd := nn_mul x z d ed.out
  have vvf := nn_add c d f ef.out
  have vvg := nn_mul c z g eg.out
  have vvh := nn_mul y z h eh.out
  have vvi := nn_mul x h i ei.out
  have vvj := nn_add x y j ej.out
  have vvk := nn_sub j y k ek.out
  have vvm := nn_mul x l m em.out
  have vvl : l.nn = x.nn ^ (P25 - 2) % P25 := by
    refine L5.nn_of ?_
    rw [el.out, Int.natCast_pow]
    exact pow_congZ x.nn_mod _
  have vvn := nn_mul x x n en.out
  have vvq := nn_neg x q eq.out
  have vvs := nn_mul r r s es.out
  have vvt := nn_mul s y t et.out
  rw [vvn, nn1] at kp ep
  have cs := code_sq x.nn x.nn_lt
  rw [cs.1] at kp
  have vvp : p.nn = codeN (x.nn * x.nn % P25) 1 := nn_low ep cs.2.2.2
  have sm1 := fun w => same_yes b f hb hf (by rw [vvb, vva, vvf, vvc, vvd]; exact dist_nn _ _ _) w
  have sm2 := fun w => same_yes g i hg' hi (by rw [vvg, vvc, vvi, vvh]; exact assoc_nn _ _ _) w
  have sm3 := fun w => same_yes k x hk tx (by rw [vvk, vvj]; exact back_nn _ _ x.nn_lt y.nn_lt) w
  have pn := fun w => negative_fe p hp.tm false (by rw [decide_eq_false]; rw [← p.nn_eq, vvp]; have := cs.2.2.1; omega) w
  rw [hok] at kr
  have og : ∀ g W, Fil x.nn g 32 W → Calls Tryd.prog 31 #[.slice (some ⟨g, 0, none⟩) 32 32] W fun e w' => e = .returned (.tuple #[.agg #[.int .u64 ((ld x.nn).l0), .int .u64 ((ld x.nn).l1), .int .u64 ((ld x.nn).l2), .int .u64 ((ld x.nn).l3), .int .u64 ((ld x.nn).l4)], .bool true]) ∧ Below W.heap.size W w' := by
    intro g W hF
    have hv : vb (byteAt x.nn) 32 = x.nn := by
      rw [vb_byteAt, Nat.mod_eq_of_lt (Nat.lt_trans x.nn_lt (by decide +kernel))]
    have := of_yes (byteAt x.nn) (byteAt_rng x.nn) g 0 32 W hF.size (fun j hj => by rw [Nat.zero_add, hF.cell j hj, if_pos hj]) (by rw [hv]; exact x.nn_lt)
    rwa [hv] at this
  have tu : (ld x.nn).Tm := ld_tame _ (Nat.lt_trans x.nn_lt (by decide +kernel))
  have vvu : (ld x.nn).nn = x.nn := nn_low (ld_num _) x.nn_lt
  have sm8 := fun w => same_yes (ld x.nn) x tu tx vvu w
  have by' := fun w => bytes_fe x tx w
  have nx := fun w => negative_fe x tx (decide (x.nn % 2 = 1)) (by rw [← x.nn_eq]; exact decide_eq_decide.2 (by omega)) w
  have nq := fun w => negative_fe q hq (decide ((P25 - x.nn) % P25 % 2 = 1)) (by rw [← q.nn_eq, vvq]; exact decide_eq_decide.2 (by omega)) w
  rw [neg_par x.nn x.nn_lt] at nq
  have sm4 := fun w => same_no x ⟨0, 0, 0, 0, 0⟩ tx tame_zero (by rw [nn0]; exact hz0) w
  have sm5 := fun w => same_yes m ⟨1, 0, 0, 0, 0⟩ hm tt1 (by rw [vvm, vvl, nn1]; exact inv_nn _ x.nn_lt hz0) w
  rw [decide_eq_false hz0] at nq
  have sm6 := fun w => same_yes p x hp.tm tx (by rw [vvp]; exact hsd) w
  have cb := code_back x.nn y.nn x.nn_lt hok
  have sm9 := fun w => same_yes t x ht tx (by rw [vvt, vvs, nn_low er cb.2]; exact cb.1) w
  generalize ld x.nn = u at *
  generalize decide (x.nn % 2 = 1) = bb at *
  generalize x.nn = X at *
  clear hg tx ty tz tt1 nn1 nn0 ha ea vva hb eb vvb hc ec vvc hd ed vvd hf ef vvf hg' eg vvg hh eh vvh hi ei vvi hj ej vvj hk ek vvk hl el vvl hm em vvm hn en vvn hp ep vvp hq eq vvq hr er hs es vvs ht et vvt cs hz0 hok hsd tu vvu cb
  obtain ⟨x0, x1, x2, x3, x4⟩ := x
  obtain ⟨y0, y1, y2, y3, y4⟩ := y
  obtain ⟨z0, z1, z2, z3, z4⟩ := z
  obtain ⟨a0, a1, a2, a3, a4⟩ := a
  obtain ⟨b0, b1, b2, b3, b4⟩ := b
  obtain ⟨c0, c1, c2, c3, c4⟩ := c
  obtain ⟨d0, d1, d2, d3, d4⟩ := d
  obtain ⟨f0, f1, f2, f3, f4⟩ := f
  obtain ⟨g0, g1, g2, g3, g4⟩ := g
  obtain ⟨h0, h1, h2, h3, h4⟩ := h
  obtain ⟨i0, i1, i2, i3, i4⟩ := i
  obtain ⟨j0, j1, j2, j3, j4⟩ := j
  obtain ⟨k0, k1, k2, k3, k4⟩ := k
  obtain ⟨l0, l1, l2, l3, l4⟩ := l
  obtain ⟨m0, m1, m2, m3, m4⟩ := m
  obtain ⟨n0, n1, n2, n3, n4⟩ := n
  obtain ⟨p0, p1, p2, p3, p4⟩ := p
  obtain ⟨q0, q1, q2, q3, q4⟩ := q
  obtain ⟨r0, r1, r2, r3, r4⟩ := r
  obtain ⟨s0, s1, s2, s3, s4⟩ := s
  obtain ⟨t0, t1, t2, t3, t4⟩ := t
  obtain ⟨u0, u1, u2, u3, u4⟩ := u
  dsimp only at kt' HE kone ka kb kc kd kf kg kh ki kj kk kl km kn kp kq kr ks kt sm1 sm2 sm3 pn og sm8 by' nx nq sm4 sm6 sm5 sm9 ⊢
  have K1 : Hid (∀ w : World, Calls Tryd.prog 19 #[.int .u32 1] w fun e w' => e = .returned (.agg #[.int .u64 1, .int .u64 0, .int .u64 0, .int .u64 0, .int .u64 0]) ∧ Below w.heap.size w w') := kone
  have Ka : Hid (∀ w : World, Calls Tryd.prog 12 #[.agg #[.int .u64 y0, .int .u64 y1, .int .u64 y2, .int .u64 y3, .int .u64 y4], .agg #[.int .u64 z0, .int .u64 z1, .int .u64 z2, .int .u64 z3, .int .u64 z4]] w fun e w' => e = .returned (.agg #[.int .u64 a0, .int .u64 a1, .int .u64 a2, .int .u64 a3, .int .u64 a4]) ∧ Below w.heap.size w w') := ka
  have Kb : Hid (∀ w : World, Calls Tryd.prog 17 #[.agg #[.int .u64 x0, .int .u64 x1, .int .u64 x2, .int .u64 x3, .int .u64 x4], .agg #[.int .u64 a0, .int .u64 a1, .int .u64 a2, .int .u64 a3, .int .u64 a4]] w fun e w' => e = .returned (.agg #[.int .u64 b0, .int .u64 b1, .int .u64 b2, .int .u64 b3, .int .u64 b4]) ∧ Below w.heap.size w w') := kb
  have Kc : Hid (∀ w : World, Calls Tryd.prog 17 #[.agg #[.int .u64 x0, .int .u64 x1, .int .u64 x2, .int .u64 x3, .int .u64 x4], .agg #[.int .u64 y0, .int .u64 y1, .int .u64 y2, .int .u64 y3, .int .u64 y4]] w fun e w' => e = .returned (.agg #[.int .u64 c0, .int .u64 c1, .int .u64 c2, .int .u64 c3, .int .u64 c4]) ∧ Below w.heap.size w w') := kc
  have Kd : Hid (∀ w : World, Calls Tryd.prog 17 #[.agg #[.int .u64 x0, .int .u64 x1, .int .u64 x2, .int .u64 x3, .int .u64 x4], .agg #[.int .u64 z0, .int .u64 z1, .int .u64 z2, .int .u64 z3, .int .u64 z4]] w fun e w' => e = .returned (.agg #[.int .u64 d0, .int .u64 d1, .int .u64 d2, .int .u64 d3, .int .u64 d4]) ∧ Below w.heap.size w w') := kd
  have Kf : Hid (∀ w : World, Calls Tryd.prog 12 #[.agg #[.int .u64 c0, .int .u64 c1, .int .u64 c2, .int .u64 c3, .int .u64 c4], .agg #[.int .u64 d0, .int .u64 d1, .int .u64 d2, .int .u64 d3, .int .u64 d4]] w fun e w' => e = .returned (.agg #[.int .u64 f0, .int .u64 f1, .int .u64 f2, .int .u64 f3, .int .u64 f4]) ∧ Below w.heap.size w w') := kf
  have Kg : Hid (∀ w : World, Calls Tryd.prog 17 #[.agg #[.int .u64 c0, .int .u64 c1, .int .u64 c2, .int .u64 c3, .int .u64 c4], .agg #[.int .u64 z0, .int .u64 z1, .int .u64 z2, .int .u64 z3, .int .u64 z4]] w fun e w' => e = .returned (.agg #[.int .u64 g0, .int .u64 g1, .int .u64 g2, .int .u64 g3, .int .u64 g4]) ∧ Below w.heap.size w w') := kg
  have Kh : Hid (∀ w : World, Calls Tryd.prog 17 #[.agg #[.int .u64 y0, .int .u64 y1, .int .u64 y2, .int .u64 y3, .int .u64 y4], .agg #[.int .u64 z0, .int .u64 z1, .int .u64 z2, .int .u64 z3, .int .u64 z4]] w fun e w' => e = .returned (.agg #[.int .u64 h0, .int .u64 h1, .int .u64 h2, .int .u64 h3, .int .u64 h4]) ∧ Below w.heap.size w w') := kh
  have Ki : Hid (∀ w : World, Calls Tryd.prog 17 #[.agg #[.int .u64 x0, .int .u64 x1, .int .u64 x2, .int .u64 x3, .int .u64 x4], .agg #[.int .u64 h0, .int .u64 h1, .int .u64 h2, .int .u64 h3, .int .u64 h4]] w fun e w' => e = .returned (.agg #[.int .u64 i0, .int .u64 i1, .int .u64 i2, .int .u64 i3, .int .u64 i4]) ∧ Below w.heap.size w w') := ki
  have Kj : Hid (∀ w : World, Calls Tryd.prog 12 #[.agg #[.int .u64 x0, .int .u64 x1, .int .u64 x2, .int .u64 x3, .int .u64 x4], .agg #[.int .u64 y0, .int .u64 y1, .int .u64 y2, .int .u64 y3, .int .u64 y4]] w fun e w' => e = .returned (.agg #[.int .u64 j0, .int .u64 j1, .int .u64 j2, .int .u64 j3, .int .u64 j4]) ∧ Below w.heap.size w w') := kj
  have Kk : Hid (∀ w : World, Gl w → Calls Tryd.prog 14 #[.agg #[.int .u64 j0, .int .u64 j1, .int .u64 j2, .int .u64 j3, .int .u64 j4], .agg #[.int .u64 y0, .int .u64 y1, .int .u64 y2, .int .u64 y3, .int .u64 y4]] w fun e w' => e = .returned (.agg #[.int .u64 k0, .int .u64 k1, .int .u64 k2, .int .u64 k3, .int .u64 k4]) ∧ Below w.heap.size w w') := kk
  have Kl : Hid (∀ w : World, Calls Tryd.prog 22 #[.agg #[.int .u64 x0, .int .u64 x1, .int .u64 x2, .int .u64 x3, .int .u64 x4]] w fun e w' => e = .returned (.agg #[.int .u64 l0, .int .u64 l1, .int .u64 l2, .int .u64 l3, .int .u64 l4]) ∧ Below w.heap.size w w') := kl
  have Km : Hid (∀ w : World, Calls Tryd.prog 17 #[.agg #[.int .u64 x0, .int .u64 x1, .int .u64 x2, .int .u64 x3, .int .u64 x4], .agg #[.int .u64 l0, .int .u64 l1, .int .u64 l2, .int .u64 l3, .int .u64 l4]] w fun e w' => e = .returned (.agg #[.int .u64 m0, .int .u64 m1, .int .u64 m2, .int .u64 m3, .int .u64 m4]) ∧ Below w.heap.size w w') := km
  have Kn : Hid (∀ w : World, Calls Tryd.prog 17 #[.agg #[.int .u64 x0, .int .u64 x1, .int .u64 x2, .int .u64 x3, .int .u64 x4], .agg #[.int .u64 x0, .int .u64 x1, .int .u64 x2, .int .u64 x3, .int .u64 x4]] w fun e w' => e = .returned (.agg #[.int .u64 n0, .int .u64 n1, .int .u64 n2, .int .u64 n3, .int .u64 n4]) ∧ Below w.heap.size w w') := kn
  have Kp : Hid (∀ w : World, Gl w → Calls Tryd.prog 24 #[.agg #[.int .u64 n0, .int .u64 n1, .int .u64 n2, .int .u64 n3, .int .u64 n4], .agg #[.int .u64 1, .int .u64 0, .int .u64 0, .int .u64 0, .int .u64 0]] w fun e w' => e = .returned (.tuple #[.agg #[.int .u64 p0, .int .u64 p1, .int .u64 p2, .int .u64 p3, .int .u64 p4], .bool true]) ∧ Below w.heap.size w w') := kp
  have Kq : Hid (∀ w : World, Gl w → Calls Tryd.prog 16 #[.agg #[.int .u64 x0, .int .u64 x1, .int .u64 x2, .int .u64 x3, .int .u64 x4]] w fun e w' => e = .returned (.agg #[.int .u64 q0, .int .u64 q1, .int .u64 q2, .int .u64 q3, .int .u64 q4]) ∧ Below w.heap.size w w') := kq
  have Kr : Hid (∀ w : World, Gl w → Calls Tryd.prog 24 #[.agg #[.int .u64 x0, .int .u64 x1, .int .u64 x2, .int .u64 x3, .int .u64 x4], .agg #[.int .u64 y0, .int .u64 y1, .int .u64 y2, .int .u64 y3, .int .u64 y4]] w fun e w' => e = .returned (.tuple #[.agg #[.int .u64 r0, .int .u64 r1, .int .u64 r2, .int .u64 r3, .int .u64 r4], .bool true]) ∧ Below w.heap.size w w') := kr
  have Ks : Hid (∀ w : World, Calls Tryd.prog 17 #[.agg #[.int .u64 r0, .int .u64 r1, .int .u64 r2, .int .u64 r3, .int .u64 r4], .agg #[.int .u64 r0, .int .u64 r1, .int .u64 r2, .int .u64 r3, .int .u64 r4]] w fun e w' => e = .returned (.agg #[.int .u64 s0, .int .u64 s1, .int .u64 s2, .int .u64 s3, .int .u64 s4]) ∧ Below w.heap.size w w') := ks
  have Kt' : Hid (∀ w : World, Calls Tryd.prog 17 #[.agg #[.int .u64 s0, .int .u64 s1, .int .u64 s2, .int .u64 s3, .int .u64 s4], .agg #[.int .u64 y0, .int .u64 y1, .int .u64 y2, .int .u64 y3, .int .u64 y4]] w fun e w' => e = .returned (.agg #[.int .u64 t0, .int .u64 t1, .int .u64 t2, .int .u64 t3, .int .u64 t4]) ∧ Below w.heap.size w w') := kt
  have S1 : Hid (∀ w : World, Calls Tryd.prog 28 #[.agg #[.int .u64 b0, .int .u64 b1, .int .u64 b2, .int .u64 b3, .int .u64 b4], .agg #[.int .u64 f0, .int .u64 f1, .int .u64 f2, .int .u64 f3, .int .u64 f4]] w fun e w' => e = .returned (.bool true) ∧ Below w.heap.size w w') := sm1
  have S2 : Hid (∀ w : World, Calls Tryd.prog 28 #[.agg #[.int .u64 g0, .int .u64 g1, .int .u64 g2, .int .u64 g3, .int .u64 g4], .agg #[.int .u64 i0, .int .u64 i1, .int .u64 i2, .int .u64 i3, .int .u64 i4]] w fun e w' => e = .returned (.bool true) ∧ Below w.heap.size w w') := sm2
  have S3 : Hid (∀ w : World, Calls Tryd.prog 28 #[.agg #[.int .u64 k0, .int .u64 k1, .int .u64 k2, .int .u64 k3, .int .u64 k4], .agg #[.int .u64 x0, .int .u64 x1, .int .u64 x2, .int .u64 x3, .int .u64 x4]] w fun e w' => e = .returned (.bool true) ∧ Below w.heap.size w w') := sm3
  have S4 : Hid (∀ w : World, Calls Tryd.prog 28 #[.agg #[.int .u64 x0, .int .u64 x1, .int .u64 x2, .int .u64 x3, .int .u64 x4], .agg #[.int .u64 0, .int .u64 0, .int .u64 0, .int .u64 0, .int .u64 0]] w fun e w' => e = .returned (.bool false) ∧ Below w.heap.size w w') := sm4
  have S5 : Hid (∀ w : World, Calls Tryd.prog 28 #[.agg #[.int .u64 m0, .int .u64 m1, .int .u64 m2, .int .u64 m3, .int .u64 m4], .agg #[.int .u64 1, .int .u64 0, .int .u64 0, .int .u64 0, .int .u64 0]] w fun e w' => e = .returned (.bool true) ∧ Below w.heap.size w w') := sm5
  have S6 : Hid (∀ w : World, Calls Tryd.prog 28 #[.agg #[.int .u64 p0, .int .u64 p1, .int .u64 p2, .int .u64 p3, .int .u64 p4], .agg #[.int .u64 x0, .int .u64 x1, .int .u64 x2, .int .u64 x3, .int .u64 x4]] w fun e w' => e = .returned (.bool true) ∧ Below w.heap.size w w') := sm6
  have S8 : Hid (∀ w : World, Calls Tryd.prog 28 #[.agg #[.int .u64 u0, .int .u64 u1, .int .u64 u2, .int .u64 u3, .int .u64 u4], .agg #[.int .u64 x0, .int .u64 x1, .int .u64 x2, .int .u64 x3, .int .u64 x4]] w fun e w' => e = .returned (.bool true) ∧ Below w.heap.size w w') := sm8
  have S9 : Hid (∀ w : World, Calls Tryd.prog 28 #[.agg #[.int .u64 t0, .int .u64 t1, .int .u64 t2, .int .u64 t3, .int .u64 t4], .agg #[.int .u64 x0, .int .u64 x1, .int .u64 x2, .int .u64 x3, .int .u64 x4]] w fun e w' => e = .returned (.bool true) ∧ Below w.heap.size w w') := sm9
  have PN : Hid (∀ w : World, Calls Tryd.prog 26 #[.agg #[.int .u64 p0, .int .u64 p1, .int .u64 p2, .int .u64 p3, .int .u64 p4]] w fun e w' => e = .returned (.bool false) ∧ Below w.heap.size w w') := pn
  have NX : Hid (∀ w : World, Calls Tryd.prog 26 #[.agg #[.int .u64 x0, .int .u64 x1, .int .u64 x2, .int .u64 x3, .int .u64 x4]] w fun e w' => e = .returned (.bool bb) ∧ Below w.heap.size w w') := nx
  have NQ : Hid (∀ w : World, Calls Tryd.prog 26 #[.agg #[.int .u64 q0, .int .u64 q1, .int .u64 q2, .int .u64 q3, .int .u64 q4]] w fun e w' => e = .returned (.bool (!bb && !false)) ∧ Below w.heap.size w w') := nq
  have BY : Hid (∀ w : World, Calls Tryd.prog 38 #[.agg #[.int .u64 x0, .int .u64 x1, .int .u64 x2, .int .u64 x3, .int .u64 x4]] w fun e w' => ∃ g, e = .returned (.slice (some ⟨g, 0, none⟩) 32 32) ∧ Fil X g 32 w' ∧ w.heap.size ≤ g ∧ Below w.heap.size w w') := by'
  have OG : Hid (∀ g W, Fil X g 32 W → Calls Tryd.prog 31 #[.slice (some ⟨g, 0, none⟩) 32 32] W fun e w' => e = .returned (.tuple #[.agg #[.int .u64 u0, .int .u64 u1, .int .u64 u2, .int .u64 u3, .int .u64 u4], .bool true]) ∧ Below W.heap.size W w') := og
  have Kt : Hid (∀ W g, Els W g 3 (pickL ⟨x0, x1, x2, x3, x4⟩ ⟨y0, y1, y2, y3, y4⟩ ⟨z0, z1, z2, z3, z4⟩) → Calls Tryd.prog 9 #[.slice (some ⟨g, 0, none⟩) 3 3] W fun e w' => e = .returned (.bool true) ∧ Below W.heap.size W w') := kt'
  clear kt' kone ka kb kc kd kf kg kh ki kj kk kl km kn kp kq kr ks kt sm1 sm2 sm3 pn og sm8 by' nx nq sm4 sm6 sm5 sm9
  have hbb : bb = true ∨ bb = false := by cases bb <;> simp
  go_enter Tryd.func7, Tryd.ntmps7
  go_wp2_with fail
  refine calls_at (fun V => Bl5 V w.heap.size x0 x1 x2 x3 x4 ∧ Bl5 V (w.heap.size + 1) y0 y1 y2 y3 y4 ∧ Bl5 V (w.heap.size + 1 + 1) z0 z1 z2 z3 z4 ∧ Gl V ∧ Below w.heap.size w V) ⟨?_, ?_, ?_, ?_, ?_⟩ ?_
  · (repeat (first | refine Bl5.drew ?_ | refine Bl5.drewN ?_ _ | (refine Bl5.new _ _ _ _ _ _ _ _ ?_; simp; done) | refine Bl5.alloc ?_ _))
  · (repeat (first | refine Bl5.drew ?_ | refine Bl5.drewN ?_ _ | (refine Bl5.new _ _ _ _ _ _ _ _ ?_; simp; done) | refine Bl5.alloc ?_ _))
  · (repeat (first | refine Bl5.drew ?_ | refine Bl5.drewN ?_ _ | (refine Bl5.new _ _ _ _ _ _ _ _ ?_; simp; done) | refine Bl5.alloc ?_ _))
  · refine Gl.grown HG.out ?_
    (repeat (first | exact Below.refl _ _ | refine Below.drew ?_ | refine below_drewN ?_ _ | refine Below.alloc ?_ (by simp <;> omega) _))
  · (repeat (first | exact Below.refl _ _ | refine Below.drew ?_ | refine below_drewN ?_ _ | refine Below.alloc ?_ (by simp <;> omega) _ | refine Below.setCell ?_ (by simp <;> omega) _))
  rintro v1 ⟨k0, k1, k2, k3, k4⟩
  have A_1 : Hid (Bl5 v1 w.heap.size x0 x1 x2 x3 x4) := k0
  have B_1 : Hid (Bl5 v1 (w.heap.size + 1) y0 y1 y2 y3 y4) := k1
  have C_1 : Hid (Bl5 v1 (w.heap.size + 1 + 1) z0 z1 z2 z3 z4) := k2
  have Z_1 : Hid (Gl v1) := k3
  have G_1 : Hid (Below w.heap.size w v1) := k4
  clear k0 k1 k2 k3 k4
  refine (kw.out _ Z_1.out).mono ?_
  rintro e v2 ⟨rfl, g⟩
  have A_2 : Hid (Bl5 v2 w.heap.size x0 x1 x2 x3 x4) := A_1.out.below g
  have B_2 : Hid (Bl5 v2 (w.heap.size + 1) y0 y1 y2 y3 y4) := B_1.out.below g
  have C_2 : Hid (Bl5 v2 (w.heap.size + 1 + 1) z0 z1 z2 z3 z4) := C_1.out.below g
  have Z_2 : Hid (Gl v2) := Z_1.out.grown g
  have G_2 : Hid (Below w.heap.size w v2) := G_1.out.trans (g.mono G_1.out.size)
  clear A_1 B_1 C_1 Z_1 G_1 g
  obtain ⟨cal, ca0, ca1, ca2, ca3, ca4, caf⟩ := A_2.out
  obtain ⟨cbl, cb0, cb1, cb2, cb3, cb4, cbf⟩ := B_2.out
  obtain ⟨ccl, cc0, cc1, cc2, cc3, cc4, ccf⟩ := C_2.out
  go_wp2_with fail
  clear cal ca0 ca1 ca2 ca3 ca4 caf cbl cb0 cb1 cb2 cb3 cb4 cbf ccl cc0 cc1 cc2 cc3 cc4 ccf
  refine calls_at (fun V => Els V v2.heap.size 3 (pickL ⟨x0, x1, x2, x3, x4⟩ ⟨y0, y1, y2, y3, y4⟩ ⟨z0, z1, z2, z3, z4⟩) ∧ Bl5 V w.heap.size x0 x1 x2 x3 x4 ∧ Bl5 V (w.heap.size + 1) y0 y1 y2 y3 y4 ∧ Bl5 V (w.heap.size + 1 + 1) z0 z1 z2 z3 z4 ∧ Gl V ∧ Below w.heap.size w V) ⟨HE.out v2, A_2.out.alloc _, B_2.out.alloc _, C_2.out.alloc _, Z_2.out.grown ((Below.refl _ _).alloc (Nat.le_refl _) _), G_2.out.alloc G_2.out.size _⟩ ?_
  rintro v3 ⟨hE, hA, hB, hC, hZ, hG⟩
  have A_3 : Hid (Bl5 v3 w.heap.size x0 x1 x2 x3 x4) := hA
  have B_3 : Hid (Bl5 v3 (w.heap.size + 1) y0 y1 y2 y3 y4) := hB
  have C_3 : Hid (Bl5 v3 (w.heap.size + 1 + 1) z0 z1 z2 z3 z4) := hC
  have Z_3 : Hid (Gl v3) := hZ
  have G_3 : Hid (Below w.heap.size w v3) := hG
  have hE' : Hid (Els v3 v2.heap.size 3 (pickL ⟨x0, x1, x2, x3, x4⟩ ⟨y0, y1, y2, y3, y4⟩ ⟨z0, z1, z2, z3, z4⟩)) := hE
  clear hE hA hB hC hZ hG A_2 B_2 C_2 Z_2 G_2
  refine (Kt.out _ _ hE'.out).mono ?_
  rintro e v4 ⟨rfl, g⟩
  have A_4 : Hid (Bl5 v4 w.heap.size x0 x1 x2 x3 x4) := A_3.out.below g
  have B_4 : Hid (Bl5 v4 (w.heap.size + 1) y0 y1 y2 y3 y4) := B_3.out.below g
  have C_4 : Hid (Bl5 v4 (w.heap.size + 1 + 1) z0 z1 z2 z3 z4) := C_3.out.below g
  have Z_4 : Hid (Gl v4) := Z_3.out.grown g
  have G_4 : Hid (Below w.heap.size w v4) := G_3.out.trans (g.mono G_3.out.size)
  clear A_3 B_3 C_3 Z_3 G_3 g
  clear hE'
  go_wp2_with fail
  refine (K1.out _).mono ?_
  rintro e v5 ⟨rfl, g⟩
  have A_5 : Hid (Bl5 v5 w.heap.size x0 x1 x2 x3 x4) := A_4.out.below g
  have B_5 : Hid (Bl5 v5 (w.heap.size + 1) y0 y1 y2 y3 y4) := B_4.out.below g
  have C_5 : Hid (Bl5 v5 (w.heap.size + 1 + 1) z0 z1 z2 z3 z4) := C_4.out.below g
  have Z_5 : Hid (Gl v5) := Z_4.out.grown g
  have G_5 : Hid (Below w.heap.size w v5) := G_4.out.trans (g.mono G_4.out.size)
  clear A_4 B_4 C_4 Z_4 G_4 g
  go_wp2_with fail
  have szE : w.heap.size ≤ v5.heap.size := G_5.out.size
  have nbEA : ¬ (v5.heap.size = w.heap.size) := by have := A_5.out.lt; omega
  have nbEB : ¬ (v5.heap.size = (w.heap.size + 1)) := by have := B_5.out.lt; omega
  have nbEC : ¬ (v5.heap.size = (w.heap.size + 1 + 1)) := by have := C_5.out.lt; omega
  refine wp_cut (fun V => Bl5 V w.heap.size x0 x1 x2 x3 x4 ∧ Bl5 V (w.heap.size + 1) y0 y1 y2 y3 y4 ∧ Bl5 V (w.heap.size + 1 + 1) z0 z1 z2 z3 z4 ∧ Gl V ∧ Bl5 V v5.heap.size 1 0 0 0 0 ∧ Below w.heap.size w V) ⟨A_5.out.alloc _, B_5.out.alloc _, C_5.out.alloc _, Z_5.out.grown ((Below.refl _ _).alloc (Nat.le_refl _) _), Bl5.new v5 _ _ _ _ _ _ _ rfl, G_5.out.alloc G_5.out.size _⟩ ?_
  rintro v6 ⟨k0, k1, k2, k3, k4, k5⟩
  have A_6 : Hid (Bl5 v6 w.heap.size x0 x1 x2 x3 x4) := k0
  have B_6 : Hid (Bl5 v6 (w.heap.size + 1) y0 y1 y2 y3 y4) := k1
  have C_6 : Hid (Bl5 v6 (w.heap.size + 1 + 1) z0 z1 z2 z3 z4) := k2
  have Z_6 : Hid (Gl v6) := k3
  have E_6 : Hid (Bl5 v6 v5.heap.size 1 0 0 0 0) := k4
  have G_6 : Hid (Below w.heap.size w v6) := k5
  clear k0 k1 k2 k3 k4 k5 A_5 B_5 C_5 Z_5 G_5
  obtain ⟨cal, ca0, ca1, ca2, ca3, ca4, caf⟩ := A_6.out
  obtain ⟨cbl, cb0, cb1, cb2, cb3, cb4, cbf⟩ := B_6.out
  obtain ⟨ccl, cc0, cc1, cc2, cc3, cc4, ccf⟩ := C_6.out
  refine wp_region_ext (by kernel_rfl) (by kernel_rfl) ?_
  repeat (go_big_quiet_step ((first
    | with_reducible exact calls_ext (Ka.out _)
    | with_reducible exact calls_ext (Kb.out _)
    | with_reducible exact calls_ext (Kc.out _)
    | with_reducible exact calls_ext (Kd.out _)
    | with_reducible exact calls_ext (Kf.out _)
    | with_reducible exact calls_ext (S1.out _)
    | with_reducible exact calls_ext (Kg.out _)
    | with_reducible exact calls_ext (Kh.out _)
    | with_reducible exact calls_ext (Ki.out _)
    | with_reducible exact calls_ext (S2.out _)
    | with_reducible exact calls_ext (Kj.out _)
    | with_reducible exact calls_ext (Kk.out _ (Z_6.out.grown (ext_below _ _)))
    | with_reducible exact calls_ext (S3.out _)
    | fail)))
  refine wpQuiet_nil ?_
  intro W1 hw
  obtain ⟨m, rfl⟩ := hw
  have g := ext_below v6 m
  obtain ⟨v7, hW⟩ : ∃ V, ext v6 m = V := ⟨_, rfl⟩
  rw [hW] at g ⊢
  clear hW
  clear cal ca0 ca1 ca2 ca3 ca4 caf cbl cb0 cb1 cb2 cb3 cb4 cbf ccl cc0 cc1 cc2 cc3 cc4 ccf
  have A_7 : Hid (Bl5 v7 w.heap.size x0 x1 x2 x3 x4) := A_6.out.below g
  have B_7 : Hid (Bl5 v7 (w.heap.size + 1) y0 y1 y2 y3 y4) := B_6.out.below g
  have C_7 : Hid (Bl5 v7 (w.heap.size + 1 + 1) z0 z1 z2 z3 z4) := C_6.out.below g
  have E_7 : Hid (Bl5 v7 v5.heap.size 1 0 0 0 0) := E_6.out.below g
  have Z_7 : Hid (Gl v7) := Z_6.out.grown g
  have G_7 : Hid (Below w.heap.size w v7) := G_6.out.trans (g.mono G_6.out.size)
  clear A_6 B_6 C_6 E_6 Z_6 G_6 g
  obtain ⟨cal, ca0, ca1, ca2, ca3, ca4, caf⟩ := A_7.out
  obtain ⟨cel, ce0, ce1, ce2, ce3, ce4, cef⟩ := E_7.out
  go_wp2_with fail
  refine wp_region_ext (by kernel_rfl) (by kernel_rfl) ?_
  repeat (go_big_quiet_step ((first
    | with_reducible exact calls_ext (S4.out _)
    | with_reducible exact calls_ext (Kl.out _)
    | with_reducible exact calls_ext (Km.out _)
    | with_reducible exact calls_ext (S5.out _)
    | fail)))
  refine wpQuiet_nil ?_
  intro W1 hw
  obtain ⟨m, rfl⟩ := hw
  have g := ext_below v7 m
  obtain ⟨v8, hW⟩ : ∃ V, ext v7 m = V := ⟨_, rfl⟩
  rw [hW] at g ⊢
  clear hW
  clear cal ca0 ca1 ca2 ca3 ca4 caf cel ce0 ce1 ce2 ce3 ce4 cef
  have A_8 : Hid (Bl5 v8 w.heap.size x0 x1 x2 x3 x4) := A_7.out.below g
  have B_8 : Hid (Bl5 v8 (w.heap.size + 1) y0 y1 y2 y3 y4) := B_7.out.below g
  have C_8 : Hid (Bl5 v8 (w.heap.size + 1 + 1) z0 z1 z2 z3 z4) := C_7.out.below g
  have E_8 : Hid (Bl5 v8 v5.heap.size 1 0 0 0 0) := E_7.out.below g
  have Z_8 : Hid (Gl v8) := Z_7.out.grown g
  have G_8 : Hid (Below w.heap.size w v8) := G_7.out.trans (g.mono G_7.out.size)
  clear A_7 B_7 C_7 E_7 Z_7 G_7 g
  obtain ⟨cal, ca0, ca1, ca2, ca3, ca4, caf⟩ := A_8.out
  go_wp2_with fail
  refine (Kn.out _).mono ?_
  rintro e v9 ⟨rfl, g⟩
  clear cal ca0 ca1 ca2 ca3 ca4 caf
  have A_9 : Hid (Bl5 v9 w.heap.size x0 x1 x2 x3 x4) := A_8.out.below g
  have B_9 : Hid (Bl5 v9 (w.heap.size + 1) y0 y1 y2 y3 y4) := B_8.out.below g
  have C_9 : Hid (Bl5 v9 (w.heap.size + 1 + 1) z0 z1 z2 z3 z4) := C_8.out.below g
  have E_9 : Hid (Bl5 v9 v5.heap.size 1 0 0 0 0) := E_8.out.below g
  have Z_9 : Hid (Gl v9) := Z_8.out.grown g
  have G_9 : Hid (Below w.heap.size w v9) := G_8.out.trans (g.mono G_8.out.size)
  clear A_8 B_8 C_8 E_8 Z_8 G_8 g
  obtain ⟨cel, ce0, ce1, ce2, ce3, ce4, cef⟩ := E_9.out
  go_wp2_with fail
  have szD : w.heap.size ≤ v9.heap.size := G_9.out.size
  have nbDA : ¬ (v9.heap.size = w.heap.size) := by have := A_9.out.lt; omega
  have nbDB : ¬ (v9.heap.size = (w.heap.size + 1)) := by have := B_9.out.lt; omega
  have nbDC : ¬ (v9.heap.size = (w.heap.size + 1 + 1)) := by have := C_9.out.lt; omega
  have nbDE : ¬ (v9.heap.size = v5.heap.size) := by have := E_9.out.lt; omega
  refine calls_at (fun V => Bl5 V w.heap.size x0 x1 x2 x3 x4 ∧ Bl5 V (w.heap.size + 1) y0 y1 y2 y3 y4 ∧ Bl5 V (w.heap.size + 1 + 1) z0 z1 z2 z3 z4 ∧ Bl5 V v5.heap.size 1 0 0 0 0 ∧ Gl V ∧ Bl5 V v9.heap.size n0 n1 n2 n3 n4 ∧ Below w.heap.size w V) ⟨A_9.out.alloc _, B_9.out.alloc _, C_9.out.alloc _, E_9.out.alloc _, Z_9.out.grown ((Below.refl _ _).alloc (Nat.le_refl _) _), Bl5.new v9 _ _ _ _ _ _ _ rfl, G_9.out.alloc G_9.out.size _⟩ ?_
  rintro v10 ⟨k0, k1, k2, k3, k4, k5, k6⟩
  have A_10 : Hid (Bl5 v10 w.heap.size x0 x1 x2 x3 x4) := k0
  have B_10 : Hid (Bl5 v10 (w.heap.size + 1) y0 y1 y2 y3 y4) := k1
  have C_10 : Hid (Bl5 v10 (w.heap.size + 1 + 1) z0 z1 z2 z3 z4) := k2
  have E_10 : Hid (Bl5 v10 v5.heap.size 1 0 0 0 0) := k3
  have Z_10 : Hid (Gl v10) := k4
  have D_10 : Hid (Bl5 v10 v9.heap.size n0 n1 n2 n3 n4) := k5
  have G_10 : Hid (Below w.heap.size w v10) := k6
  clear k0 k1 k2 k3 k4 k5 k6 A_9 B_9 C_9 E_9 Z_9 G_9
  refine (Kp.out _ Z_10.out).mono ?_
  rintro e v11 ⟨rfl, g⟩
  clear cel ce0 ce1 ce2 ce3 ce4 cef
  have A_11 : Hid (Bl5 v11 w.heap.size x0 x1 x2 x3 x4) := A_10.out.below g
  have B_11 : Hid (Bl5 v11 (w.heap.size + 1) y0 y1 y2 y3 y4) := B_10.out.below g
  have C_11 : Hid (Bl5 v11 (w.heap.size + 1 + 1) z0 z1 z2 z3 z4) := C_10.out.below g
  have E_11 : Hid (Bl5 v11 v5.heap.size 1 0 0 0 0) := E_10.out.below g
  have D_11 : Hid (Bl5 v11 v9.heap.size n0 n1 n2 n3 n4) := D_10.out.below g
  have Z_11 : Hid (Gl v11) := Z_10.out.grown g
  have G_11 : Hid (Below w.heap.size w v11) := G_10.out.trans (g.mono G_10.out.size)
  clear A_10 B_10 C_10 E_10 D_10 Z_10 G_10 g
  go_wp2_with fail
  have szPp : w.heap.size ≤ v11.heap.size := G_11.out.size
  have nbPpA : ¬ (v11.heap.size = w.heap.size) := by have := A_11.out.lt; omega
  have nbPpB : ¬ (v11.heap.size = (w.heap.size + 1)) := by have := B_11.out.lt; omega
  have nbPpC : ¬ (v11.heap.size = (w.heap.size + 1 + 1)) := by have := C_11.out.lt; omega
  have nbPpE : ¬ (v11.heap.size = v5.heap.size) := by have := E_11.out.lt; omega
  have nbPpD : ¬ (v11.heap.size = v9.heap.size) := by have := D_11.out.lt; omega
  refine wp_cut (fun V => Bl5 V w.heap.size x0 x1 x2 x3 x4 ∧ Bl5 V (w.heap.size + 1) y0 y1 y2 y3 y4 ∧ Bl5 V (w.heap.size + 1 + 1) z0 z1 z2 z3 z4 ∧ Bl5 V v5.heap.size 1 0 0 0 0 ∧ Bl5 V v9.heap.size n0 n1 n2 n3 n4 ∧ Gl V ∧ Bl5 V v11.heap.size p0 p1 p2 p3 p4 ∧ Below w.heap.size w V) ⟨A_11.out.alloc _, B_11.out.alloc _, C_11.out.alloc _, E_11.out.alloc _, D_11.out.alloc _, Z_11.out.grown ((Below.refl _ _).alloc (Nat.le_refl _) _), Bl5.new v11 _ _ _ _ _ _ _ rfl, G_11.out.alloc G_11.out.size _⟩ ?_
  rintro v12 ⟨k0, k1, k2, k3, k4, k5, k6, k7⟩
  have A_12 : Hid (Bl5 v12 w.heap.size x0 x1 x2 x3 x4) := k0
  have B_12 : Hid (Bl5 v12 (w.heap.size + 1) y0 y1 y2 y3 y4) := k1
  have C_12 : Hid (Bl5 v12 (w.heap.size + 1 + 1) z0 z1 z2 z3 z4) := k2
  have E_12 : Hid (Bl5 v12 v5.heap.size 1 0 0 0 0) := k3
  have D_12 : Hid (Bl5 v12 v9.heap.size n0 n1 n2 n3 n4) := k4
  have Z_12 : Hid (Gl v12) := k5
  have Pp_12 : Hid (Bl5 v12 v11.heap.size p0 p1 p2 p3 p4) := k6
  have G_12 : Hid (Below w.heap.size w v12) := k7
  clear k0 k1 k2 k3 k4 k5 k6 k7 A_11 B_11 C_11 E_11 D_11 Z_11 G_11
  obtain ⟨cal, ca0, ca1, ca2, ca3, ca4, caf⟩ := A_12.out
  obtain ⟨cppl, cpp0, cpp1, cpp2, cpp3, cpp4, cppf⟩ := Pp_12.out
  refine wp_region_ext (by kernel_rfl) (by kernel_rfl) ?_
  repeat (go_big_quiet_step ((first
    | with_reducible exact calls_ext (PN.out _)
    | with_reducible exact calls_ext (S6.out _)
    | fail)))
  refine wpQuiet_nil ?_
  intro W1 hw
  obtain ⟨m, rfl⟩ := hw
  have g := ext_below v12 m
  obtain ⟨v13, hW⟩ : ∃ V, ext v12 m = V := ⟨_, rfl⟩
  rw [hW] at g ⊢
  clear hW
  clear cal ca0 ca1 ca2 ca3 ca4 caf cppl cpp0 cpp1 cpp2 cpp3 cpp4 cppf
  have A_13 : Hid (Bl5 v13 w.heap.size x0 x1 x2 x3 x4) := A_12.out.below g
  have B_13 : Hid (Bl5 v13 (w.heap.size + 1) y0 y1 y2 y3 y4) := B_12.out.below g
  have C_13 : Hid (Bl5 v13 (w.heap.size + 1 + 1) z0 z1 z2 z3 z4) := C_12.out.below g
  have E_13 : Hid (Bl5 v13 v5.heap.size 1 0 0 0 0) := E_12.out.below g
  have D_13 : Hid (Bl5 v13 v9.heap.size n0 n1 n2 n3 n4) := D_12.out.below g
  have Pp_13 : Hid (Bl5 v13 v11.heap.size p0 p1 p2 p3 p4) := Pp_12.out.below g
  have Z_13 : Hid (Gl v13) := Z_12.out.grown g
  have G_13 : Hid (Below w.heap.size w v13) := G_12.out.trans (g.mono G_12.out.size)
  clear A_12 B_12 C_12 E_12 D_12 Pp_12 Z_12 G_12 g
  obtain ⟨cal, ca0, ca1, ca2, ca3, ca4, caf⟩ := A_13.out
  obtain ⟨cbl, cb0, cb1, cb2, cb3, cb4, cbf⟩ := B_13.out
  go_wp2_with fail
  refine (Kr.out _ Z_13.out).mono ?_
  rintro e v14 ⟨rfl, g⟩
  clear cal ca0 ca1 ca2 ca3 ca4 caf cbl cb0 cb1 cb2 cb3 cb4 cbf
  have A_14 : Hid (Bl5 v14 w.heap.size x0 x1 x2 x3 x4) := A_13.out.below g
  have B_14 : Hid (Bl5 v14 (w.heap.size + 1) y0 y1 y2 y3 y4) := B_13.out.below g
  have C_14 : Hid (Bl5 v14 (w.heap.size + 1 + 1) z0 z1 z2 z3 z4) := C_13.out.below g
  have E_14 : Hid (Bl5 v14 v5.heap.size 1 0 0 0 0) := E_13.out.below g
  have D_14 : Hid (Bl5 v14 v9.heap.size n0 n1 n2 n3 n4) := D_13.out.below g
  have Pp_14 : Hid (Bl5 v14 v11.heap.size p0 p1 p2 p3 p4) := Pp_13.out.below g
  have Z_14 : Hid (Gl v14) := Z_13.out.grown g
  have G_14 : Hid (Below w.heap.size w v14) := G_13.out.trans (g.mono G_13.out.size)
  clear A_13 B_13 C_13 E_13 D_13 Pp_13 Z_13 G_13 g
  go_wp2_with fail
  have szRr : w.heap.size ≤ v14.heap.size := G_14.out.size
  have nbRrA : ¬ (v14.heap.size = w.heap.size) := by have := A_14.out.lt; omega
  have nbRrB : ¬ (v14.heap.size = (w.heap.size + 1)) := by have := B_14.out.lt; omega
  have nbRrC : ¬ (v14.heap.size = (w.heap.size + 1 + 1)) := by have := C_14.out.lt; omega
  have nbRrE : ¬ (v14.heap.size = v5.heap.size) := by have := E_14.out.lt; omega
  have nbRrD : ¬ (v14.heap.size = v9.heap.size) := by have := D_14.out.lt; omega
  have nbRrPp : ¬ (v14.heap.size = v11.heap.size) := by have := Pp_14.out.lt; omega
  refine wp_cut (fun V => Bl5 V w.heap.size x0 x1 x2 x3 x4 ∧ Bl5 V (w.heap.size + 1) y0 y1 y2 y3 y4 ∧ Bl5 V (w.heap.size + 1 + 1) z0 z1 z2 z3 z4 ∧ Bl5 V v5.heap.size 1 0 0 0 0 ∧ Bl5 V v9.heap.size n0 n1 n2 n3 n4 ∧ Bl5 V v11.heap.size p0 p1 p2 p3 p4 ∧ Gl V ∧ Bl5 V v14.heap.size r0 r1 r2 r3 r4 ∧ Below w.heap.size w V) ⟨A_14.out.alloc _, B_14.out.alloc _, C_14.out.alloc _, E_14.out.alloc _, D_14.out.alloc _, Pp_14.out.alloc _, Z_14.out.grown ((Below.refl _ _).alloc (Nat.le_refl _) _), Bl5.new v14 _ _ _ _ _ _ _ rfl, G_14.out.alloc G_14.out.size _⟩ ?_
  rintro v15 ⟨k0, k1, k2, k3, k4, k5, k6, k7, k8⟩
  have A_15 : Hid (Bl5 v15 w.heap.size x0 x1 x2 x3 x4) := k0
  have B_15 : Hid (Bl5 v15 (w.heap.size + 1) y0 y1 y2 y3 y4) := k1
  have C_15 : Hid (Bl5 v15 (w.heap.size + 1 + 1) z0 z1 z2 z3 z4) := k2
  have E_15 : Hid (Bl5 v15 v5.heap.size 1 0 0 0 0) := k3
  have D_15 : Hid (Bl5 v15 v9.heap.size n0 n1 n2 n3 n4) := k4
  have Pp_15 : Hid (Bl5 v15 v11.heap.size p0 p1 p2 p3 p4) := k5
  have Z_15 : Hid (Gl v15) := k6
  have Rr_15 : Hid (Bl5 v15 v14.heap.size r0 r1 r2 r3 r4) := k7
  have G_15 : Hid (Below w.heap.size w v15) := k8
  clear k0 k1 k2 k3 k4 k5 k6 k7 k8 A_14 B_14 C_14 E_14 D_14 Pp_14 Z_14 G_14
  obtain ⟨cal, ca0, ca1, ca2, ca3, ca4, caf⟩ := A_15.out
  obtain ⟨cbl, cb0, cb1, cb2, cb3, cb4, cbf⟩ := B_15.out
  obtain ⟨crrl, crr0, crr1, crr2, crr3, crr4, crrf⟩ := Rr_15.out
  refine wp_region_ext (by kernel_rfl) (by kernel_rfl) ?_
  repeat (go_big_quiet_step ((first
    | with_reducible exact calls_ext (Ks.out _)
    | with_reducible exact calls_ext (Kt'.out _)
    | with_reducible exact calls_ext (S9.out _)
    | fail)))
  refine wpQuiet_nil ?_
  intro W1 hw
  obtain ⟨m, rfl⟩ := hw
  have g := ext_below v15 m
  obtain ⟨v16, hW⟩ : ∃ V, ext v15 m = V := ⟨_, rfl⟩
  rw [hW] at g ⊢
  clear hW
  clear cal ca0 ca1 ca2 ca3 ca4 caf cbl cb0 cb1 cb2 cb3 cb4 cbf crrl crr0 crr1 crr2 crr3 crr4 crrf
  have A_16 : Hid (Bl5 v16 w.heap.size x0 x1 x2 x3 x4) := A_15.out.below g
  have B_16 : Hid (Bl5 v16 (w.heap.size + 1) y0 y1 y2 y3 y4) := B_15.out.below g
  have C_16 : Hid (Bl5 v16 (w.heap.size + 1 + 1) z0 z1 z2 z3 z4) := C_15.out.below g
  have E_16 : Hid (Bl5 v16 v5.heap.size 1 0 0 0 0) := E_15.out.below g
  have D_16 : Hid (Bl5 v16 v9.heap.size n0 n1 n2 n3 n4) := D_15.out.below g
  have Pp_16 : Hid (Bl5 v16 v11.heap.size p0 p1 p2 p3 p4) := Pp_15.out.below g
  have Rr_16 : Hid (Bl5 v16 v14.heap.size r0 r1 r2 r3 r4) := Rr_15.out.below g
  have Z_16 : Hid (Gl v16) := Z_15.out.grown g
  have G_16 : Hid (Below w.heap.size w v16) := G_15.out.trans (g.mono G_15.out.size)
  clear A_15 B_15 C_15 E_15 D_15 Pp_15 Rr_15 Z_15 G_15 g
  obtain ⟨cal, ca0, ca1, ca2, ca3, ca4, caf⟩ := A_16.out
  go_wp2_with fail
  refine (BY.out _).mono ?_
  rintro e v17 ⟨b, rfl, hf, hle, g⟩
  have Ff : Hid (Fil X b 32 v17) := hf
  clear cal ca0 ca1 ca2 ca3 ca4 caf
  clear hf hle
  have A_17 : Hid (Bl5 v17 w.heap.size x0 x1 x2 x3 x4) := A_16.out.below g
  have B_17 : Hid (Bl5 v17 (w.heap.size + 1) y0 y1 y2 y3 y4) := B_16.out.below g
  have C_17 : Hid (Bl5 v17 (w.heap.size + 1 + 1) z0 z1 z2 z3 z4) := C_16.out.below g
  have E_17 : Hid (Bl5 v17 v5.heap.size 1 0 0 0 0) := E_16.out.below g
  have D_17 : Hid (Bl5 v17 v9.heap.size n0 n1 n2 n3 n4) := D_16.out.below g
  have Pp_17 : Hid (Bl5 v17 v11.heap.size p0 p1 p2 p3 p4) := Pp_16.out.below g
  have Rr_17 : Hid (Bl5 v17 v14.heap.size r0 r1 r2 r3 r4) := Rr_16.out.below g
  have Z_17 : Hid (Gl v17) := Z_16.out.grown g
  have G_17 : Hid (Below w.heap.size w v17) := G_16.out.trans (g.mono G_16.out.size)
  clear A_16 B_16 C_16 E_16 D_16 Pp_16 Rr_16 Z_16 G_16 g
  go_wp2_with fail
  refine (OG.out _ _ Ff.out).mono ?_
  rintro e v18 ⟨rfl, g⟩
  have A_18 : Hid (Bl5 v18 w.heap.size x0 x1 x2 x3 x4) := A_17.out.below g
  have B_18 : Hid (Bl5 v18 (w.heap.size + 1) y0 y1 y2 y3 y4) := B_17.out.below g
  have C_18 : Hid (Bl5 v18 (w.heap.size + 1 + 1) z0 z1 z2 z3 z4) := C_17.out.below g
  have E_18 : Hid (Bl5 v18 v5.heap.size 1 0 0 0 0) := E_17.out.below g
  have D_18 : Hid (Bl5 v18 v9.heap.size n0 n1 n2 n3 n4) := D_17.out.below g
  have Pp_18 : Hid (Bl5 v18 v11.heap.size p0 p1 p2 p3 p4) := Pp_17.out.below g
  have Rr_18 : Hid (Bl5 v18 v14.heap.size r0 r1 r2 r3 r4) := Rr_17.out.below g
  have Z_18 : Hid (Gl v18) := Z_17.out.grown g
  have G_18 : Hid (Below w.heap.size w v18) := G_17.out.trans (g.mono G_17.out.size)
  clear A_17 B_17 C_17 E_17 D_17 Pp_17 Rr_17 Z_17 G_17 g
  clear Ff
  go_wp2_with fail
  have szU : w.heap.size ≤ v18.heap.size := G_18.out.size
  have nbUA : ¬ (v18.heap.size = w.heap.size) := by have := A_18.out.lt; omega
  have nbUB : ¬ (v18.heap.size = (w.heap.size + 1)) := by have := B_18.out.lt; omega
  have nbUC : ¬ (v18.heap.size = (w.heap.size + 1 + 1)) := by have := C_18.out.lt; omega
  have nbUE : ¬ (v18.heap.size = v5.heap.size) := by have := E_18.out.lt; omega
  have nbUD : ¬ (v18.heap.size = v9.heap.size) := by have := D_18.out.lt; omega
  have nbUPp : ¬ (v18.heap.size = v11.heap.size) := by have := Pp_18.out.lt; omega
  have nbURr : ¬ (v18.heap.size = v14.heap.size) := by have := Rr_18.out.lt; omega
  refine wp_cut (fun V => Bl5 V w.heap.size x0 x1 x2 x3 x4 ∧ Bl5 V (w.heap.size + 1) y0 y1 y2 y3 y4 ∧ Bl5 V (w.heap.size + 1 + 1) z0 z1 z2 z3 z4 ∧ Bl5 V v5.heap.size 1 0 0 0 0 ∧ Bl5 V v9.heap.size n0 n1 n2 n3 n4 ∧ Bl5 V v11.heap.size p0 p1 p2 p3 p4 ∧ Bl5 V v14.heap.size r0 r1 r2 r3 r4 ∧ Gl V ∧ Bl5 V v18.heap.size u0 u1 u2 u3 u4 ∧ Below w.heap.size w V) ⟨A_18.out.alloc _, B_18.out.alloc _, C_18.out.alloc _, E_18.out.alloc _, D_18.out.alloc _, Pp_18.out.alloc _, Rr_18.out.alloc _, Z_18.out.grown ((Below.refl _ _).alloc (Nat.le_refl _) _), Bl5.new v18 _ _ _ _ _ _ _ rfl, G_18.out.alloc G_18.out.size _⟩ ?_
  rintro v19 ⟨k0, k1, k2, k3, k4, k5, k6, k7, k8, k9⟩
  have A_19 : Hid (Bl5 v19 w.heap.size x0 x1 x2 x3 x4) := k0
  have B_19 : Hid (Bl5 v19 (w.heap.size + 1) y0 y1 y2 y3 y4) := k1
  have C_19 : Hid (Bl5 v19 (w.heap.size + 1 + 1) z0 z1 z2 z3 z4) := k2
  have E_19 : Hid (Bl5 v19 v5.heap.size 1 0 0 0 0) := k3
  have D_19 : Hid (Bl5 v19 v9.heap.size n0 n1 n2 n3 n4) := k4
  have Pp_19 : Hid (Bl5 v19 v11.heap.size p0 p1 p2 p3 p4) := k5
  have Rr_19 : Hid (Bl5 v19 v14.heap.size r0 r1 r2 r3 r4) := k6
  have Z_19 : Hid (Gl v19) := k7
  have U_19 : Hid (Bl5 v19 v18.heap.size u0 u1 u2 u3 u4) := k8
  have G_19 : Hid (Below w.heap.size w v19) := k9
  clear k0 k1 k2 k3 k4 k5 k6 k7 k8 k9 A_18 B_18 C_18 E_18 D_18 Pp_18 Rr_18 Z_18 G_18
  rcases hbb with rfl | rfl
  · obtain ⟨cal, ca0, ca1, ca2, ca3, ca4, caf⟩ := A_19.out
    obtain ⟨cul, cu0, cu1, cu2, cu3, cu4, cuf⟩ := U_19.out
    refine wp_region_ext (by kernel_rfl) (by kernel_rfl) ?_
    repeat (go_big_quiet_step ((first
      | with_reducible exact calls_ext (S8.out _)
      | with_reducible exact calls_ext (Kq.out _ (Z_19.out.grown (ext_below _ _)))
      | with_reducible exact calls_ext (NQ.out _)
      | with_reducible exact calls_ext (NX.out _)
      | with_reducible exact calls_ext (S4.out _)
      | fail)))
    refine wpQuiet_nil ?_
    intro W1 hw
    obtain ⟨m, rfl⟩ := hw
    have g := ext_below v19 m
    obtain ⟨v20, hW⟩ : ∃ V, ext v19 m = V := ⟨_, rfl⟩
    rw [hW] at g ⊢
    clear hW
    clear cal ca0 ca1 ca2 ca3 ca4 caf cul cu0 cu1 cu2 cu3 cu4 cuf
    have A_20 : Hid (Bl5 v20 w.heap.size x0 x1 x2 x3 x4) := A_19.out.below g
    have B_20 : Hid (Bl5 v20 (w.heap.size + 1) y0 y1 y2 y3 y4) := B_19.out.below g
    have C_20 : Hid (Bl5 v20 (w.heap.size + 1 + 1) z0 z1 z2 z3 z4) := C_19.out.below g
    have E_20 : Hid (Bl5 v20 v5.heap.size 1 0 0 0 0) := E_19.out.below g
    have D_20 : Hid (Bl5 v20 v9.heap.size n0 n1 n2 n3 n4) := D_19.out.below g
    have Pp_20 : Hid (Bl5 v20 v11.heap.size p0 p1 p2 p3 p4) := Pp_19.out.below g
    have Rr_20 : Hid (Bl5 v20 v14.heap.size r0 r1 r2 r3 r4) := Rr_19.out.below g
    have U_20 : Hid (Bl5 v20 v18.heap.size u0 u1 u2 u3 u4) := U_19.out.below g
    have Z_20 : Hid (Gl v20) := Z_19.out.grown g
    have G_20 : Hid (Below w.heap.size w v20) := G_19.out.trans (g.mono G_19.out.size)
    clear A_19 B_19 C_19 E_19 D_19 Pp_19 Rr_19 U_19 Z_19 G_19 g
    go_wp2_with fail
    go_ret
    exact ⟨rfl, G_20.out⟩
  · obtain ⟨cal, ca0, ca1, ca2, ca3, ca4, caf⟩ := A_19.out
    obtain ⟨cul, cu0, cu1, cu2, cu3, cu4, cuf⟩ := U_19.out
    refine wp_region_ext (by kernel_rfl) (by kernel_rfl) ?_
    repeat (go_big_quiet_step ((first
      | with_reducible exact calls_ext (S8.out _)
      | with_reducible exact calls_ext (Kq.out _ (Z_19.out.grown (ext_below _ _)))
      | with_reducible exact calls_ext (NQ.out _)
      | with_reducible exact calls_ext (NX.out _)
      | with_reducible exact calls_ext (S4.out _)
      | fail)))
    refine wpQuiet_nil ?_
    intro W1 hw
    obtain ⟨m, rfl⟩ := hw
    have g := ext_below v19 m
    obtain ⟨v20, hW⟩ : ∃ V, ext v19 m = V := ⟨_, rfl⟩
    rw [hW] at g ⊢
    clear hW
    clear cal ca0 ca1 ca2 ca3 ca4 caf cul cu0 cu1 cu2 cu3 cu4 cuf
    have A_20 : Hid (Bl5 v20 w.heap.size x0 x1 x2 x3 x4) := A_19.out.below g
    have B_20 : Hid (Bl5 v20 (w.heap.size + 1) y0 y1 y2 y3 y4) := B_19.out.below g
    have C_20 : Hid (Bl5 v20 (w.heap.size + 1 + 1) z0 z1 z2 z3 z4) := C_19.out.below g
    have E_20 : Hid (Bl5 v20 v5.heap.size 1 0 0 0 0) := E_19.out.below g
    have D_20 : Hid (Bl5 v20 v9.heap.size n0 n1 n2 n3 n4) := D_19.out.below g
    have Pp_20 : Hid (Bl5 v20 v11.heap.size p0 p1 p2 p3 p4) := Pp_19.out.below g
    have Rr_20 : Hid (Bl5 v20 v14.heap.size r0 r1 r2 r3 r4) := Rr_19.out.below g
    have U_20 : Hid (Bl5 v20 v18.heap.size u0 u1 u2 u3 u4) := U_19.out.below g
    have Z_20 : Hid (Gl v20) := Z_19.out.grown g
    have G_20 : Hid (Below w.heap.size w v20) := G_19.out.trans (g.mono G_19.out.size)
    clear A_19 B_19 C_19 E_19 D_19 Pp_19 Rr_19 U_19 Z_19 G_19 g
    go_wp2_with fail
    go_ret
    exact ⟨rfl, G_20.out⟩


end Go.Proofs.YtnebpleplogfeaaDoor
