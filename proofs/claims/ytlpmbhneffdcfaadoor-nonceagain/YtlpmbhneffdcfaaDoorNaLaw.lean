/-
  The law NonceAgain walked: the same are told again by a source of the same; each is from 1 to below the order. Conditions: as the theorems say.
-/
import Derived.Test.YtlpmbhneffdcfaaDoorNvG
import Derived.Test.YtlpmbhneffdcfaaDoorRefR
namespace Go.Proofs.YtlpmbhneffdcfaaDoor
open Go.RowKit
set_option linter.unusedVariables false
set_option linter.unusedSimpArgs false

/-- Two sources of one pair and one order, apart. -/
structure Pair2 (w W : World) (b c : Nat) (u : KV) (q : Nat) : Prop where
  ok : u.ok
  ne : b ≠ c
  hb : w.heap.size ≤ b
  hc : w.heap.size ≤ c
  sb : Sr W b u q
  sc : Sr W c u q
  ab : Avoid W b c
  ac : Avoid W c b
  be : Below w.heap.size w W
theorem Pair2.below {w W V : World} {b c : Nat} {u : KV} {q : Nat} (h : Pair2 w W b c u q) (g : Below W.heap.size W V) : Pair2 w V b c u q :=
  ⟨h.ok, h.ne, h.hb, h.hc, h.sb.below g, h.sc.below g, h.ab.below h.sb.lt g, h.ac.below h.sc.lt g, h.be.trans (g.mono h.be.size)⟩

/-- The first of two has gone on, the second has not. -/
structure Half (w W : World) (b c : Nat) (u t : KV) (q : Nat) : Prop where
  ok : t.ok
  uk : u.ok
  ne : b ≠ c
  hb : w.heap.size ≤ b
  hc : w.heap.size ≤ c
  sb : Sr W b t q
  sc : Sr W c u q
  ab : Avoid W b c
  ac : Avoid W c b
  be : Below w.heap.size w W
theorem Pair2.half {w W V : World} {b c : Nat} {u t : KV} {q : Nat} (h : Pair2 w W b c u q) (ht : t.ok) (k : Went W V b t q) : Half w V b c u t q :=
  ⟨ht, h.ok, h.ne, h.hb, h.hc, k.sr, h.sc.oth k.oth (Ne.symm h.ne) h.ac, k.av c h.sc.lt h.ab, h.ac.oth h.sc.lt k.oth (Ne.symm h.ne), Oth.bel h.be k.oth h.hb⟩
theorem Half.below {w W V : World} {b c : Nat} {u t : KV} {q : Nat} (h : Half w W b c u t q) (g : Below W.heap.size W V) : Half w V b c u t q :=
  ⟨h.ok, h.uk, h.ne, h.hb, h.hc, h.sb.below g, h.sc.below g, h.ab.below h.sb.lt g, h.ac.below h.sc.lt g, h.be.trans (g.mono h.be.size)⟩
theorem Half.full {w W V : World} {b c : Nat} {u t : KV} {q : Nat} (h : Half w W b c u t q) (k : Went W V c t q) : Pair2 w V b c t q :=
  ⟨h.ok, h.ne, h.hb, h.hc, h.sb.oth k.oth h.ne h.ab, k.sr, h.ab.oth h.sb.lt k.oth h.ne, k.av b h.sb.lt h.ac, Oth.bel h.be k.oth h.hc⟩

set_option maxRecDepth 100000 in
set_option maxHeartbeats 4000000 in
theorem nagain_yes (q x : Nat) (hq : q < M4) (hx : x < M4) (h : List Nat) (hh : h.length = 32) (hhb : Bb h) (v : Value) (w : World) (hg : Gl5 w) (hb : nbits q = 256) (hs : SK .u8 w v h) :
    Calls Tryd.prog 4 #[four q, four x, v] w fun e w' => e = .returned (.bool true) ∧ Below w.heap.size w w' := by
  have hq2 := top_bit q hq hb
  have hq1 : Hid (q < M4) := hq
  have hq3 : Hid (M4 ≤ 2 * q) := hq2
  have kW : Hid (∀ W : World, Gl5 W → Calls Tryd.prog 5 #[] W fun e w' => e = .returned (.bool true) ∧ Below W.heap.size W w') := fun W h => awake8 W h
  have kZ : Hid (∀ W : World, Calls Tryd.prog 9 #[.pointer none] W fun e w' => e = .returned (.tuple #[.agg #[.int .u64 0, .int .u64 0, .int .u64 0, .int .u64 0], .bool false]) ∧ Below W.heap.size W w') := fun W => by
    have h := next_nil W
    rw [fw_zero] at h
    exact h
  have kN : Hid (∀ W : World, Below w.heap.size w W → Calls Tryd.prog 6 #[four q, four x, v] W fun e w' => ∃ b, e = .returned (.tuple #[.pointer (some ⟨b, 0, none⟩), .int .i64 0]) ∧ W.heap.size ≤ b ∧ Sr w' b (begins q x (hvN h 32)) q ∧ Below W.heap.size W w' ∧ ∀ c, c < W.heap.size → Avoid w' b c) := fun W hW => new_yes q x hq hx h hh hhb v W (hg.grown hW) hb (hs.below hW)
  have kT : Hid (∀ (s : KV) (n : Nat) (f : Bool) (t : KV), s.ok → Tells s q n f t → ∀ (W : World) (b : Nat), Gl5 W → 2 < b → Sr W b s q → Calls Tryd.prog 9 #[.pointer (some ⟨b, 0, none⟩)] W fun e w' => e = .returned (.tuple #[four n, .bool f]) ∧ Went W w' b t q) := fun s n f t h1 h2 W b h3 h4 h5 => next_any s h1 q hq hq2 n f t h2 W h3 b h4 h5
  have kC : Hid (∀ (n : Nat), n < M4 → ∀ W : World, Calls Tryd.prog 11 #[four n, four q] W fun e w' => e = .returned (.int .i64 (ord n q)) ∧ Below W.heap.size W w') := fun n hn W => cmp_any n q hn hq W
  obtain ⟨q0, q1, q2, q3, -, -, -, -, eq, -⟩ := four_open q hq
  obtain ⟨x0, x1, x2, x3, -, -, -, -, ex, -⟩ := four_open x hx
  rw [eq, ex] at kN
  rw [eq] at kC
  rw [eq, ex]
  obtain ⟨va, vl, rfl⟩ : ∃ a c, v = .slice a 32 c := by obtain ⟨a, c, e⟩ := hs.shape; exact ⟨a, c, by rw [e, hh]⟩
  have HG : Hid (Gl5 w) := hg
  have hok : Hid ((begins q x (hvN h 32)).ok) := begins_ok _ _ _
  obtain ⟨U, hU⟩ : ∃ U, begins q x (hvN h 32) = U := ⟨_, rfl⟩
  rw [hU] at kN hok
  have eq' : Hid (four q = .agg #[.int .u64 q0, .int .u64 q1, .int .u64 q2, .int .u64 q3]) := eq
  clear hg hs hhb hh hU eq ex hq2 hb hx hq
  have B0 : Hid (Below w.heap.size w ((w.alloc (.cells #[.int .u64 q0, .int .u64 q1, .int .u64 q2, .int .u64 q3] 24)).alloc (.cells #[.int .u64 x0, .int .u64 x1, .int .u64 x2, .int .u64 x3] 24))) := ((Below.refl _ _).alloc (Nat.le_refl _) _).alloc (by simp) _
  have XQ : Hid (At 24 ((w.alloc (.cells #[.int .u64 q0, .int .u64 q1, .int .u64 q2, .int .u64 q3] 24)).alloc (.cells #[.int .u64 x0, .int .u64 x1, .int .u64 x2, .int .u64 x3] 24)) w.heap.size [.int .u64 q0, .int .u64 q1, .int .u64 q2, .int .u64 q3]) := by
    have h : At 24 (w.alloc (.cells #[.int .u64 q0, .int .u64 q1, .int .u64 q2, .int .u64 q3] 24)) w.heap.size [.int .u64 q0, .int .u64 q1, .int .u64 q2, .int .u64 q3] := at_new _ _ _
    exact h.below ((Below.refl _ _).alloc (Nat.le_refl _) _)
  have XX : Hid (At 24 ((w.alloc (.cells #[.int .u64 q0, .int .u64 q1, .int .u64 q2, .int .u64 q3] 24)).alloc (.cells #[.int .u64 x0, .int .u64 x1, .int .u64 x2, .int .u64 x3] 24)) (w.heap.size + 1) [.int .u64 x0, .int .u64 x1, .int .u64 x2, .int .u64 x3]) := by
    have h := at_new 24 (w.alloc (.cells #[.int .u64 q0, .int .u64 q1, .int .u64 q2, .int .u64 q3] 24)) [.int .u64 x0, .int .u64 x1, .int .u64 x2, .int .u64 x3]
    have e : (w.alloc (.cells #[.int .u64 q0, .int .u64 q1, .int .u64 q2, .int .u64 q3] 24)).heap.size = w.heap.size + 1 := by simp
    rw [e] at h
    exact h
  go_enter Tryd.func4, Tryd.ntmps4
  go_wp2_with fail
  refine (kW.out _ (HG.out.grown B0.out)).mono ?_
  rintro e W1 ⟨rfl, g1⟩
  have B1 : Hid (Below w.heap.size w W1) := B0.out.trans (g1.mono B0.out.size)
  have Q1 : Hid (At 24 W1 w.heap.size [.int .u64 q0, .int .u64 q1, .int .u64 q2, .int .u64 q3]) := XQ.out.below g1
  have X1 : Hid (At 24 W1 (w.heap.size + 1) [.int .u64 x0, .int .u64 x1, .int .u64 x2, .int .u64 x3]) := XX.out.below g1
  clear g1 B0 XQ XX kW
  go_wp2_with fail
  refine (kZ.out _).mono ?_
  rintro e W2 ⟨rfl, g2⟩
  have B2 : Hid (Below w.heap.size w W2) := B1.out.trans (g2.mono B1.out.size)
  have Q2 : Hid (At 24 W2 w.heap.size [.int .u64 q0, .int .u64 q1, .int .u64 q2, .int .u64 q3]) := Q1.out.below g2
  have X2 : Hid (At 24 W2 (w.heap.size + 1) [.int .u64 x0, .int .u64 x1, .int .u64 x2, .int .u64 x3]) := X1.out.below g2
  clear g2 B1 Q1 X1 kZ
  have hz0 : ∀ W : World, (Op.equalIn 10000 24 (.agg #[.int .u64 0, .int .u64 0, .int .u64 0, .int .u64 0]) (.agg #[.int .u64 0, .int .u64 0, .int .u64 0, .int .u64 0])).run Tryd.prog W = .ok true W := fun W => by rw [q_eqlIn]; simp
  have g3 : Below W2.heap.size W2 (W2.alloc (.cells #[.int .u64 0, .int .u64 0, .int .u64 0, .int .u64 0] 24)) := (Below.refl _ _).alloc (Nat.le_refl _) _
  have Q3 := Q2.out.below g3
  have X3 := X2.out.below g3
  have c0 := Q3.cell 0
  have c1 := Q3.cell 1
  have c2 := Q3.cell 2
  have c3 := Q3.cell 3
  have d0 := X3.cell 0
  have d1 := X3.cell 1
  have d2 := X3.cell 2
  have d3 := X3.cell 3
  simp only [List.getElem?_cons_zero, List.getElem?_cons_succ] at c0 c1 c2 c3 d0 d1 d2 d3
  have B3 : Hid (Below w.heap.size w (W2.alloc (.cells #[.int .u64 0, .int .u64 0, .int .u64 0, .int .u64 0] 24))) := B2.out.trans (g3.mono B2.out.size)
  clear Q3 X3
  go_wp2_with fail
  refine (kN.out _ B3.out).mono ?_
  rintro e W4 ⟨b, rfl, hb4, hS4, g4, hA4⟩
  have B4 : Hid (Below w.heap.size w W4) := B3.out.trans (g4.mono B3.out.size)
  have Q4 : Hid (At 24 W4 w.heap.size [.int .u64 q0, .int .u64 q1, .int .u64 q2, .int .u64 q3]) := (Q2.out.below g3).below g4
  have X4 : Hid (At 24 W4 (w.heap.size + 1) [.int .u64 x0, .int .u64 x1, .int .u64 x2, .int .u64 x3]) := (X2.out.below g3).below g4
  have S4 : Hid (Sr W4 b U q) := hS4
  have hwb : Hid (w.heap.size ≤ b) := Nat.le_trans B3.out.size hb4
  have hqb : w.heap.size < b := Nat.lt_of_lt_of_le ((Q2.out.below g3).lt) hb4
  clear hS4 hb4 g4 hA4 B3 g3 c0 c1 c2 c3 d0 d1 d2 d3 Q2 X2 hz0 B2
  have c0 := Q4.out.cell 0
  have c1 := Q4.out.cell 1
  have c2 := Q4.out.cell 2
  have c3 := Q4.out.cell 3
  have d0 := X4.out.cell 0
  have d1 := X4.out.cell 1
  have d2 := X4.out.cell 2
  have d3 := X4.out.cell 3
  simp only [List.getElem?_cons_zero, List.getElem?_cons_succ] at c0 c1 c2 c3 d0 d1 d2 d3
  go_wp2_with fail
  refine (kN.out _ B4.out).mono ?_
  rintro e W5 ⟨c, rfl, hb5, hS5, g5, hA5⟩
  have hbl : b < W4.heap.size := S4.out.lt
  have hne0 : Hid (w.heap.size ≠ b ∧ w.heap.size ≠ c) := ⟨by omega, Nat.ne_of_lt (Nat.lt_of_lt_of_le Q4.out.lt hb5)⟩
  have PP : Hid (Pair2 w W5 b c U q) := ⟨hok.out, by omega, hwb.out, Nat.le_trans B4.out.size hb5, S4.out.below g5, hS5, by
      obtain ⟨ka, kc, va', vc, k1, k2, k3, k4, k5⟩ := S4.out
      exact avoid_at (k1.below g5) ((k2).off hb5) (k3.off hb5), hA5 b hbl, B4.out.trans (g5.mono B4.out.size)⟩
  have Q5 : Hid (At 24 W5 w.heap.size [.int .u64 q0, .int .u64 q1, .int .u64 q2, .int .u64 q3]) := Q4.out.below g5
  clear hb5 hS5 g5 hA5 hbl hqb S4 X4 Q4 B4 c0 c1 c2 c3 d0 d1 d2 d3 kN hwb hok
  go_wp2_with fail
  go_loopw [63] (fun y W => ∃ (i : Nat) (u : KV), i ≤ 4 ∧ y = .int .i64 i ∧ Pair2 w W b c u q ∧ At 24 W w.heap.size [.int .u64 q0, .int .u64 q1, .int .u64 q2, .int .u64 q3]) (fun y _ => 4 - (intOf y).toNat)
  case atStart => exact ⟨0, U, by omega, rfl, PP.out, Q5.out⟩
  case round =>
    clear PP Q5
    obtain ⟨i, u, hi, rfl, hP, hQ⟩ := hrel
    have PP : Hid (Pair2 w wr b c u q) := hP
    have QQ : Hid (At 24 wr w.heap.size [.int .u64 q0, .int .u64 q1, .int .u64 q2, .int .u64 q3]) := hQ
    clear hP hQ
    by_cases hlt : i < 4
    · have hlt' : (i : Int) < 4 := by omega
      obtain ⟨n, f, t, hT⟩ := tells_some u q
      have hnl := hT.lt
      have hrng : Hid ((f = true ∧ n ≠ 0 ∧ n < q) ∨ (f = false ∧ n = 0)) := hT.rng
      have htok : Hid t.ok := hT.ok PP.out.ok
      have hgl : 2 < w.heap.size := HG.out.lt
      have k1 : Hid (∀ (W : World) (d : Nat), Gl5 W → 2 < d → Sr W d u q → Calls Tryd.prog 9 #[.pointer (some ⟨d, 0, none⟩)] W fun e w' => e = .returned (.tuple #[four n, .bool f]) ∧ Went W w' d t q) := fun W d h1 h2 h3 => kT.out u n f t PP.out.ok hT W d h1 h2 h3
      have hne1 : w.heap.size ≠ b := by have := PP.out.hb; exact hne0.out.1
      have hne2 : w.heap.size ≠ c := hne0.out.2
      rcases hrng.out with ⟨rfl, hn0, hnq⟩ | ⟨rfl, rfl⟩
      · obtain ⟨n0, n1, n2, n3, -, -, -, -, en, -⟩ := four_open n hnl
        have hp := four_parts n 0 hnl (by unfold M4; omega) n0 n1 n2 n3 0 0 0 0 en fw_zero
        have k3 : Hid (∀ W : World, Calls Tryd.prog 11 #[.agg #[.int .u64 n0, .int .u64 n1, .int .u64 n2, .int .u64 n3], .agg #[.int .u64 q0, .int .u64 q1, .int .u64 q2, .int .u64 q3]] W fun e w' => e = .returned (.int .i64 (-1)) ∧ Below W.heap.size W w') := fun W => by
          have h := kC.out n hnl W
          rw [en, ord_lt (by omega)] at h
          exact h
        have f1 : ∀ W : World, (Op.equalIn 10000 24 (.agg #[.int .u64 n0, .int .u64 n1, .int .u64 n2, .int .u64 n3]) (.agg #[.int .u64 n0, .int .u64 n1, .int .u64 n2, .int .u64 n3])).run Tryd.prog W = .ok true W := fun W => by rw [q_eqlIn]; simp
        have f2 : ∀ W : World, (Op.equalIn 10000 24 (.agg #[.int .u64 n0, .int .u64 n1, .int .u64 n2, .int .u64 n3]) (.agg #[.int .u64 0, .int .u64 0, .int .u64 0, .int .u64 0])).run Tryd.prog W = .ok false W := fun W => by
          rw [q_eqlIn, decide_eq_false (fun z => hn0 (hp.1 z))]
        rw [en] at k1
        clear en hnl hp hn0 hnq
        have kS := hid_calls (k1.out wr b (HG.out.grown PP.out.be) (Nat.lt_of_lt_of_le hgl PP.out.hb) PP.out.sb)
        clear hT kT kC
        go_wp2_with fail
        refine kS.out.mono ?_
        rintro e W1 ⟨rfl, hW1⟩
        have g1 : Below W1.heap.size W1 (W1.alloc (.cells #[.int .u64 n0, .int .u64 n1, .int .u64 n2, .int .u64 n3] 24)) := (Below.refl _ _).alloc (Nat.le_refl _) _
        have H1 : Hid (Half w (W1.alloc (.cells #[.int .u64 n0, .int .u64 n1, .int .u64 n2, .int .u64 n3] 24)) b c u t q) := (PP.out.half htok.out hW1).below g1
        have Q1 : Hid (At 24 (W1.alloc (.cells #[.int .u64 n0, .int .u64 n1, .int .u64 n2, .int .u64 n3] 24)) w.heap.size [.int .u64 q0, .int .u64 q1, .int .u64 q2, .int .u64 q3]) := (hW1.oth.at QQ.out (by have := PP.out.hb; have := PP.out.sb.lt; have := hne1; omega)).below g1
        have N1 : Hid (At 24 (W1.alloc (.cells #[.int .u64 n0, .int .u64 n1, .int .u64 n2, .int .u64 n3] 24)) W1.heap.size [.int .u64 n0, .int .u64 n1, .int .u64 n2, .int .u64 n3]) := at_new _ _ _
        have hgb : Hid (W1.heap.size ≠ c) := by have := PP.out.sc.lt; have := hW1.oth.size; unfold Hid; omega
        have kS2 := hid_calls (k1.out (W1.alloc (.cells #[.int .u64 n0, .int .u64 n1, .int .u64 n2, .int .u64 n3] 24)) c (HG.out.grown H1.out.be) (Nat.lt_of_lt_of_le hgl H1.out.hc) H1.out.sc)
        clear hW1 g1 kS PP QQ
        go_wp2_with fail
        refine kS2.out.mono ?_
        rintro e W3 ⟨rfl, hW3⟩
        have P3 : Hid (Pair2 w W3 b c t q) := H1.out.full hW3
        have Q3 : Hid (At 24 W3 w.heap.size [.int .u64 q0, .int .u64 q1, .int .u64 q2, .int .u64 q3]) := hW3.oth.at Q1.out (by have := hne2; omega)
        have N3 : Hid (At 24 W3 W1.heap.size [.int .u64 n0, .int .u64 n1, .int .u64 n2, .int .u64 n3]) := hW3.oth.at N1.out hgb.out
        have hg3 : W1.heap.size < W3.heap.size := N3.out.lt
        obtain ⟨gk, hgk⟩ : ∃ g, W1.heap.size = g := ⟨_, rfl⟩
        rw [hgk] at N3 hg3 ⊢
        clear hgk hW3 H1 Q1 N1 kS2 hgb k1
        have g4 : Below W3.heap.size W3 (W3.alloc (.cells #[.int .u64 n0, .int .u64 n1, .int .u64 n2, .int .u64 n3] 24)) := (Below.refl _ _).alloc (Nat.le_refl _) _
        have P4 : Hid (Pair2 w (W3.alloc (.cells #[.int .u64 n0, .int .u64 n1, .int .u64 n2, .int .u64 n3] 24)) b c t q) := P3.out.below g4
        have Q4 : Hid (At 24 (W3.alloc (.cells #[.int .u64 n0, .int .u64 n1, .int .u64 n2, .int .u64 n3] 24)) w.heap.size [.int .u64 q0, .int .u64 q1, .int .u64 q2, .int .u64 q3]) := Q3.out.below g4
        have N4 : Hid (At 24 (W3.alloc (.cells #[.int .u64 n0, .int .u64 n1, .int .u64 n2, .int .u64 n3] 24)) gk [.int .u64 n0, .int .u64 n1, .int .u64 n2, .int .u64 n3]) := N3.out.below g4
        have c0 := N4.out.cell 0
        have c1 := N4.out.cell 1
        have c2 := N4.out.cell 2
        have c3 := N4.out.cell 3
        have d0 := Q4.out.cell 0
        have d1 := Q4.out.cell 1
        have d2 := Q4.out.cell 2
        have d3 := Q4.out.cell 3
        simp only [List.getElem?_cons_zero, List.getElem?_cons_succ] at c0 c1 c2 c3 d0 d1 d2 d3
        clear P3 Q3 N3 g4
        go_wp2_with fail
        refine (k3.out _).mono ?_
        rintro e W5 ⟨rfl, g5⟩
        have P5 : Hid (Pair2 w W5 b c t q) := P4.out.below g5
        have Q5 : Hid (At 24 W5 w.heap.size [.int .u64 q0, .int .u64 q1, .int .u64 q2, .int .u64 q3]) := Q4.out.below g5
        have N5 := N4.out.below g5
        have x0 := N5.cell 0
        have x1 := N5.cell 1
        have x2 := N5.cell 2
        have x3 := N5.cell 3
        simp only [List.getElem?_cons_zero, List.getElem?_cons_succ] at x0 x1 x2 x3
        clear g5 P4 Q4 N4 N5 c0 c1 c2 c3 d0 d1 d2 d3 k3
        go_wp2_with fail
        go_roundw
        case rel => exact ⟨i + 1, t, by omega, by go_num, P5.out, Q5.out⟩
        case measure => simp [intOf]; omega
      · have f1 : ∀ W : World, (Op.equalIn 10000 24 (.agg #[.int .u64 0, .int .u64 0, .int .u64 0, .int .u64 0]) (.agg #[.int .u64 0, .int .u64 0, .int .u64 0, .int .u64 0])).run Tryd.prog W = .ok true W := fun W => by rw [q_eqlIn]; simp
        rw [fw_zero] at k1
        clear hnl
        have kS := hid_calls (k1.out wr b (HG.out.grown PP.out.be) (Nat.lt_of_lt_of_le hgl PP.out.hb) PP.out.sb)
        clear hT kT kC
        go_wp2_with fail
        refine kS.out.mono ?_
        rintro e W1 ⟨rfl, hW1⟩
        have g1 : Below W1.heap.size W1 (W1.alloc (.cells #[.int .u64 0, .int .u64 0, .int .u64 0, .int .u64 0] 24)) := (Below.refl _ _).alloc (Nat.le_refl _) _
        have H1 : Hid (Half w (W1.alloc (.cells #[.int .u64 0, .int .u64 0, .int .u64 0, .int .u64 0] 24)) b c u t q) := (PP.out.half htok.out hW1).below g1
        have Q1 : Hid (At 24 (W1.alloc (.cells #[.int .u64 0, .int .u64 0, .int .u64 0, .int .u64 0] 24)) w.heap.size [.int .u64 q0, .int .u64 q1, .int .u64 q2, .int .u64 q3]) := (hW1.oth.at QQ.out (by have := PP.out.hb; have := PP.out.sb.lt; have := hne1; omega)).below g1
        have N1 : Hid (At 24 (W1.alloc (.cells #[.int .u64 0, .int .u64 0, .int .u64 0, .int .u64 0] 24)) W1.heap.size [.int .u64 0, .int .u64 0, .int .u64 0, .int .u64 0]) := at_new _ _ _
        have hgb : Hid (W1.heap.size ≠ c) := by have := PP.out.sc.lt; have := hW1.oth.size; unfold Hid; omega
        have kS2 := hid_calls (k1.out (W1.alloc (.cells #[.int .u64 0, .int .u64 0, .int .u64 0, .int .u64 0] 24)) c (HG.out.grown H1.out.be) (Nat.lt_of_lt_of_le hgl H1.out.hc) H1.out.sc)
        clear hW1 g1 kS PP QQ
        go_wp2_with fail
        refine kS2.out.mono ?_
        rintro e W3 ⟨rfl, hW3⟩
        have P3 : Hid (Pair2 w W3 b c t q) := H1.out.full hW3
        have Q3 : Hid (At 24 W3 w.heap.size [.int .u64 q0, .int .u64 q1, .int .u64 q2, .int .u64 q3]) := hW3.oth.at Q1.out (by have := hne2; omega)
        have N3 : Hid (At 24 W3 W1.heap.size [.int .u64 0, .int .u64 0, .int .u64 0, .int .u64 0]) := hW3.oth.at N1.out hgb.out
        have hg3 : W1.heap.size < W3.heap.size := N3.out.lt
        obtain ⟨gk, hgk⟩ : ∃ g, W1.heap.size = g := ⟨_, rfl⟩
        rw [hgk] at N3 hg3 ⊢
        clear hgk hW3 H1 Q1 N1 kS2 hgb k1
        have g4 : Below W3.heap.size W3 (W3.alloc (.cells #[.int .u64 0, .int .u64 0, .int .u64 0, .int .u64 0] 24)) := (Below.refl _ _).alloc (Nat.le_refl _) _
        have P4 : Hid (Pair2 w (W3.alloc (.cells #[.int .u64 0, .int .u64 0, .int .u64 0, .int .u64 0] 24)) b c t q) := P3.out.below g4
        have Q4 : Hid (At 24 (W3.alloc (.cells #[.int .u64 0, .int .u64 0, .int .u64 0, .int .u64 0] 24)) w.heap.size [.int .u64 q0, .int .u64 q1, .int .u64 q2, .int .u64 q3]) := Q3.out.below g4
        have N4 : Hid (At 24 (W3.alloc (.cells #[.int .u64 0, .int .u64 0, .int .u64 0, .int .u64 0] 24)) gk [.int .u64 0, .int .u64 0, .int .u64 0, .int .u64 0]) := N3.out.below g4
        have c0 := N4.out.cell 0
        have c1 := N4.out.cell 1
        have c2 := N4.out.cell 2
        have c3 := N4.out.cell 3
        have d0 := Q4.out.cell 0
        have d1 := Q4.out.cell 1
        have d2 := Q4.out.cell 2
        have d3 := Q4.out.cell 3
        simp only [List.getElem?_cons_zero, List.getElem?_cons_succ] at c0 c1 c2 c3 d0 d1 d2 d3
        clear P3 Q3 N3 g4
        go_wp2_with fail
        clear c0 c1 c2 c3 d0 d1 d2 d3
        go_roundw
        case rel => exact ⟨i + 1, t, by omega, by go_num, P4.out, Q4.out⟩
        case measure => simp [intOf]; omega
    · obtain rfl : i = 4 := by omega
      go_wp2_with fail
      go_ret
      exact ⟨rfl, PP.out.be⟩
end Go.Proofs.YtlpmbhneffdcfaaDoor

/-
  The law NonceAgain walked where there is no such source: both calls answer ErrArg. Conditions: as the theorems say.
-/
namespace Go.Proofs.YtlpmbhneffdcfaaDoor
open Go.RowKit
set_option linter.unusedVariables false
set_option linter.unusedSimpArgs false

theorem M4_digits : M4 < 16777216 ^ 11 := by unfold M4; decide
set_option maxRecDepth 100000 in
set_option maxHeartbeats 4000000 in
theorem may_any (q : Nat) (hq : q < M4) (a : Option Addr) (l c : Nat) (w : World) :
    Calls Tryd.prog 7 #[four q, .slice a l c] w fun e w' => e = .returned (.bool (decide (nbits q = 256 ∧ l = 32))) ∧ Below w.heap.size w w' := by
  have kO : Hid (∀ W : World, Calls Tryd.prog 19 #[four q] W fun e w' => ∃ v, e = .returned v ∧ Num w' v q ∧ Below W.heap.size W w') := fun W => of_ref_any q hq W
  obtain ⟨n, hn⟩ : ∃ n, nbits q = n := ⟨_, rfl⟩
  have kB : Hid (∀ (W : World) (v : Value), Num W v q → Calls Tryd.prog 18 #[v] W fun e w' => e = .returned (.int .i64 (n : Int)) ∧ Below W.heap.size W w') := fun W v h => by rw [← hn]; exact bits_num q v W h 11 (Nat.lt_trans hq M4_digits) (by omega)
  rw [hn]
  obtain ⟨q0, q1, q2, q3, -, -, -, -, eq, -⟩ := four_open q hq
  rw [eq] at kO ⊢
  have B0 : Hid (Below w.heap.size w (w.alloc (.cells #[.int .u64 q0, .int .u64 q1, .int .u64 q2, .int .u64 q3] 24))) := (Below.refl _ _).alloc (Nat.le_refl _) _
  clear eq hn hq
  go_enter Tryd.func7, Tryd.ntmps7
  go_wp2_with fail
  refine (kO.out _).mono ?_
  rintro e W1 ⟨v1, rfl, hN1, g1⟩
  have B1 : Hid (Below w.heap.size w W1) := B0.out.trans (g1.mono B0.out.size)
  have N1 : Hid (Num W1 v1 q) := hN1
  obtain ⟨xa, xc, xd, rfl⟩ := hN1.shape
  clear hN1 g1 kO B0
  go_wp2_with fail
  refine (kB.out W1 _ N1.out).mono ?_
  rintro e W2 ⟨rfl, g2⟩
  have B2 : Hid (Below w.heap.size w W2) := B1.out.trans (g2.mono B1.out.size)
  clear g2 B1 N1 kB
  by_cases h1 : n = 256
  · subst h1
    by_cases h2 : l = 32
    · subst h2
      go_wp2_with fail
      go_ret
      exact ⟨rfl, B2.out⟩
    · have e1 : ((l : Int) == 32) = false := beq_eq_false_iff_ne.2 (by omega)
      have e2 : ¬ (l : Int) = 32 := by omega
      go_wp2_with fail
      go_ret
      exact ⟨rfl, B2.out⟩
  · have e1 : ((n : Int) == 256) = false := beq_eq_false_iff_ne.2 (by omega)
    have e2 : ¬ (n : Int) = 256 := by omega
    go_wp2_with fail
    go_ret
    exact ⟨by first | rfl | (rw [show decide (n = 256 ∧ l = 32) = false by simp [h1]]; rfl), B2.out⟩

set_option maxRecDepth 100000 in
set_option maxHeartbeats 4000000 in
theorem nagain_no (q x : Nat) (hq : q < M4) (hx : x < M4) (a : Option Addr) (l c : Nat) (w : World) (hg : Gl5 w) (hno : ¬ (nbits q = 256 ∧ l = 32)) :
    Calls Tryd.prog 4 #[four q, four x, .slice a l c] w fun e w' => e = .returned (.bool true) ∧ Below w.heap.size w w' := by
  have kW : Hid (∀ W : World, Gl5 W → Calls Tryd.prog 5 #[] W fun e w' => e = .returned (.bool true) ∧ Below W.heap.size W w') := fun W h => awake8 W h
  have kZ : Hid (∀ W : World, Calls Tryd.prog 9 #[.pointer none] W fun e w' => e = .returned (.tuple #[.agg #[.int .u64 0, .int .u64 0, .int .u64 0, .int .u64 0], .bool false]) ∧ Below W.heap.size W w') := fun W => by
    have h := next_nil W
    rw [fw_zero] at h
    exact h
  have kN : Hid (∀ W : World, Calls Tryd.prog 6 #[four q, four x, .slice a l c] W fun e w' => e = .returned (.tuple #[.pointer none, .int .i64 2]) ∧ Below W.heap.size W w') := fun W => by
    by_cases hb : nbits q = 256
    · exact new_len q x hq hx a l c _ rfl W hb (fun h => hno ⟨hb, h⟩)
    · exact new_bits q x hq hx _ W hb
  have kY : Hid (∀ W : World, Calls Tryd.prog 7 #[four q, .slice a l c] W fun e w' => e = .returned (.bool false) ∧ Below W.heap.size W w') := fun W => by
    have h := may_any q hq a l c W
    rw [decide_eq_false hno] at h
    exact h
  obtain ⟨q0, q1, q2, q3, -, -, -, -, eq, -⟩ := four_open q hq
  obtain ⟨x0, x1, x2, x3, -, -, -, -, ex, -⟩ := four_open x hx
  rw [eq, ex] at kN
  rw [eq] at kY
  rw [eq, ex]
  have HG : Hid (Gl5 w) := hg
  clear hg hno eq ex hq hx
  have B0 : Hid (Below w.heap.size w ((w.alloc (.cells #[.int .u64 q0, .int .u64 q1, .int .u64 q2, .int .u64 q3] 24)).alloc (.cells #[.int .u64 x0, .int .u64 x1, .int .u64 x2, .int .u64 x3] 24))) := ((Below.refl _ _).alloc (Nat.le_refl _) _).alloc (by simp) _
  have XQ : Hid (At 24 ((w.alloc (.cells #[.int .u64 q0, .int .u64 q1, .int .u64 q2, .int .u64 q3] 24)).alloc (.cells #[.int .u64 x0, .int .u64 x1, .int .u64 x2, .int .u64 x3] 24)) w.heap.size [.int .u64 q0, .int .u64 q1, .int .u64 q2, .int .u64 q3]) := by
    have h : At 24 (w.alloc (.cells #[.int .u64 q0, .int .u64 q1, .int .u64 q2, .int .u64 q3] 24)) w.heap.size [.int .u64 q0, .int .u64 q1, .int .u64 q2, .int .u64 q3] := at_new _ _ _
    exact h.below ((Below.refl _ _).alloc (Nat.le_refl _) _)
  have XX : Hid (At 24 ((w.alloc (.cells #[.int .u64 q0, .int .u64 q1, .int .u64 q2, .int .u64 q3] 24)).alloc (.cells #[.int .u64 x0, .int .u64 x1, .int .u64 x2, .int .u64 x3] 24)) (w.heap.size + 1) [.int .u64 x0, .int .u64 x1, .int .u64 x2, .int .u64 x3]) := by
    have h := at_new 24 (w.alloc (.cells #[.int .u64 q0, .int .u64 q1, .int .u64 q2, .int .u64 q3] 24)) [.int .u64 x0, .int .u64 x1, .int .u64 x2, .int .u64 x3]
    have e : (w.alloc (.cells #[.int .u64 q0, .int .u64 q1, .int .u64 q2, .int .u64 q3] 24)).heap.size = w.heap.size + 1 := by simp
    rw [e] at h
    exact h
  go_enter Tryd.func4, Tryd.ntmps4
  go_wp2_with fail
  refine (kW.out _ (HG.out.grown B0.out)).mono ?_
  rintro e W1 ⟨rfl, g1⟩
  have B1 : Hid (Below w.heap.size w W1) := B0.out.trans (g1.mono B0.out.size)
  have Q1 : Hid (At 24 W1 w.heap.size [.int .u64 q0, .int .u64 q1, .int .u64 q2, .int .u64 q3]) := XQ.out.below g1
  have X1 : Hid (At 24 W1 (w.heap.size + 1) [.int .u64 x0, .int .u64 x1, .int .u64 x2, .int .u64 x3]) := XX.out.below g1
  clear g1 B0 XQ XX kW
  go_wp2_with fail
  refine (kZ.out _).mono ?_
  rintro e W2 ⟨rfl, g2⟩
  have B2 : Hid (Below w.heap.size w W2) := B1.out.trans (g2.mono B1.out.size)
  have Q2 : Hid (At 24 W2 w.heap.size [.int .u64 q0, .int .u64 q1, .int .u64 q2, .int .u64 q3]) := Q1.out.below g2
  have X2 : Hid (At 24 W2 (w.heap.size + 1) [.int .u64 x0, .int .u64 x1, .int .u64 x2, .int .u64 x3]) := X1.out.below g2
  clear g2 B1 Q1 X1 kZ
  have hz0 : ∀ W : World, (Op.equalIn 10000 24 (.agg #[.int .u64 0, .int .u64 0, .int .u64 0, .int .u64 0]) (.agg #[.int .u64 0, .int .u64 0, .int .u64 0, .int .u64 0])).run Tryd.prog W = .ok true W := fun W => by rw [q_eqlIn]; simp
  have g3 : Below W2.heap.size W2 (W2.alloc (.cells #[.int .u64 0, .int .u64 0, .int .u64 0, .int .u64 0] 24)) := (Below.refl _ _).alloc (Nat.le_refl _) _
  have Q3 := Q2.out.below g3
  have X3 := X2.out.below g3
  have c0 := Q3.cell 0
  have c1 := Q3.cell 1
  have c2 := Q3.cell 2
  have c3 := Q3.cell 3
  have d0 := X3.cell 0
  have d1 := X3.cell 1
  have d2 := X3.cell 2
  have d3 := X3.cell 3
  simp only [List.getElem?_cons_zero, List.getElem?_cons_succ] at c0 c1 c2 c3 d0 d1 d2 d3
  have B3 : Hid (Below w.heap.size w (W2.alloc (.cells #[.int .u64 0, .int .u64 0, .int .u64 0, .int .u64 0] 24))) := B2.out.trans (g3.mono B2.out.size)
  clear Q3 X3
  go_wp2_with fail
  refine (kN.out _).mono ?_
  rintro e W4 ⟨rfl, g4⟩
  have B4 : Hid (Below w.heap.size w W4) := B3.out.trans (g4.mono B3.out.size)
  have Q4 : Hid (At 24 W4 w.heap.size [.int .u64 q0, .int .u64 q1, .int .u64 q2, .int .u64 q3]) := (Q2.out.below g3).below g4
  have X4 : Hid (At 24 W4 (w.heap.size + 1) [.int .u64 x0, .int .u64 x1, .int .u64 x2, .int .u64 x3]) := (X2.out.below g3).below g4
  clear g4 B3 g3 c0 c1 c2 c3 d0 d1 d2 d3 Q2 X2 hz0 B2
  have c0 := Q4.out.cell 0
  have c1 := Q4.out.cell 1
  have c2 := Q4.out.cell 2
  have c3 := Q4.out.cell 3
  have d0 := X4.out.cell 0
  have d1 := X4.out.cell 1
  have d2 := X4.out.cell 2
  have d3 := X4.out.cell 3
  simp only [List.getElem?_cons_zero, List.getElem?_cons_succ] at c0 c1 c2 c3 d0 d1 d2 d3
  go_wp2_with fail
  refine (kN.out _).mono ?_
  rintro e W5 ⟨rfl, g5⟩
  have B5 : Hid (Below w.heap.size w W5) := B4.out.trans (g5.mono B4.out.size)
  have Q5 : Hid (At 24 W5 w.heap.size [.int .u64 q0, .int .u64 q1, .int .u64 q2, .int .u64 q3]) := Q4.out.below g5
  clear g5 X4 Q4 B4 c0 c1 c2 c3 d0 d1 d2 d3 kN
  have c0 := Q5.out.cell 0
  have c1 := Q5.out.cell 1
  have c2 := Q5.out.cell 2
  have c3 := Q5.out.cell 3
  simp only [List.getElem?_cons_zero, List.getElem?_cons_succ] at c0 c1 c2 c3
  go_wp2_with fail
  refine (kY.out _).mono ?_
  rintro e W6 ⟨rfl, g6⟩
  have B6 : Hid (Below w.heap.size w W6) := B5.out.trans (g6.mono B5.out.size)
  clear g6 B5 Q5 kY c0 c1 c2 c3
  go_wp2_with fail
  go_ret
  exact ⟨rfl, B6.out⟩
theorem nagain_any (q x : Nat) (hq : q < M4) (hx : x < M4) (v : Value) (h : List Nat) (hhb : Bb h) (w : World) (hg : Gl5 w) (hs : SK .u8 w v h) :
    Calls Tryd.prog 4 #[four q, four x, v] w fun e w' => e = .returned (.bool true) ∧ Below w.heap.size w w' := by
  by_cases c : nbits q = 256 ∧ h.length = 32
  · exact nagain_yes q x hq hx h c.2 hhb v w hg c.1 hs
  · obtain ⟨a, k, e⟩ := hs.shape
    subst e
    exact nagain_no q x hq hx a h.length k w hg c
end Go.Proofs.YtlpmbhneffdcfaaDoor
