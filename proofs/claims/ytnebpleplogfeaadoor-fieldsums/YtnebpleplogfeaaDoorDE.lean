/-
  The contracts of the document's own roots, ratios and rests of layer 4. Conditions: as each theorem says.
-/
import Derived.Test.YtnebpleplogfeaaDoorDC
namespace Go.Proofs.YtnebpleplogfeaaDoor
open Go.RowKit
set_option linter.unusedVariables false

/-- The document's first try at a root, and its second. -/
def rt1 (a : Nat) : Nat := a ^ ((P25 + 3) / 8) % P25
def rt2 (a : Nat) : Nat := rt1 a * I25 % P25
def rootOk (a : Nat) : Bool := if rt1 a * rt1 a % P25 = a then true else if rt2 a * rt2 a % P25 = a then true else false
def rootN (a : Nat) : Nat := if rt1 a * rt1 a % P25 = a then evn (rt1 a) else if rt2 a * rt2 a % P25 = a then evn (rt2 a) else 0
def ratOk (u v : Nat) : Bool := if v = 0 ∧ 0 < u then false else rootOk (u * (v ^ (P25 - 2) % P25) % P25)
def ratN (u v : Nat) : Nat := if v = 0 ∧ 0 < u then 0 else rootN (u * (v ^ (P25 - 2) % P25) % P25)
theorem rt1_lt (a : Nat) : rt1 a < P25 := Nat.mod_lt _ (by decide +kernel)
theorem rt2_lt (a : Nat) : rt2 a < P25 := Nat.mod_lt _ (by decide +kernel)
theorem num_len0 {w : World} {v : Value} {N : Nat} (h : Num w v N) : ∀ a n c, v = .slice a n c → (N = 0 ↔ n = 0) := by
  intro a n c e
  subst e
  obtain ⟨l, ⟨a', cap, e, -, -, -⟩, h2, h3, h4⟩ := h
  simp only [Value.slice.injEq] at e
  obtain ⟨-, rfl, -⟩ := e
  rcases h3 with rfl | h3
  · simp [valD] at h4; simp [← h4]
  · constructor
    · intro h0
      subst h0
      rcases Nat.eq_zero_or_pos l.length with hl | hl
      · exact hl
      · exfalso
        have e1 := valD_take l (l.length - 1)
        rw [show l.length - 1 + 1 = l.length by omega, List.take_length, h4] at e1
        have : 0 < 16777216 ^ (l.length - 1) * l.getD (l.length - 1) 0 := Nat.mul_pos (Nat.pow_pos (by omega)) (by omega)
        omega
    · intro hl
      have : l = [] := List.length_eq_zero_iff.1 hl
      subst this
      simpa [valD] using h4.symm
theorem ord_zero (a b : Nat) : ord (a : Int) (b : Int) = 0 ↔ a = b := by unfold ord; split <;> (try split) <;> omega
theorem I25_pow' : 2 ^ ((P25 - 1) / 2 ^ 2) % P25 = I25 := by rw [show (2 : Nat) ^ 2 = 4 from rfl]; exact I25_pow
theorem down3 : (P25 + 3) / 2 ^ 3 = (P25 + 3) / 8 := rfl

set_option maxRecDepth 100000 in
set_option maxHeartbeats 2000000 in
theorem rootD_num (A : Nat) (va : Value) (w : World) (hA : Num w va A) (hb : A < P25) :
    Calls Tryd.prog 55 #[va] w fun e w' => ∃ v, e = .returned (.tuple #[v, .bool (rootOk A)]) ∧ Num w' v (rootN A) ∧ Below w.heap.size w w' := by
  obtain ⟨Aa, Ac, Ad, rfl⟩ := hA.shape
  have A_0 : Hid (Num w (.slice Aa Ac Ad) (A)) := hA
  clear hA
  have b1 : Hid (A < P25) := hb
  have b2 : Hid (A < 16777216 ^ 11) := Nat.lt_trans hb P25_lt11
  have C1 : Hid (∀ v w, Num w v (P25 + 3) → Calls Tryd.prog 65 #[v, .int .i64 3] w fun e w' => ∃ v, e = .returned v ∧ Num w' v ((P25 + 3) / 8) ∧ Below w.heap.size w w') := by
    intro v w h; have := down_num (P25 + 3) v 3 w h 22 (by decide +kernel) (by omega) (by omega); rwa [down3] at this
  have C2 : Hid (∀ v w, Num w (.slice Aa Ac Ad) A → Num w v ((P25 + 3) / 8) → Calls Tryd.prog 52 #[.slice Aa Ac Ad, v] w fun e w' => ∃ v, e = .returned v ∧ Num w' v (rt1 A) ∧ Below w.heap.size w w') := fun v w h h' => expD_num4 A _ _ v w h h' b2.out (by decide +kernel)
  have C3 : Hid (∀ v w, Num w v (rt1 A) → Calls Tryd.prog 18 #[v, v] w fun e w' => ∃ v, e = .returned v ∧ Num w' v (rt1 A * rt1 A % P25) ∧ Below w.heap.size w w') := fun v w h => mulD_num _ _ v v w h h (Nat.lt_trans (rt1_lt A) P25_lt11) (Nat.lt_trans (rt1_lt A) P25_lt11)
  have C4 : Hid (∀ N v w, N < P25 → Num w v N → Num w (.slice Aa Ac Ad) A → Calls Tryd.prog 29 #[v, .slice Aa Ac Ad] w fun e w' => e = .returned (.int .i64 (ord (N : Int) (A : Int))) ∧ Below w.heap.size w w') := fun N v w hN h h' => cmp_num N A v _ w h h' 22 (Nat.lt_trans hN P25_lt22) (Nat.lt_trans b1.out P25_lt22) (by omega)
  have C5 : Hid (∀ N v w, N < P25 → Num w v N → Calls Tryd.prog 70 #[v] w fun e w' => ∃ v, e = .returned v ∧ Num w' v (evn N) ∧ Below w.heap.size w w') := fun N v w hN h => evenD_num N v w h hN
  have C6 : Hid (∀ v w, Num w v (P25 - 1) → Calls Tryd.prog 65 #[v, .int .i64 2] w fun e w' => ∃ v, e = .returned v ∧ Num w' v ((P25 - 1) / 2 ^ 2) ∧ Below w.heap.size w w') := fun v w h => down_num (P25 - 1) v 2 w h 22 (by decide +kernel) (by omega) (by omega)
  have C7 : Hid (∀ u v w, Num w u 2 → Num w v ((P25 - 1) / 2 ^ 2) → Calls Tryd.prog 52 #[u, v] w fun e w' => ∃ v, e = .returned v ∧ Num w' v I25 ∧ Below w.heap.size w w') := by
    intro u v w h h'; have := expD_num4 2 _ u v w h h' (by decide +kernel) (by decide +kernel); rwa [I25_pow'] at this
  have C8 : Hid (∀ u v w, Num w u (rt1 A) → Num w v I25 → Calls Tryd.prog 18 #[u, v] w fun e w' => ∃ v, e = .returned v ∧ Num w' v (rt2 A) ∧ Below w.heap.size w w') := fun u v w h h' => mulD_num _ _ u v w h h' (Nat.lt_trans (rt1_lt A) P25_lt11) (by decide +kernel)
  have C9 : Hid (∀ v w, Num w v (rt2 A) → Calls Tryd.prog 18 #[v, v] w fun e w' => ∃ v, e = .returned v ∧ Num w' v (rt2 A * rt2 A % P25) ∧ Below w.heap.size w w') := fun v w h => mulD_num _ _ v v w h h (Nat.lt_trans (rt2_lt A) P25_lt11) (Nat.lt_trans (rt2_lt A) P25_lt11)
  have m1 : Hid (rt1 A * rt1 A % P25 < P25) := Nat.mod_lt _ (by decide +kernel)
  have m2 : Hid (rt2 A * rt2 A % P25 < P25) := Nat.mod_lt _ (by decide +kernel)
  have m3 : Hid (rt1 A < P25) := rt1_lt A
  have m4 : Hid (rt2 A < P25) := rt2_lt A
  have z1 := ord_zero (rt1 A * rt1 A % P25) A
  have z2 := ord_zero (rt2 A * rt2 A % P25) A
  unfold rootOk rootN
  generalize rt1 A * rt1 A % P25 = X1 at *
  generalize rt2 A * rt2 A % P25 = X2 at *
  generalize rt1 A = r1 at *
  generalize rt2 A = r2 at *
  have C41 := C4.out X1
  have C42 := C4.out X2
  obtain ⟨o1, ho1⟩ : ∃ o : Int, ord (X1 : Int) (A : Int) = o := ⟨_, rfl⟩
  obtain ⟨o2, ho2⟩ : ∃ o : Int, ord (X2 : Int) (A : Int) = o := ⟨_, rfl⟩
  rw [ho1] at C41 z1
  rw [ho2] at C42 z2
  have D1 : Hid (∀ v w, X1 < P25 → Num w v X1 → Num w (.slice Aa Ac Ad) A → Calls Tryd.prog 29 #[v, .slice Aa Ac Ad] w fun e w' => e = .returned (.int .i64 o1) ∧ Below w.heap.size w w') := C41
  have D2 : Hid (∀ v w, X2 < P25 → Num w v X2 → Num w (.slice Aa Ac Ad) A → Calls Tryd.prog 29 #[v, .slice Aa Ac Ad] w fun e w' => e = .returned (.int .i64 o2) ∧ Below w.heap.size w w') := C42
  clear C41 C42 C4 ho1 ho2 hb
  by_cases h1 : X1 = A
  · rw [if_pos h1, if_pos h1]
    have o0 : o1 = 0 := z1.2 h1
    rw [o0] at D1
    clear z1 z2 h1 o0 C6 C7 C8 C9 D2 m2 m4
    go_enter Tryd.func55, Tryd.ntmps55
    go_wp2_with fail
    refine (pD_num _).mono ?_
    rintro e w1 ⟨v, rfl, hn, g⟩
    obtain ⟨Pa, Pc, Pd, rfl⟩ := hn.shape
    have P_1 : Hid (Num w1 (.slice Pa Pc Pd) (P25)) := hn
    have A_1 : Hid (Num w1 (.slice Aa Ac Ad) (A)) := A_0.out.below g
    have G_1 : Hid (Below w.heap.size w w1) := g
    clear A_0 hn g
    go_wp2_with fail
    refine calls_at (fun V => Num V (.slice Aa Ac Ad) (A) ∧ Num V (.slice Pa Pc Pd) (P25) ∧ Num V (.slice (some ⟨w1.heap.size, 0, none⟩) 1 1) 3 ∧ Below w.heap.size w V) ⟨A_1.out.below ((Below.refl _ _).alloc (Nat.le_refl _) _), P_1.out.below ((Below.refl _ _).alloc (Nat.le_refl _) _), num_lit w1 3 (by omega) (by omega), G_1.out.alloc G_1.out.size _⟩ ?_
    rintro w2 ⟨k0, k1, k2, hG⟩
    have A_2 : Hid (Num w2 (.slice Aa Ac Ad) (A)) := k0
    have P_2 : Hid (Num w2 (.slice Pa Pc Pd) (P25)) := k1
    have L_2 : Hid (Num w2 (.slice (some ⟨w1.heap.size, 0, none⟩) 1 1) 3) := k2
    have G_2 : Hid (Below w.heap.size w w2) := hG
    clear A_1 P_1 G_1 hG k0 k1 k2
    refine (add_num P25 3 _ _ _ P_2.out L_2.out 11 P25_lt11 (by decide +kernel) (by omega)).mono ?_
    rintro e w3 ⟨v, rfl, hn, g⟩
    obtain ⟨Sa, Sc, Sd, rfl⟩ := hn.shape
    have S_3 : Hid (Num w3 (.slice Sa Sc Sd) (P25 + 3)) := hn
    have A_3 : Hid (Num w3 (.slice Aa Ac Ad) (A)) := A_2.out.below g
    have P_3 : Hid (Num w3 (.slice Pa Pc Pd) (P25)) := P_2.out.below g
    have G_3 : Hid (Below w.heap.size w w3) := G_2.out.trans (g.mono G_2.out.size)
    clear A_2 P_2 L_2 G_2 hn g
    go_wp2_with fail
    refine (C1.out _ _ S_3.out).mono ?_
    rintro e w4 ⟨v, rfl, hn, g⟩
    obtain ⟨Qa, Qc, Qd, rfl⟩ := hn.shape
    have Q_4 : Hid (Num w4 (.slice Qa Qc Qd) ((P25 + 3) / 8)) := hn
    have A_4 : Hid (Num w4 (.slice Aa Ac Ad) (A)) := A_3.out.below g
    have P_4 : Hid (Num w4 (.slice Pa Pc Pd) (P25)) := P_3.out.below g
    have G_4 : Hid (Below w.heap.size w w4) := G_3.out.trans (g.mono G_3.out.size)
    clear A_3 P_3 S_3 G_3 hn g
    go_wp2_with fail
    refine (C2.out _ _ A_4.out Q_4.out).mono ?_
    rintro e w5 ⟨v, rfl, hn, g⟩
    obtain ⟨Xa, Xc, Xd, rfl⟩ := hn.shape
    have X_5 : Hid (Num w5 (.slice Xa Xc Xd) (r1)) := hn
    have A_5 : Hid (Num w5 (.slice Aa Ac Ad) (A)) := A_4.out.below g
    have P_5 : Hid (Num w5 (.slice Pa Pc Pd) (P25)) := P_4.out.below g
    have G_5 : Hid (Below w.heap.size w w5) := G_4.out.trans (g.mono G_4.out.size)
    clear A_4 P_4 Q_4 G_4 hn g
    go_wp2_with fail
    refine (C3.out _ _ X_5.out).mono ?_
    rintro e w6 ⟨v, rfl, hn, g⟩
    obtain ⟨Ya, Yc, Yd, rfl⟩ := hn.shape
    have Y_6 : Hid (Num w6 (.slice Ya Yc Yd) (X1)) := hn
    have A_6 : Hid (Num w6 (.slice Aa Ac Ad) (A)) := A_5.out.below g
    have P_6 : Hid (Num w6 (.slice Pa Pc Pd) (P25)) := P_5.out.below g
    have X_6 : Hid (Num w6 (.slice Xa Xc Xd) (r1)) := X_5.out.below g
    have G_6 : Hid (Below w.heap.size w w6) := G_5.out.trans (g.mono G_5.out.size)
    clear A_5 P_5 X_5 G_5 hn g
    go_wp2_with fail
    refine (D1.out _ _ m1.out Y_6.out A_6.out).mono ?_
    rintro e w7 ⟨rfl, g⟩
    have A_7 : Hid (Num w7 (.slice Aa Ac Ad) (A)) := A_6.out.below g
    have P_7 : Hid (Num w7 (.slice Pa Pc Pd) (P25)) := P_6.out.below g
    have X_7 : Hid (Num w7 (.slice Xa Xc Xd) (r1)) := X_6.out.below g
    have G_7 : Hid (Below w.heap.size w w7) := G_6.out.trans (g.mono G_6.out.size)
    clear A_6 P_6 X_6 Y_6 G_6 g
    go_wp2_with fail
    refine (C5.out _ _ _ m3.out X_7.out).mono ?_
    rintro e w8 ⟨v, rfl, hn, g⟩
    obtain ⟨Ea, Ec, Ed, rfl⟩ := hn.shape
    have E_8 : Hid (Num w8 (.slice Ea Ec Ed) (evn r1)) := hn
    have A_8 : Hid (Num w8 (.slice Aa Ac Ad) (A)) := A_7.out.below g
    have P_8 : Hid (Num w8 (.slice Pa Pc Pd) (P25)) := P_7.out.below g
    have X_8 : Hid (Num w8 (.slice Xa Xc Xd) (r1)) := X_7.out.below g
    have G_8 : Hid (Below w.heap.size w w8) := G_7.out.trans (g.mono G_7.out.size)
    clear A_7 P_7 X_7 G_7 hn g
    go_wp2_with fail
    refine bodyPost_ret (results_tmp2 rfl _ _ _) rfl ?_
    exact ⟨_, rfl, E_8.out, G_8.out⟩
  · rw [if_neg h1, if_neg h1]
    have o0 : o1 ≠ 0 := fun h => h1 (z1.1 h)
    have o9 : o1 = 0 ↔ False := ⟨o0, False.elim⟩
    by_cases h2 : X2 = A
    · rw [if_pos h2, if_pos h2]
      have o5 : o2 = 0 := z2.2 h2
      rw [o5] at D2
      clear z1 z2 h1 h2 o5 o9
      go_enter Tryd.func55, Tryd.ntmps55
      go_wp2_with fail
      refine (pD_num _).mono ?_
      rintro e w1 ⟨v, rfl, hn, g⟩
      obtain ⟨Pa, Pc, Pd, rfl⟩ := hn.shape
      have P_1 : Hid (Num w1 (.slice Pa Pc Pd) (P25)) := hn
      have A_1 : Hid (Num w1 (.slice Aa Ac Ad) (A)) := A_0.out.below g
      have G_1 : Hid (Below w.heap.size w w1) := g
      clear A_0 hn g
      go_wp2_with fail
      refine calls_at (fun V => Num V (.slice Aa Ac Ad) (A) ∧ Num V (.slice Pa Pc Pd) (P25) ∧ Num V (.slice (some ⟨w1.heap.size, 0, none⟩) 1 1) 3 ∧ Below w.heap.size w V) ⟨A_1.out.below ((Below.refl _ _).alloc (Nat.le_refl _) _), P_1.out.below ((Below.refl _ _).alloc (Nat.le_refl _) _), num_lit w1 3 (by omega) (by omega), G_1.out.alloc G_1.out.size _⟩ ?_
      rintro w2 ⟨k0, k1, k2, hG⟩
      have A_2 : Hid (Num w2 (.slice Aa Ac Ad) (A)) := k0
      have P_2 : Hid (Num w2 (.slice Pa Pc Pd) (P25)) := k1
      have L_2 : Hid (Num w2 (.slice (some ⟨w1.heap.size, 0, none⟩) 1 1) 3) := k2
      have G_2 : Hid (Below w.heap.size w w2) := hG
      clear A_1 P_1 G_1 hG k0 k1 k2
      refine (add_num P25 3 _ _ _ P_2.out L_2.out 11 P25_lt11 (by decide +kernel) (by omega)).mono ?_
      rintro e w3 ⟨v, rfl, hn, g⟩
      obtain ⟨Sa, Sc, Sd, rfl⟩ := hn.shape
      have S_3 : Hid (Num w3 (.slice Sa Sc Sd) (P25 + 3)) := hn
      have A_3 : Hid (Num w3 (.slice Aa Ac Ad) (A)) := A_2.out.below g
      have P_3 : Hid (Num w3 (.slice Pa Pc Pd) (P25)) := P_2.out.below g
      have G_3 : Hid (Below w.heap.size w w3) := G_2.out.trans (g.mono G_2.out.size)
      clear A_2 P_2 L_2 G_2 hn g
      go_wp2_with fail
      refine (C1.out _ _ S_3.out).mono ?_
      rintro e w4 ⟨v, rfl, hn, g⟩
      obtain ⟨Qa, Qc, Qd, rfl⟩ := hn.shape
      have Q_4 : Hid (Num w4 (.slice Qa Qc Qd) ((P25 + 3) / 8)) := hn
      have A_4 : Hid (Num w4 (.slice Aa Ac Ad) (A)) := A_3.out.below g
      have P_4 : Hid (Num w4 (.slice Pa Pc Pd) (P25)) := P_3.out.below g
      have G_4 : Hid (Below w.heap.size w w4) := G_3.out.trans (g.mono G_3.out.size)
      clear A_3 P_3 S_3 G_3 hn g
      go_wp2_with fail
      refine (C2.out _ _ A_4.out Q_4.out).mono ?_
      rintro e w5 ⟨v, rfl, hn, g⟩
      obtain ⟨Xa, Xc, Xd, rfl⟩ := hn.shape
      have X_5 : Hid (Num w5 (.slice Xa Xc Xd) (r1)) := hn
      have A_5 : Hid (Num w5 (.slice Aa Ac Ad) (A)) := A_4.out.below g
      have P_5 : Hid (Num w5 (.slice Pa Pc Pd) (P25)) := P_4.out.below g
      have G_5 : Hid (Below w.heap.size w w5) := G_4.out.trans (g.mono G_4.out.size)
      clear A_4 P_4 Q_4 G_4 hn g
      go_wp2_with fail
      refine (C3.out _ _ X_5.out).mono ?_
      rintro e w6 ⟨v, rfl, hn, g⟩
      obtain ⟨Ya, Yc, Yd, rfl⟩ := hn.shape
      have Y_6 : Hid (Num w6 (.slice Ya Yc Yd) (X1)) := hn
      have A_6 : Hid (Num w6 (.slice Aa Ac Ad) (A)) := A_5.out.below g
      have P_6 : Hid (Num w6 (.slice Pa Pc Pd) (P25)) := P_5.out.below g
      have X_6 : Hid (Num w6 (.slice Xa Xc Xd) (r1)) := X_5.out.below g
      have G_6 : Hid (Below w.heap.size w w6) := G_5.out.trans (g.mono G_5.out.size)
      clear A_5 P_5 X_5 G_5 hn g
      go_wp2_with fail
      refine (D1.out _ _ m1.out Y_6.out A_6.out).mono ?_
      rintro e w7 ⟨rfl, g⟩
      have A_7 : Hid (Num w7 (.slice Aa Ac Ad) (A)) := A_6.out.below g
      have P_7 : Hid (Num w7 (.slice Pa Pc Pd) (P25)) := P_6.out.below g
      have X_7 : Hid (Num w7 (.slice Xa Xc Xd) (r1)) := X_6.out.below g
      have G_7 : Hid (Below w.heap.size w w7) := G_6.out.trans (g.mono G_6.out.size)
      clear A_6 P_6 X_6 Y_6 G_6 g
      go_wp2_with fail
      have lit2 : Num ((w7.alloc (.cells #[.int .i64 2] 3)).alloc (.cells #[.int .i64 1] 3)) (.slice (some ⟨w7.heap.size + 1, 0, none⟩) 1 1) 1 := by have := num_lit (w7.alloc (.cells #[.int .i64 2] 3)) 1 (by omega) (by omega); simpa using this
      refine calls_at (fun V => Num V (.slice Aa Ac Ad) (A) ∧ Num V (.slice Pa Pc Pd) (P25) ∧ Num V (.slice Xa Xc Xd) (r1) ∧ Num V (.slice (some ⟨w7.heap.size, 0, none⟩) 1 1) 2 ∧ Num V (.slice (some ⟨w7.heap.size + 1, 0, none⟩) 1 1) 1 ∧ Below w.heap.size w V) ⟨A_7.out.below (((Below.refl _ _).alloc (Nat.le_refl _) _).alloc (by simp) _), P_7.out.below (((Below.refl _ _).alloc (Nat.le_refl _) _).alloc (by simp) _), X_7.out.below (((Below.refl _ _).alloc (Nat.le_refl _) _).alloc (by simp) _), (num_lit w7 2 (by omega) (by omega)).below ((Below.refl _ _).alloc (Nat.le_refl _) _), lit2, (G_7.out.alloc G_7.out.size _).alloc (by simp; have := G_7.out.size; omega) _⟩ ?_
      rintro w8 ⟨k0, k1, k2, k3, k4, hG⟩
      have A_8 : Hid (Num w8 (.slice Aa Ac Ad) (A)) := k0
      have P_8 : Hid (Num w8 (.slice Pa Pc Pd) (P25)) := k1
      have X_8 : Hid (Num w8 (.slice Xa Xc Xd) (r1)) := k2
      have L_8 : Hid (Num w8 (.slice (some ⟨w7.heap.size, 0, none⟩) 1 1) 2) := k3
      have M_8 : Hid (Num w8 (.slice (some ⟨w7.heap.size + 1, 0, none⟩) 1 1) 1) := k4
      have G_8 : Hid (Below w.heap.size w w8) := hG
      clear A_7 P_7 X_7 G_7 lit2 hG k0 k1 k2 k3 k4
      refine (sub_num P25 1 _ _ _ P_8.out M_8.out 22 P25_lt22 (by omega) (by decide +kernel)).mono ?_
      rintro e w9 ⟨v, rfl, hn, g⟩
      obtain ⟨Sa, Sc, Sd, rfl⟩ := hn.shape
      have S_9 : Hid (Num w9 (.slice Sa Sc Sd) (P25 - 1)) := hn
      have A_9 : Hid (Num w9 (.slice Aa Ac Ad) (A)) := A_8.out.below g
      have X_9 : Hid (Num w9 (.slice Xa Xc Xd) (r1)) := X_8.out.below g
      have L_9 : Hid (Num w9 (.slice (some ⟨w7.heap.size, 0, none⟩) 1 1) 2) := L_8.out.below g
      have G_9 : Hid (Below w.heap.size w w9) := G_8.out.trans (g.mono G_8.out.size)
      clear A_8 P_8 X_8 L_8 M_8 G_8 hn g
      go_wp2_with fail
      refine (C6.out _ _ S_9.out).mono ?_
      rintro e w10 ⟨v, rfl, hn, g⟩
      obtain ⟨Qa, Qc, Qd, rfl⟩ := hn.shape
      have Q_10 : Hid (Num w10 (.slice Qa Qc Qd) ((P25 - 1) / 2 ^ 2)) := hn
      have A_10 : Hid (Num w10 (.slice Aa Ac Ad) (A)) := A_9.out.below g
      have X_10 : Hid (Num w10 (.slice Xa Xc Xd) (r1)) := X_9.out.below g
      have L_10 : Hid (Num w10 (.slice (some ⟨w7.heap.size, 0, none⟩) 1 1) 2) := L_9.out.below g
      have G_10 : Hid (Below w.heap.size w w10) := G_9.out.trans (g.mono G_9.out.size)
      clear A_9 X_9 L_9 S_9 G_9 hn g
      go_wp2_with fail
      refine (C7.out _ _ _ L_10.out Q_10.out).mono ?_
      rintro e w11 ⟨v, rfl, hn, g⟩
      obtain ⟨Ia, Ic, Id, rfl⟩ := hn.shape
      have I_11 : Hid (Num w11 (.slice Ia Ic Id) (I25)) := hn
      have A_11 : Hid (Num w11 (.slice Aa Ac Ad) (A)) := A_10.out.below g
      have X_11 : Hid (Num w11 (.slice Xa Xc Xd) (r1)) := X_10.out.below g
      have G_11 : Hid (Below w.heap.size w w11) := G_10.out.trans (g.mono G_10.out.size)
      clear A_10 X_10 L_10 Q_10 G_10 hn g
      go_wp2_with fail
      refine (C8.out _ _ _ X_11.out I_11.out).mono ?_
      rintro e w12 ⟨v, rfl, hn, g⟩
      obtain ⟨Za, Zc, Zd, rfl⟩ := hn.shape
      have Z_12 : Hid (Num w12 (.slice Za Zc Zd) (r2)) := hn
      have A_12 : Hid (Num w12 (.slice Aa Ac Ad) (A)) := A_11.out.below g
      have G_12 : Hid (Below w.heap.size w w12) := G_11.out.trans (g.mono G_11.out.size)
      clear A_11 X_11 I_11 G_11 hn g
      go_wp2_with fail
      refine (C9.out _ _ Z_12.out).mono ?_
      rintro e w13 ⟨v, rfl, hn, g⟩
      obtain ⟨Ya, Yc, Yd, rfl⟩ := hn.shape
      have Y_13 : Hid (Num w13 (.slice Ya Yc Yd) (X2)) := hn
      have A_13 : Hid (Num w13 (.slice Aa Ac Ad) (A)) := A_12.out.below g
      have Z_13 : Hid (Num w13 (.slice Za Zc Zd) (r2)) := Z_12.out.below g
      have G_13 : Hid (Below w.heap.size w w13) := G_12.out.trans (g.mono G_12.out.size)
      clear A_12 Z_12 G_12 hn g
      go_wp2_with fail
      refine (D2.out _ _ m2.out Y_13.out A_13.out).mono ?_
      rintro e w14 ⟨rfl, g⟩
      have A_14 : Hid (Num w14 (.slice Aa Ac Ad) (A)) := A_13.out.below g
      have Z_14 : Hid (Num w14 (.slice Za Zc Zd) (r2)) := Z_13.out.below g
      have G_14 : Hid (Below w.heap.size w w14) := G_13.out.trans (g.mono G_13.out.size)
      clear A_13 Z_13 Y_13 G_13 g
      go_wp2_with fail
      refine (C5.out _ _ _ m4.out Z_14.out).mono ?_
      rintro e w15 ⟨v, rfl, hn, g⟩
      obtain ⟨Ea, Ec, Ed, rfl⟩ := hn.shape
      have E_15 : Hid (Num w15 (.slice Ea Ec Ed) (evn r2)) := hn
      have A_15 : Hid (Num w15 (.slice Aa Ac Ad) (A)) := A_14.out.below g
      have Z_15 : Hid (Num w15 (.slice Za Zc Zd) (r2)) := Z_14.out.below g
      have G_15 : Hid (Below w.heap.size w w15) := G_14.out.trans (g.mono G_14.out.size)
      clear A_14 Z_14 G_14 hn g
      go_wp2_with fail
      refine bodyPost_ret (results_tmp2 rfl _ _ _) rfl ?_
      exact ⟨_, rfl, E_15.out, G_15.out⟩
    · rw [if_neg h2, if_neg h2]
      have o5 : o2 ≠ 0 := fun h => h2 (z2.1 h)
      clear z1 z2 h1 h2 o9
      go_enter Tryd.func55, Tryd.ntmps55
      go_wp2_with fail
      refine (pD_num _).mono ?_
      rintro e w1 ⟨v, rfl, hn, g⟩
      obtain ⟨Pa, Pc, Pd, rfl⟩ := hn.shape
      have P_1 : Hid (Num w1 (.slice Pa Pc Pd) (P25)) := hn
      have A_1 : Hid (Num w1 (.slice Aa Ac Ad) (A)) := A_0.out.below g
      have G_1 : Hid (Below w.heap.size w w1) := g
      clear A_0 hn g
      go_wp2_with fail
      refine calls_at (fun V => Num V (.slice Aa Ac Ad) (A) ∧ Num V (.slice Pa Pc Pd) (P25) ∧ Num V (.slice (some ⟨w1.heap.size, 0, none⟩) 1 1) 3 ∧ Below w.heap.size w V) ⟨A_1.out.below ((Below.refl _ _).alloc (Nat.le_refl _) _), P_1.out.below ((Below.refl _ _).alloc (Nat.le_refl _) _), num_lit w1 3 (by omega) (by omega), G_1.out.alloc G_1.out.size _⟩ ?_
      rintro w2 ⟨k0, k1, k2, hG⟩
      have A_2 : Hid (Num w2 (.slice Aa Ac Ad) (A)) := k0
      have P_2 : Hid (Num w2 (.slice Pa Pc Pd) (P25)) := k1
      have L_2 : Hid (Num w2 (.slice (some ⟨w1.heap.size, 0, none⟩) 1 1) 3) := k2
      have G_2 : Hid (Below w.heap.size w w2) := hG
      clear A_1 P_1 G_1 hG k0 k1 k2
      refine (add_num P25 3 _ _ _ P_2.out L_2.out 11 P25_lt11 (by decide +kernel) (by omega)).mono ?_
      rintro e w3 ⟨v, rfl, hn, g⟩
      obtain ⟨Sa, Sc, Sd, rfl⟩ := hn.shape
      have S_3 : Hid (Num w3 (.slice Sa Sc Sd) (P25 + 3)) := hn
      have A_3 : Hid (Num w3 (.slice Aa Ac Ad) (A)) := A_2.out.below g
      have P_3 : Hid (Num w3 (.slice Pa Pc Pd) (P25)) := P_2.out.below g
      have G_3 : Hid (Below w.heap.size w w3) := G_2.out.trans (g.mono G_2.out.size)
      clear A_2 P_2 L_2 G_2 hn g
      go_wp2_with fail
      refine (C1.out _ _ S_3.out).mono ?_
      rintro e w4 ⟨v, rfl, hn, g⟩
      obtain ⟨Qa, Qc, Qd, rfl⟩ := hn.shape
      have Q_4 : Hid (Num w4 (.slice Qa Qc Qd) ((P25 + 3) / 8)) := hn
      have A_4 : Hid (Num w4 (.slice Aa Ac Ad) (A)) := A_3.out.below g
      have P_4 : Hid (Num w4 (.slice Pa Pc Pd) (P25)) := P_3.out.below g
      have G_4 : Hid (Below w.heap.size w w4) := G_3.out.trans (g.mono G_3.out.size)
      clear A_3 P_3 S_3 G_3 hn g
      go_wp2_with fail
      refine (C2.out _ _ A_4.out Q_4.out).mono ?_
      rintro e w5 ⟨v, rfl, hn, g⟩
      obtain ⟨Xa, Xc, Xd, rfl⟩ := hn.shape
      have X_5 : Hid (Num w5 (.slice Xa Xc Xd) (r1)) := hn
      have A_5 : Hid (Num w5 (.slice Aa Ac Ad) (A)) := A_4.out.below g
      have P_5 : Hid (Num w5 (.slice Pa Pc Pd) (P25)) := P_4.out.below g
      have G_5 : Hid (Below w.heap.size w w5) := G_4.out.trans (g.mono G_4.out.size)
      clear A_4 P_4 Q_4 G_4 hn g
      go_wp2_with fail
      refine (C3.out _ _ X_5.out).mono ?_
      rintro e w6 ⟨v, rfl, hn, g⟩
      obtain ⟨Ya, Yc, Yd, rfl⟩ := hn.shape
      have Y_6 : Hid (Num w6 (.slice Ya Yc Yd) (X1)) := hn
      have A_6 : Hid (Num w6 (.slice Aa Ac Ad) (A)) := A_5.out.below g
      have P_6 : Hid (Num w6 (.slice Pa Pc Pd) (P25)) := P_5.out.below g
      have X_6 : Hid (Num w6 (.slice Xa Xc Xd) (r1)) := X_5.out.below g
      have G_6 : Hid (Below w.heap.size w w6) := G_5.out.trans (g.mono G_5.out.size)
      clear A_5 P_5 X_5 G_5 hn g
      go_wp2_with fail
      refine (D1.out _ _ m1.out Y_6.out A_6.out).mono ?_
      rintro e w7 ⟨rfl, g⟩
      have A_7 : Hid (Num w7 (.slice Aa Ac Ad) (A)) := A_6.out.below g
      have P_7 : Hid (Num w7 (.slice Pa Pc Pd) (P25)) := P_6.out.below g
      have X_7 : Hid (Num w7 (.slice Xa Xc Xd) (r1)) := X_6.out.below g
      have G_7 : Hid (Below w.heap.size w w7) := G_6.out.trans (g.mono G_6.out.size)
      clear A_6 P_6 X_6 Y_6 G_6 g
      go_wp2_with fail
      have lit2 : Num ((w7.alloc (.cells #[.int .i64 2] 3)).alloc (.cells #[.int .i64 1] 3)) (.slice (some ⟨w7.heap.size + 1, 0, none⟩) 1 1) 1 := by have := num_lit (w7.alloc (.cells #[.int .i64 2] 3)) 1 (by omega) (by omega); simpa using this
      refine calls_at (fun V => Num V (.slice Aa Ac Ad) (A) ∧ Num V (.slice Pa Pc Pd) (P25) ∧ Num V (.slice Xa Xc Xd) (r1) ∧ Num V (.slice (some ⟨w7.heap.size, 0, none⟩) 1 1) 2 ∧ Num V (.slice (some ⟨w7.heap.size + 1, 0, none⟩) 1 1) 1 ∧ Below w.heap.size w V) ⟨A_7.out.below (((Below.refl _ _).alloc (Nat.le_refl _) _).alloc (by simp) _), P_7.out.below (((Below.refl _ _).alloc (Nat.le_refl _) _).alloc (by simp) _), X_7.out.below (((Below.refl _ _).alloc (Nat.le_refl _) _).alloc (by simp) _), (num_lit w7 2 (by omega) (by omega)).below ((Below.refl _ _).alloc (Nat.le_refl _) _), lit2, (G_7.out.alloc G_7.out.size _).alloc (by simp; have := G_7.out.size; omega) _⟩ ?_
      rintro w8 ⟨k0, k1, k2, k3, k4, hG⟩
      have A_8 : Hid (Num w8 (.slice Aa Ac Ad) (A)) := k0
      have P_8 : Hid (Num w8 (.slice Pa Pc Pd) (P25)) := k1
      have X_8 : Hid (Num w8 (.slice Xa Xc Xd) (r1)) := k2
      have L_8 : Hid (Num w8 (.slice (some ⟨w7.heap.size, 0, none⟩) 1 1) 2) := k3
      have M_8 : Hid (Num w8 (.slice (some ⟨w7.heap.size + 1, 0, none⟩) 1 1) 1) := k4
      have G_8 : Hid (Below w.heap.size w w8) := hG
      clear A_7 P_7 X_7 G_7 lit2 hG k0 k1 k2 k3 k4
      refine (sub_num P25 1 _ _ _ P_8.out M_8.out 22 P25_lt22 (by omega) (by decide +kernel)).mono ?_
      rintro e w9 ⟨v, rfl, hn, g⟩
      obtain ⟨Sa, Sc, Sd, rfl⟩ := hn.shape
      have S_9 : Hid (Num w9 (.slice Sa Sc Sd) (P25 - 1)) := hn
      have A_9 : Hid (Num w9 (.slice Aa Ac Ad) (A)) := A_8.out.below g
      have X_9 : Hid (Num w9 (.slice Xa Xc Xd) (r1)) := X_8.out.below g
      have L_9 : Hid (Num w9 (.slice (some ⟨w7.heap.size, 0, none⟩) 1 1) 2) := L_8.out.below g
      have G_9 : Hid (Below w.heap.size w w9) := G_8.out.trans (g.mono G_8.out.size)
      clear A_8 P_8 X_8 L_8 M_8 G_8 hn g
      go_wp2_with fail
      refine (C6.out _ _ S_9.out).mono ?_
      rintro e w10 ⟨v, rfl, hn, g⟩
      obtain ⟨Qa, Qc, Qd, rfl⟩ := hn.shape
      have Q_10 : Hid (Num w10 (.slice Qa Qc Qd) ((P25 - 1) / 2 ^ 2)) := hn
      have A_10 : Hid (Num w10 (.slice Aa Ac Ad) (A)) := A_9.out.below g
      have X_10 : Hid (Num w10 (.slice Xa Xc Xd) (r1)) := X_9.out.below g
      have L_10 : Hid (Num w10 (.slice (some ⟨w7.heap.size, 0, none⟩) 1 1) 2) := L_9.out.below g
      have G_10 : Hid (Below w.heap.size w w10) := G_9.out.trans (g.mono G_9.out.size)
      clear A_9 X_9 L_9 S_9 G_9 hn g
      go_wp2_with fail
      refine (C7.out _ _ _ L_10.out Q_10.out).mono ?_
      rintro e w11 ⟨v, rfl, hn, g⟩
      obtain ⟨Ia, Ic, Id, rfl⟩ := hn.shape
      have I_11 : Hid (Num w11 (.slice Ia Ic Id) (I25)) := hn
      have A_11 : Hid (Num w11 (.slice Aa Ac Ad) (A)) := A_10.out.below g
      have X_11 : Hid (Num w11 (.slice Xa Xc Xd) (r1)) := X_10.out.below g
      have G_11 : Hid (Below w.heap.size w w11) := G_10.out.trans (g.mono G_10.out.size)
      clear A_10 X_10 L_10 Q_10 G_10 hn g
      go_wp2_with fail
      refine (C8.out _ _ _ X_11.out I_11.out).mono ?_
      rintro e w12 ⟨v, rfl, hn, g⟩
      obtain ⟨Za, Zc, Zd, rfl⟩ := hn.shape
      have Z_12 : Hid (Num w12 (.slice Za Zc Zd) (r2)) := hn
      have A_12 : Hid (Num w12 (.slice Aa Ac Ad) (A)) := A_11.out.below g
      have G_12 : Hid (Below w.heap.size w w12) := G_11.out.trans (g.mono G_11.out.size)
      clear A_11 X_11 I_11 G_11 hn g
      go_wp2_with fail
      refine (C9.out _ _ Z_12.out).mono ?_
      rintro e w13 ⟨v, rfl, hn, g⟩
      obtain ⟨Ya, Yc, Yd, rfl⟩ := hn.shape
      have Y_13 : Hid (Num w13 (.slice Ya Yc Yd) (X2)) := hn
      have A_13 : Hid (Num w13 (.slice Aa Ac Ad) (A)) := A_12.out.below g
      have Z_13 : Hid (Num w13 (.slice Za Zc Zd) (r2)) := Z_12.out.below g
      have G_13 : Hid (Below w.heap.size w w13) := G_12.out.trans (g.mono G_12.out.size)
      clear A_12 Z_12 G_12 hn g
      go_wp2_with fail
      refine (D2.out _ _ m2.out Y_13.out A_13.out).mono ?_
      rintro e w14 ⟨rfl, g⟩
      have A_14 : Hid (Num w14 (.slice Aa Ac Ad) (A)) := A_13.out.below g
      have Z_14 : Hid (Num w14 (.slice Za Zc Zd) (r2)) := Z_13.out.below g
      have G_14 : Hid (Below w.heap.size w w14) := G_13.out.trans (g.mono G_13.out.size)
      clear A_13 Z_13 Y_13 G_13 g
      go_wp2_with fail
      refine bodyPost_ret (results_tmp2 rfl _ _ _) rfl ?_
      exact ⟨_, rfl, num_none _, G_14.out⟩

set_option maxRecDepth 100000 in
set_option maxHeartbeats 2000000 in
theorem ratioD_num (U V : Nat) (vu vv : Value) (w : World) (hU : Num w vu U) (hV : Num w vv V) (hu : U < P25) (hv : V < P25) :
    Calls Tryd.prog 25 #[vu, vv] w fun e w' => ∃ v, e = .returned (.tuple #[v, .bool (ratOk U V)]) ∧ Num w' v (ratN U V) ∧ Below w.heap.size w w' := by
  have lu := num_len0 hU
  have lv := num_len0 hV
  obtain ⟨Ua, Uc, Ud, rfl⟩ := hU.shape
  have U_0 : Hid (Num w (.slice Ua Uc Ud) (U)) := hU
  clear hU
  obtain ⟨Va, Vc, Vd, rfl⟩ := hV.shape
  have V_0 : Hid (Num w (.slice Va Vc Vd) (V)) := hV
  clear hV
  have lu := lu _ _ _ rfl
  have lv := lv _ _ _ rfl
  have C1 : Hid (∀ w, Num w (.slice Va Vc Vd) V → Calls Tryd.prog 23 #[.slice Va Vc Vd] w fun e w' => ∃ v, e = .returned v ∧ Num w' v (V ^ (P25 - 2) % P25) ∧ Below w.heap.size w w') := fun w h => invD_num4 V _ w h (Nat.lt_trans hv P25_lt11)
  have C2 : Hid (∀ v w, Num w (.slice Ua Uc Ud) U → Num w v (V ^ (P25 - 2) % P25) → Calls Tryd.prog 18 #[.slice Ua Uc Ud, v] w fun e w' => ∃ v, e = .returned v ∧ Num w' v (U * (V ^ (P25 - 2) % P25) % P25) ∧ Below w.heap.size w w') := fun v w h h' => mulD_num _ _ _ v w h h' (Nat.lt_trans hu P25_lt11) (lt11_of_mod _)
  unfold ratOk ratN
  have m1 : Hid (U * (V ^ (P25 - 2) % P25) % P25 < P25) := Nat.mod_lt _ (by decide +kernel)
  generalize U * (V ^ (P25 - 2) % P25) % P25 = Q at *
  generalize V ^ (P25 - 2) % P25 = I at *
  clear hu hv
  by_cases h : V = 0 ∧ 0 < U
  · rw [if_pos h, if_pos h]
    have c1 : Vc = 0 := lv.1 h.1
    have c2 : (0 : Int) < (Uc : Int) := by have := lu.2; omega
    subst c1
    clear h lu lv C1 C2 m1
    go_enter Tryd.func25, Tryd.ntmps25
    go_wp2_with fail
    refine bodyPost_ret (results_tmp2 rfl _ _ _) rfl ?_
    exact ⟨_, rfl, num_none _, Below.refl _ _⟩
  · rw [if_neg h, if_neg h]
    have c : (Vc : Int) = 0 → ¬ (0 : Int) < (Uc : Int) := by
      intro h1 h2
      exact h ⟨lv.2 (by omega), by have := lu.1; omega⟩
    clear h lu lv
    by_cases c1 : Vc = 0
    · have c2 : ¬ (0 : Int) < (Uc : Int) := c (by omega)
      have c3 : (Vc : Int) = 0 := by omega
      clear c c1
      go_enter Tryd.func25, Tryd.ntmps25
      go_wp2_with fail
      refine (C1.out _ V_0.out).mono ?_
      rintro e w1 ⟨v, rfl, hn, g⟩
      obtain ⟨Ia, Ic, Id, rfl⟩ := hn.shape
      have I_1 : Hid (Num w1 (.slice Ia Ic Id) (I)) := hn
      have U_1 : Hid (Num w1 (.slice Ua Uc Ud) (U)) := U_0.out.below g
      have V_1 : Hid (Num w1 (.slice Va Vc Vd) (V)) := V_0.out.below g
      have G_1 : Hid (Below w.heap.size w w1) := g
      clear U_0 V_0 hn g
      go_wp2_with fail
      refine (C2.out _ _ U_1.out I_1.out).mono ?_
      rintro e w2 ⟨v, rfl, hn, g⟩
      obtain ⟨Qa, Qc, Qd, rfl⟩ := hn.shape
      have Q_2 : Hid (Num w2 (.slice Qa Qc Qd) (Q)) := hn
      have U_2 : Hid (Num w2 (.slice Ua Uc Ud) (U)) := U_1.out.below g
      have V_2 : Hid (Num w2 (.slice Va Vc Vd) (V)) := V_1.out.below g
      have G_2 : Hid (Below w.heap.size w w2) := G_1.out.trans (g.mono G_1.out.size)
      clear U_1 V_1 I_1 G_1 hn g
      go_wp2_with fail
      refine (rootD_num _ _ _ Q_2.out m1.out).mono ?_
      rintro e w3 ⟨v, rfl, hn, g⟩
      obtain ⟨Ea, Ec, Ed, rfl⟩ := hn.shape
      have E_3 : Hid (Num w3 (.slice Ea Ec Ed) (rootN Q)) := hn
      have G_3 : Hid (Below w.heap.size w w3) := G_2.out.trans (g.mono G_2.out.size)
      clear hn g
      go_wp2_with fail
      refine bodyPost_ret (results_tmp2 rfl _ _ _) rfl ?_
      exact ⟨_, rfl, E_3.out, G_3.out⟩
    · have c2 : ¬ (Vc : Int) = 0 := by omega
      clear c c1
      go_enter Tryd.func25, Tryd.ntmps25
      go_wp2_with fail
      refine (C1.out _ V_0.out).mono ?_
      rintro e w1 ⟨v, rfl, hn, g⟩
      obtain ⟨Ia, Ic, Id, rfl⟩ := hn.shape
      have I_1 : Hid (Num w1 (.slice Ia Ic Id) (I)) := hn
      have U_1 : Hid (Num w1 (.slice Ua Uc Ud) (U)) := U_0.out.below g
      have V_1 : Hid (Num w1 (.slice Va Vc Vd) (V)) := V_0.out.below g
      have G_1 : Hid (Below w.heap.size w w1) := g
      clear U_0 V_0 hn g
      go_wp2_with fail
      refine (C2.out _ _ U_1.out I_1.out).mono ?_
      rintro e w2 ⟨v, rfl, hn, g⟩
      obtain ⟨Qa, Qc, Qd, rfl⟩ := hn.shape
      have Q_2 : Hid (Num w2 (.slice Qa Qc Qd) (Q)) := hn
      have U_2 : Hid (Num w2 (.slice Ua Uc Ud) (U)) := U_1.out.below g
      have V_2 : Hid (Num w2 (.slice Va Vc Vd) (V)) := V_1.out.below g
      have G_2 : Hid (Below w.heap.size w w2) := G_1.out.trans (g.mono G_1.out.size)
      clear U_1 V_1 I_1 G_1 hn g
      go_wp2_with fail
      refine (rootD_num _ _ _ Q_2.out m1.out).mono ?_
      rintro e w3 ⟨v, rfl, hn, g⟩
      obtain ⟨Ea, Ec, Ed, rfl⟩ := hn.shape
      have E_3 : Hid (Num w3 (.slice Ea Ec Ed) (rootN Q)) := hn
      have G_3 : Hid (Below w.heap.size w w3) := G_2.out.trans (g.mono G_2.out.size)
      clear hn g
      go_wp2_with fail
      refine bodyPost_ret (results_tmp2 rfl _ _ _) rfl ?_
      exact ⟨_, rfl, E_3.out, G_3.out⟩

set_option maxRecDepth 100000 in
set_option maxHeartbeats 2000000 in
theorem mulM_num (A B C : Nat) (va vb vc : Value) (w : World) (hA : Num w va A) (hB : Num w vb B) (hC : Num w vc C) (h0 : 0 < C) (h1 : A < 16777216 ^ 40) (h2 : B < 16777216 ^ 40) (h3 : C < 16777216 ^ 80) :
    Calls Tryd.prog 60 #[va, vb, vc] w fun e w' => ∃ v, e = .returned v ∧ Num w' v (A * B % C) ∧ Below w.heap.size w w' := by
  obtain ⟨Aa, Ac, Ad, rfl⟩ := hA.shape
  have A_0 : Hid (Num w (.slice Aa Ac Ad) (A)) := hA
  clear hA
  obtain ⟨Ba, Bc, Bd, rfl⟩ := hB.shape
  have B_0 : Hid (Num w (.slice Ba Bc Bd) (B)) := hB
  clear hB
  obtain ⟨Ca, Cc, Cd, rfl⟩ := hC.shape
  have C_0 : Hid (Num w (.slice Ca Cc Cd) (C)) := hC
  clear hC
  have hAB : A * B < 16777216 ^ 80 := by rw [show (80 : Nat) = 40 + 40 from rfl, Nat.pow_add]; exact Nat.mul_lt_mul'' h1 h2
  have K1 : Hid (∀ w, Num w (.slice Aa Ac Ad) A → Num w (.slice Ba Bc Bd) B → Calls Tryd.prog 49 #[.slice Aa Ac Ad, .slice Ba Bc Bd] w fun e w' => ∃ v, e = .returned v ∧ Num w' v (A * B) ∧ Below w.heap.size w w') := fun w h h' => ref_mul_num A B _ _ w h h' 40 h1 h2 (by omega)
  have K2 : Hid (∀ v w, Num w v (A * B) → Num w (.slice Ca Cc Cd) C → Calls Tryd.prog 71 #[v, .slice Ca Cc Cd] w fun e w' => ∃ v, e = .returned v ∧ Num w' v (A * B % C) ∧ Below w.heap.size w w') := fun v w h h' => mod_num (A * B) C v _ w h h' h0 80 hAB h3 (by omega)
  clear hAB h0 h1 h2 h3
  go_enter Tryd.func60, Tryd.ntmps60
  go_wp2_with fail
  refine (K1.out _ A_0.out B_0.out).mono ?_
  rintro e w1 ⟨v, rfl, hn, g⟩
  obtain ⟨Xa, Xc, Xd, rfl⟩ := hn.shape
  have X_1 : Hid (Num w1 (.slice Xa Xc Xd) (A * B)) := hn
  have A_1 : Hid (Num w1 (.slice Aa Ac Ad) (A)) := A_0.out.below g
  have B_1 : Hid (Num w1 (.slice Ba Bc Bd) (B)) := B_0.out.below g
  have C_1 : Hid (Num w1 (.slice Ca Cc Cd) (C)) := C_0.out.below g
  have G_1 : Hid (Below w.heap.size w w1) := g
  clear A_0 B_0 C_0 hn g
  go_wp2_with fail
  refine (K2.out _ _ X_1.out C_1.out).mono ?_
  rintro e w2 ⟨v, rfl, hn, g⟩
  obtain ⟨Ea, Ec, Ed, rfl⟩ := hn.shape
  have E_2 : Hid (Num w2 (.slice Ea Ec Ed) (A * B % C)) := hn
  have A_2 : Hid (Num w2 (.slice Aa Ac Ad) (A)) := A_1.out.below g
  have B_2 : Hid (Num w2 (.slice Ba Bc Bd) (B)) := B_1.out.below g
  have C_2 : Hid (Num w2 (.slice Ca Cc Cd) (C)) := C_1.out.below g
  have X_2 : Hid (Num w2 (.slice Xa Xc Xd) (A * B)) := X_1.out.below g
  have G_2 : Hid (Below w.heap.size w w2) := G_1.out.trans (g.mono G_1.out.size)
  clear A_1 B_1 C_1 X_1 G_1 hn g
  go_wp2_with fail
  go_ret
  exact ⟨_, rfl, E_2.out, G_2.out⟩

set_option maxRecDepth 100000 in
set_option maxHeartbeats 2000000 in
theorem modD_num (A : Nat) (va : Value) (w : World) (hA : Num w va A) (h1 : A < 16777216 ^ 40) :
    Calls Tryd.prog 35 #[va] w fun e w' => ∃ v, e = .returned v ∧ Num w' v (A % P25) ∧ Below w.heap.size w w' := by
  obtain ⟨Aa, Ac, Ad, rfl⟩ := hA.shape
  have A_0 : Hid (Num w (.slice Aa Ac Ad) (A)) := hA
  clear hA
  have K : Hid (∀ u v w, Num w (.slice Aa Ac Ad) A → Num w u 1 → Num w v P25 → Calls Tryd.prog 60 #[.slice Aa Ac Ad, u, v] w fun e w' => ∃ v, e = .returned v ∧ Num w' v (A % P25) ∧ Below w.heap.size w w') := by
    intro u v w h h' h''; have := mulM_num A 1 P25 _ u v w h h' h'' (by decide +kernel) h1 (by decide +kernel) (by decide +kernel); rwa [Nat.mul_one] at this
  clear h1
  go_enter Tryd.func35, Tryd.ntmps35
  go_wp2_with fail
  refine calls_at (fun V => Num V (.slice Aa Ac Ad) (A) ∧ Num V (.slice (some ⟨w.heap.size, 0, none⟩) 1 1) 1 ∧ Below w.heap.size w V) ⟨A_0.out.below ((Below.refl _ _).alloc (Nat.le_refl _) _), num_lit w 1 (by omega) (by omega), (Below.refl _ _).alloc (Nat.le_refl _) _⟩ ?_
  rintro w1 ⟨k0, k1, hG⟩
  have A_1 : Hid (Num w1 (.slice Aa Ac Ad) (A)) := k0
  have L_1 : Hid (Num w1 (.slice (some ⟨w.heap.size, 0, none⟩) 1 1) 1) := k1
  have G_1 : Hid (Below w.heap.size w w1) := hG
  clear A_0 hG k0 k1
  refine (pD_num _).mono ?_
  rintro e w2 ⟨v, rfl, hn, g⟩
  obtain ⟨Pa, Pc, Pd, rfl⟩ := hn.shape
  have P_2 : Hid (Num w2 (.slice Pa Pc Pd) (P25)) := hn
  have A_2 : Hid (Num w2 (.slice Aa Ac Ad) (A)) := A_1.out.below g
  have L_2 : Hid (Num w2 (.slice (some ⟨w.heap.size, 0, none⟩) 1 1) 1) := L_1.out.below g
  have G_2 : Hid (Below w.heap.size w w2) := G_1.out.trans (g.mono G_1.out.size)
  clear A_1 L_1 G_1 hn g
  go_wp2_with fail
  refine (K.out _ _ _ A_2.out L_2.out P_2.out).mono ?_
  rintro e w3 ⟨v, rfl, hn, g⟩
  obtain ⟨Ea, Ec, Ed, rfl⟩ := hn.shape
  have E_3 : Hid (Num w3 (.slice Ea Ec Ed) (A % P25)) := hn
  have A_3 : Hid (Num w3 (.slice Aa Ac Ad) (A)) := A_2.out.below g
  have L_3 : Hid (Num w3 (.slice (some ⟨w.heap.size, 0, none⟩) 1 1) 1) := L_2.out.below g
  have P_3 : Hid (Num w3 (.slice Pa Pc Pd) (P25)) := P_2.out.below g
  have G_3 : Hid (Below w.heap.size w w3) := G_2.out.trans (g.mono G_2.out.size)
  clear A_2 L_2 P_2 G_2 hn g
  go_wp2_with fail
  go_ret
  exact ⟨_, rfl, E_3.out, G_3.out⟩

end Go.Proofs.YtnebpleplogfeaaDoor
