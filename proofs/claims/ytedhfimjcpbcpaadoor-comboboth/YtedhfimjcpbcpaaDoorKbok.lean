/-
  The document's own order of the base (layer 11) is the number that is known. Conditions: none.
-/
import Derived.Test.YtedhfimjcpbcpaaDoorKboj
import Derived.Test.YtedhfimjcpbcpaaDoorKboe
import Derived.Test.YtedhfimjcpbcpaaDoorKboh
import Derived.Test.YtedhfimjcpbcpaaDoorKboc
namespace Go.Proofs.YtedhfimjcpbcpaaDoor.Ed
open Go.RowKit
set_option linter.unusedVariables false
set_option linter.unusedSimpArgs false

def ordD (k : Nat) : Nat := [2, 7, 7, 4, 2, 3, 1, 7, 7, 7, 7, 3, 7, 2, 3, 5, 3, 5, 3, 5, 8, 5, 1, 9, 3, 7, 7, 9, 0, 8, 8, 3, 6, 4, 8, 4, 9, 3].getD k 0
theorem ordD_le (k : Nat) : ordD k ≤ 9 := by
  unfold ordD
  rcases Nat.lt_or_ge k 38 with h | h
  · revert k
    decide +kernel
  · rw [List.getD_eq_getElem?_getD, List.getElem?_eq_none (by simpa using h)]
    decide
def pre : Nat → Nat
  | 0 => 0
  | k + 1 => pre k * 10 + ordD k
theorem pre_lt : ∀ k, pre k < 10 ^ k
  | 0 => by decide
  | k + 1 => by
    have := pre_lt k
    have := ordD_le k
    rw [pre, Nat.pow_succ]
    omega
theorem pre_low (k : Nat) (hk : k ≤ 38) : pre k < 16777216 ^ 11 := Nat.lt_of_lt_of_le (pre_lt k) (Nat.le_trans (Nat.pow_le_pow_right (by omega) hk) (by decide +kernel))
theorem pre_all : pre 38 + 2 ^ 252 = L25 := by decide +kernel
theorem idx_ord (k : Nat) (hk : k < 38) (w : World) : (Instr.index 9 (.string { data := #[50, 55, 55, 52, 50, 51, 49, 55, 55, 55, 55, 51, 55, 50, 51, 53, 51, 53, 51, 53, 56, 53, 49, 57, 51, 55, 55, 57, 48, 56, 56, 51, 54, 52, 56, 52, 57, 51] }) (.int .i64 (k : Int))).run Tryd.prog w = .ok (.int .u8 (48 + (ordD k : Int))) w := by
  rcases (show k = 0 ∨ k = 1 ∨ k = 2 ∨ k = 3 ∨ k = 4 ∨ k = 5 ∨ k = 6 ∨ k = 7 ∨ k = 8 ∨ k = 9 ∨ k = 10 ∨ k = 11 ∨ k = 12 ∨ k = 13 ∨ k = 14 ∨ k = 15 ∨ k = 16 ∨ k = 17 ∨ k = 18 ∨ k = 19 ∨ k = 20 ∨ k = 21 ∨ k = 22 ∨ k = 23 ∨ k = 24 ∨ k = 25 ∨ k = 26 ∨ k = 27 ∨ k = 28 ∨ k = 29 ∨ k = 30 ∨ k = 31 ∨ k = 32 ∨ k = 33 ∨ k = 34 ∨ k = 35 ∨ k = 36 ∨ k = 37 by omega) with rfl | rfl | rfl | rfl | rfl | rfl | rfl | rfl | rfl | rfl | rfl | rfl | rfl | rfl | rfl | rfl | rfl | rfl | rfl | rfl | rfl | rfl | rfl | rfl | rfl | rfl | rfl | rfl | rfl | rfl | rfl | rfl | rfl | rfl | rfl | rfl | rfl | rfl <;> kernel_rfl
set_option maxRecDepth 100000 in
set_option maxHeartbeats 4000000 in
theorem ordR_num (w : World) : Calls Tryd.prog 17 #[] w fun e w' => ∃ v, e = .returned v ∧ Num w' v L25 ∧ Below w.heap.size w w' := by
  have CS : Hid (∀ (M : Nat) (v : Value) (w : World), M < 16777216 ^ 11 → Num w v M → Calls Tryd.prog 63 #[v, .int .i64 10] w fun e w' => ∃ r, e = .returned r ∧ Num w' r (M * 10) ∧ Below w.heap.size w w') := fun M v w hM h => small_num M v 10 w h 11 hM (by omega) (by omega)
  have CI : Hid (∀ (n : Nat) (w : World), n ≤ 9 → Calls Tryd.prog 64 #[.int .i64 (n : Int)] w fun e w' => ∃ r, e = .returned r ∧ Num w' r n ∧ Below w.heap.size w w') := fun n w h => int_any n (by omega) w
  have CP : Hid (∀ w : World, Calls Tryd.prog 44 #[.int .i64 252] w fun e w' => ∃ r, e = .returned r ∧ Num w' r (2 ^ 252) ∧ Below w.heap.size w w') := fun w => power_any 252 w (by omega)
  have R0 : Hid (Num w (.slice none 0 0) (pre 0)) := num_none w
  have G0 : Hid (Below w.heap.size w w) := Below.refl _ _
  go_enter Tryd.func17, Tryd.ntmps17
  go_wp2_with fail
  go_loopw [2, 3] (fun v y wr => ∃ k : Nat, k ≤ 38 ∧ y = .int .i64 (k : Int) ∧ Hid (Num wr v (pre k)) ∧ Hid (Below w.heap.size w wr)) (fun _ y _ => (38 - intOf y).toNat)
  case atStart => exact ⟨0, by omega, rfl, R0, G0⟩
  case round =>
    obtain ⟨k, hk, rfl, hR, hG⟩ := hrel
    clear R0 G0
    obtain ⟨w1, hw1⟩ : ∃ w1, wr = w1 := ⟨_, rfl⟩
    subst hw1
    obtain ⟨za, zc, zd, rfl⟩ := hR.out.shape
    by_cases hlt : k < 38
    · have hlt' : (k : Int) < 38 := by omega
      have HI := idx_ord k hlt
      obtain ⟨d, hd⟩ : ∃ d, ordD k = d := ⟨_, rfl⟩
      have hd9 : d ≤ 9 := by rw [← hd]; exact ordD_le k
      have HP : Hid (pre (k + 1) = pre k * 10 + d) := by unfold Hid; rw [pre, hd]
      have HL : Hid (pre k < 16777216 ^ 11) := pre_low k hk
      rw [hd] at HI
      have c1 : IntKind.i64.wrap (48 + (d : Int)) = 48 + (d : Int) := by rw [IntKind.wrap_i64]; omega
      have c2 : IntKind.i64.wrap (48 + (d : Int) - 48) = (d : Int) := by rw [IntKind.wrap_i64]; omega
      have c4 : IntKind.i64.wrap (d : Int) = (d : Int) := by rw [IntKind.wrap_i64]; omega
      have c3 : (48 : Int) + (d : Int) - 48 = (d : Int) := by omega
      have R_1 := hid hR.out
      have G_1 := hid hG.out
      have hS12 : pre k * 10 < 16777216 ^ 12 := Nat.lt_of_lt_of_le (Nat.mul_lt_mul_of_pos_right HL.out (by omega)) (by decide +kernel)
      have hI12 : d < 16777216 ^ 12 := Nat.lt_of_le_of_lt hd9 (by decide +kernel)
      clear hd hR hG
      go_wp2_with fail
      refine wp_region_held_drew (S := fun w' => True) (by kernel_rfl) trivial (fun hHeld => ?_)
      refine h_take 0 (v := ?v0) rfl (by kernel_rfl) (by kernel_rfl) (by kernel_rfl) (fun _ _ _ h => h) (by rfl) ?hy0 (by assumption) ?_
      case hy0 =>
        intro w' hSw
        clear hSw
        go_simp
        try with_reducible rfl
      try simp only [Act.put, List.setIfInBounds_toArray, List.set_cons_zero, List.set_cons_succ]
      refine h_take 2 (v := ?v2) rfl (by kernel_rfl) (by kernel_rfl) (by kernel_rfl) (fun _ _ _ h => h) (by rfl) ?hy2 (by assumption) ?_
      case hy2 =>
        intro w' hSw
        clear hSw
        go_simp
        try with_reducible rfl
      try simp only [Act.put, List.setIfInBounds_toArray, List.set_cons_zero, List.set_cons_succ]
      refine h_take 3 (v := ?v3) rfl (by kernel_rfl) (by kernel_rfl) (by kernel_rfl) (fun _ _ _ h => h) (by rfl) ?hy3 (by assumption) ?_
      case hy3 =>
        intro w' hSw
        clear hSw
        go_simp
        try with_reducible rfl
      try simp only [Act.put, List.setIfInBounds_toArray, List.set_cons_zero, List.set_cons_succ]
      refine h_take 4 (v := ?v4) rfl (by kernel_rfl) (by kernel_rfl) (by kernel_rfl) (fun _ _ _ h => h) (by rfl) ?hy4 (by assumption) ?_
      case hy4 =>
        intro w' hSw
        clear hSw
        go_simp
        try with_reducible rfl
      try simp only [Act.put, List.setIfInBounds_toArray, List.set_cons_zero, List.set_cons_succ]
      refine h_take 5 (v := ?v5) rfl (by kernel_rfl) (by kernel_rfl) (by kernel_rfl) (fun _ _ _ h => h) (by rfl) ?hy5 (by assumption) ?_
      case hy5 =>
        intro w' hSw
        clear hSw
        go_simp
        try with_reducible rfl
      try simp only [Act.put, List.setIfInBounds_toArray, List.set_cons_zero, List.set_cons_succ]
      refine h_take 6 (v := ?v6) rfl (by kernel_rfl) (by kernel_rfl) (by kernel_rfl) (fun _ _ _ h => h) (by rfl) ?hy6 (by assumption) ?_
      case hy6 =>
        intro w' hSw
        clear hSw
        go_simp
        try with_reducible rfl
      try simp only [Act.put, List.setIfInBounds_toArray, List.set_cons_zero, List.set_cons_succ]
      refine h_call 1 rfl (by kernel_rfl) (by rfl) (fun Kk hK => ?_)
      go_simp
      (refine (CS.out _ _ _ HL.out (R_1.out.below (Below.refl _ _).drew)).mono ?_)
      rintro e w2 ⟨v, rfl, hn, g0⟩
      have g : Below wr.heap.size wr w2 := (Below.refl _ wr).drew.trans g0
      clear g0
      obtain ⟨Sa, Sc, Sd, rfl⟩ := hn.shape
      have S_2 := hid hn
      clear hn
      have G_2 := hid (G_1.out.trans (g.mono G_1.out.size))
      clear g
      go_wp2_with fail
      clear hHeld
      refine hK.out _ _ trivial (fun hHeld => ?_)
      clear hK Kk
      try simp only [Act.put, List.setIfInBounds_toArray, List.set_cons_zero, List.set_cons_succ]
      refine h_call 7 rfl (by kernel_rfl) (by rfl) (fun Kk hK => ?_)
      go_simp
      (refine (CI.out d _ hd9).mono ?_)
      rintro e w3 ⟨v, rfl, hn, g0⟩
      have g := g0
      clear g0
      obtain ⟨Ia, Ic, Id, rfl⟩ := hn.shape
      have I_3 := hid hn
      clear hn
      have S_3 := hid (S_2.out.below g)
      have G_3 := hid (G_2.out.trans (g.mono G_2.out.size))
      clear g
      go_wp2_with fail
      clear hHeld
      refine hK.out _ _ trivial (fun hHeld => ?_)
      clear hK Kk
      try simp only [Act.put, List.setIfInBounds_toArray, List.set_cons_zero, List.set_cons_succ]
      refine h_call 8 rfl (by kernel_rfl) (by rfl) (fun Kk hK => ?_)
      go_simp
      (refine (add_num _ _ _ _ _ S_3.out I_3.out 12 hS12 hI12 (by omega)).mono ?_)
      rintro e w4 ⟨v, rfl, hn, g0⟩
      have g := g0
      clear g0
      obtain ⟨Aa, Ac, Ad, rfl⟩ := hn.shape
      have A_4 := hid hn
      clear hn
      have G_4 := hid (G_3.out.trans (g.mono G_3.out.size))
      clear g
      go_wp2_with fail
      clear hHeld
      refine hK.out _ _ trivial (fun hHeld => ?_)
      clear hK Kk
      try simp only [Act.put, List.setIfInBounds_toArray, List.set_cons_zero, List.set_cons_succ]
      refine h_take 9 (v := ?v9) rfl (by kernel_rfl) (by kernel_rfl) (by kernel_rfl) (fun _ _ _ h => h) (by rfl) ?hy9 (by assumption) ?_
      case hy9 =>
        intro w' hSw
        clear hSw
        go_simp
        try with_reducible rfl
      try simp only [Act.put, List.setIfInBounds_toArray, List.set_cons_zero, List.set_cons_succ]
      refine wpAnyH_done (by kernel_rfl) ?_ _
      clear hHeld
      go_wp2_with fail
      go_roundw
      case rel => exact ⟨k + 1, by omega, by go_num, by rw [HP.out]; exact A_4, G_4⟩
      case measure => simp [intOf]; omega
    · obtain rfl : k = 38 := by omega
      obtain ⟨q, hq⟩ : ∃ q, pre 38 = q := ⟨_, rfl⟩
      have hq1 : Hid (q < 16777216 ^ 11) := by unfold Hid; rw [← hq]; exact pre_low 38 (by omega)
      obtain ⟨r, hr⟩ : ∃ r : Nat, r = 2 ^ 252 := ⟨_, rfl⟩
      have hr1 : Hid (r < 16777216 ^ 11) := by unfold Hid; rw [hr]; decide +kernel
      have hs : Hid (q + r = L25) := by unfold Hid; rw [← hq, hr]; exact pre_all
      have CP' : Hid (∀ w : World, Calls Tryd.prog 44 #[.int .i64 252] w fun e w' => ∃ v, e = .returned v ∧ Num w' v r ∧ Below w.heap.size w w') := by unfold Hid; rw [hr]; exact CP.out
      rw [hq] at hR
      clear hq hr CP CS CI
      go_wp2_with fail
      refine (CP'.out _).mono ?_
      rintro e w2 ⟨v, rfl, hn, g⟩
      have R2 := hid (hR.out.below g)
      have G2 := hid (hG.out.trans (g.mono hG.out.size))
      obtain ⟨pa, pc, pd, rfl⟩ := hn.shape
      have P2 := hid hn
      have KA : Hid (Calls Tryd.prog 58 #[.slice za zc zd, .slice pa pc pd] w2 fun e w' => ∃ v, e = .returned v ∧ Num w' v (q + r) ∧ Below w2.heap.size w2 w') := add_num _ _ _ _ w2 R2.out P2.out 11 hq1.out hr1.out (by omega)
      rw [hs.out] at KA
      clear hn g hR hG R2 P2
      go_wp2_with fail
      refine KA.out.mono ?_
      rintro e w3 ⟨v, rfl, hn, g⟩
      have R3 := hid hn
      have G3 := hid (G2.out.trans (g.mono G2.out.size))
      obtain ⟨pa, pc, pd, rfl⟩ := hn.shape
      clear hn g G2 KA
      go_wp2_with fail
      go_ret
      exact ⟨_, rfl, R3.out, G3.out⟩
end Go.Proofs.YtedhfimjcpbcpaaDoor.Ed

/-
  The document's own Mul of layer 10 (layer 11 asks it), of points of the curve. Conditions: the number is below 2^256.
-/
namespace Go.Proofs.YtedhfimjcpbcpaaDoor.Ed
open Go.RowKit
set_option linter.unusedVariables false
set_option linter.unusedSimpArgs false

theorem num_oth {w w' : World} {g : Nat} {T : TypeId} {L : List Value} {v : Value} {N : Nat} (h : Num w v N) (hA : At T w g L) (hL : ∀ x ∈ L, ∀ z, x ≠ .int .i64 z) (ho : Oth g w w') : Num w' v N := h.oth10 ho (off_none hA hL h)
theorem pm_oth {w w' : World} {g : Nat} {T : TypeId} {L : List Value} {v : Value} {P : Pt} (h : Pm w v P) (hA : At T w g L) (hL : ∀ x ∈ L, ∀ z, x ≠ .int .i64 z) (ho : Oth g w w') : Pm w' v P := by
  obtain ⟨vx, vy, vz, X, Y, Z, e, h1, h2, h3, h4⟩ := h
  exact ⟨vx, vy, vz, X, Y, Z, e, num_oth h1 hA hL ho, num_oth h2 hA hL ho, num_oth h3 hA hL ho, h4⟩
/-- A list of cells that fills a point of the document, without numbers. -/
structure Rw (L : List Value) : Prop where
  len : L.length = 4
  one : L.toArray.all (·.oneCell') = true
  no : ∀ x ∈ L, ∀ z, x ≠ .int .i64 z
theorem Rw.il {L : List Value} (h : Rw L) : (Tryd.prog.info? 37).map (·.size) = some L.length := by rw [h.len]; kernel_rfl
theorem Rw.is {L : List Value} (h : Rw L) : (Tryd.prog.info? 37).map (·.size) = some L.toArray.size := by rw [List.size_toArray]; exact h.il
theorem rw_of (a b c : Option Addr) (n1 n2 n3 c1 c2 c3 : Nat) (t : Bool) : Rw [.slice a n1 c1, .slice b n2 c2, .slice c n3 c3, .bool t] := ⟨rfl, by kernel_rfl, no_ints _ _ _ _ _ _ _ _ _ _⟩
theorem pm_row {W : World} {v : Value} {P : Pt} (h : Pm W v P) : ∃ M : List Value, v = .agg M.toArray ∧ Rw M := by
  obtain ⟨vx, vy, vz, X, Y, Z, rfl, hx, hy, hz, -⟩ := h
  obtain ⟨xa, xn, xc, rfl⟩ := hx.shape
  obtain ⟨ya, yn, yc, rfl⟩ := hy.shape
  obtain ⟨za, zn, zc, rfl⟩ := hz.shape
  exact ⟨[.slice xa xn xc, .slice ya yn yc, .slice za zn zc, .bool true], rfl, rw_of _ _ _ _ _ _ _ _ _ _⟩
theorem mul_double (t : Nat) (P : Pt) : Pt.mul (2 * t + 0) P = (Pt.mul t P).add (Pt.mul t P) := by rw [Nat.add_zero, Nat.two_mul, Pt.mul_two]
theorem mul_more (t : Nat) (P : Pt) : Pt.mul (2 * t + 1) P = ((Pt.mul t P).add (Pt.mul t P)).add P := by rw [Pt.mul_next, Nat.two_mul, Pt.mul_two]
set_option maxRecDepth 100000 in
set_option maxHeartbeats 4000000 in
theorem mulR_pt (P : Pt) (E : Nat) (hE1 : E < 2 ^ 256) (ve vp : Value) (w : World) (hE : Num w ve E) (hp : Pm w vp P) :
    Calls Tryd.prog 13 #[ve, vp] w fun e w' => ∃ u, e = .returned u ∧ Pm w' u (Pt.mul E P) ∧ Below w.heap.size w w' := by
  obtain ⟨ya, yc, yd, rfl⟩ := hE.shape
  obtain ⟨L, rfl, hLr⟩ := pm_row hp
  have hE11 : E < 16777216 ^ 11 := Nat.lt_trans hE1 (by decide +kernel)
  have CB : Hid (∀ w, Num w (.slice ya yc yd) E → Calls Tryd.prog 60 #[.slice ya yc yd] w fun e w' => e = .returned (.int .i64 (nbits E : Int)) ∧ Below w.heap.size w w') := fun w h => bits_num E _ w h 11 hE11 (by omega)
  have CI : Hid (∀ (i : Nat) w, i ≤ 264 → Num w (.slice ya yc yd) E → Calls Tryd.prog 42 #[.slice ya yc yd, .int .i64 (i : Int)] w fun e w' => e = .returned (.int .i64 ((E / 2 ^ i % 2 : Nat) : Int)) ∧ Below w.heap.size w w') := fun i w hi h => bit_num E _ i w h 11 hE11 (by omega) (by omega)
  have CD : Hid (∀ w, Calls Tryd.prog 20 #[] w fun e w' => ∃ v, e = .returned v ∧ Num w' v D25 ∧ Below w.heap.size w w') := fun w => dD_num w
  have CZ : Hid (∀ w, Calls Tryd.prog 24 #[] w fun e w' => ∃ u, e = .returned u ∧ Pm w' u Pt.zero ∧ Below w.heap.size w w') := fun w => zero_pt w
  have CA : Hid (∀ (A B : Pt) (v v' d : Value) (w : World), Pm w v A → Pm w v' B → Num w d D25 → Calls Tryd.prog 19 #[v, v', d] w fun e w' => ∃ u, e = .returned u ∧ Pm w' u (A.add B) ∧ Below w.heap.size w w') := fun A B v v' d w h h' hd => add_pt A B v v' d w h h' hd
  have hnb := nbits_le4 E hE1
  have HN := nbits_lt4 E
  obtain ⟨nb, hNB⟩ : ∃ nb, nbits E = nb := ⟨_, rfl⟩
  rw [hNB] at hnb CB HN
  have HNB : Hid (E < 2 ^ nb) := HN
  have hnb' : (nb : Int) ≤ 256 := by omega
  have Y0 : Hid (Num w (.slice ya yc yd) E) := hE
  have P0 : Hid (Pm w (.agg L.toArray) P) := hp
  clear hE hp hE1 hE11 HN hNB
  go_enter Tryd.func13, Tryd.ntmps13
  go_upto_region 1 with fail
  have g01 : Below w.heap.size w ((w.alloc (.cells L.toArray 37)).alloc (.cells #[.slice none 0 0, .slice none 0 0, .slice none 0 0, .bool false] 37)) := ((Below.refl _ _).alloc (Nat.le_refl _) _).alloc (by simp) _
  refine wp_cut (fun V => At 37 V w.heap.size L ∧ At 37 V (w.heap.size + 1) [.slice none 0 0, .slice none 0 0, .slice none 0 0, .bool false] ∧ Num V (.slice ya yc yd) E ∧ Pm V (.agg L.toArray) P ∧ Below w.heap.size w V)
    ⟨at_alloc (at_new2 _ _ _ _ rfl) _, at_new2 _ _ _ _ (by simp), Y0.out.below g01, P0.out.below g01, g01⟩ ?_
  clear g01
  rintro w1 ⟨k0, k1, k2, k3, k4⟩
  have A_1 := hid k0
  have B_1 := hid k1
  have Y_1 := hid k2
  have P_1 := hid k3
  have G_1 := hid k4
  clear k0 k1 k2 k3 k4 Y0 P0
  go_wp2_with fail
  refine (CD.out _).mono ?_
  rintro e w2 ⟨vD, rfl, hd, g⟩
  have D_2 := hid hd
  have A_2 := hid (A_1.out.below g)
  have B_2 := hid (B_1.out.below g)
  have Y_2 := hid (Y_1.out.below g)
  have P_2 := hid (P_1.out.below g)
  have G_2 := hid (G_1.out.trans (g.mono G_1.out.size))
  clear g hd A_1 B_1 Y_1 P_1 G_1
  go_wp2_with fail
  refine (CZ.out _).mono ?_
  rintro e w3 ⟨u, rfl, hz, g⟩
  obtain ⟨Z, rfl, hZr⟩ := pm_row hz
  have R_3 := hid hz
  have D_3 := hid (D_2.out.below g)
  have A_3 := hid (A_2.out.below g)
  have B_3 := hid (B_2.out.below g)
  have Y_3 := hid (Y_2.out.below g)
  have P_3 := hid (P_2.out.below g)
  have G_3 := hid (G_2.out.trans (g.mono G_2.out.size))
  clear g hz D_2 A_2 B_2 Y_2 P_2 G_2
  have lA : w.heap.size < w3.heap.size := A_3.out.lt
  have lB : w.heap.size + 1 < w3.heap.size := B_3.out.lt
  go_wp2_with (refine list_store_new rfl 37 _ _ rfl w3 Z [.slice none 0 0, .slice none 0 0, .slice none 0 0, .bool false] rfl rfl hZr.len hZr.is hZr.one (fun w4 hC g => ?_))
  have C_4 := hid hC
  have R_4 := hid (R_3.out.below g)
  have D_4 := hid (D_3.out.below g)
  have A_4 := hid (A_3.out.below g)
  have B_4 := hid (B_3.out.below g)
  have Y_4 := hid (Y_3.out.below g)
  have P_4 := hid (P_3.out.below g)
  have G_4 := hid (G_3.out.trans (g.mono G_3.out.size))
  clear g hC R_3 D_3 A_3 B_3 Y_3 P_3 G_3
  obtain ⟨o, ho⟩ : ∃ o, w3.heap.size = o := ⟨_, rfl⟩
  rw [ho] at C_4 lA lB ⊢
  refine (CB.out _ Y_4.out).mono ?_
  rintro e w5 ⟨rfl, g⟩
  have C_5 := hid (C_4.out.below g)
  have R_5 := hid (R_4.out.below g)
  have D_5 := hid (D_4.out.below g)
  have A_5 := hid (A_4.out.below g)
  have B_5 := hid (B_4.out.below g)
  have Y_5 := hid (Y_4.out.below g)
  have P_5 := hid (P_4.out.below g)
  have G_5 := hid (G_4.out.trans (g.mono G_4.out.size))
  clear g C_4 R_4 D_4 A_4 B_4 Y_4 P_4 G_4
  go_wp2_with fail
  go_loopw [7] (fun y wr => ∃ (k : Nat) (M : List Value), k ≤ nb ∧ y = .int .i64 ((nb : Int) - 1 - (k : Int)) ∧ Rw M ∧ Hid (At 37 wr o M) ∧ Hid (Pm wr (.agg M.toArray) (Pt.mul (E / 2 ^ (nb - k)) P)) ∧ Hid (Num wr vD D25) ∧ Hid (At 37 wr w.heap.size L) ∧ Hid (At 37 wr (w.heap.size + 1) [.slice none 0 0, .slice none 0 0, .slice none 0 0, .bool false]) ∧ Hid (Num wr (.slice ya yc yd) E) ∧ Hid (Pm wr (.agg L.toArray) P) ∧ Hid (Below w.heap.size w wr)) (fun y _ => (intOf y + 1).toNat)
  case atStart => exact ⟨0, Z, by omega, by go_num, hZr, C_5, by rw [Nat.sub_zero, Nat.div_eq_of_lt HNB.out, Pt.mul]; exact R_5, D_5, A_5, B_5, Y_5, P_5, G_5⟩
  case round =>
    obtain ⟨k, M, hk, rfl, hM, hC, hR, hD, hA, hB, hY, hP, hG⟩ := hrel
    clear C_5 R_5 D_5 A_5 B_5 Y_5 P_5 G_5
    obtain ⟨w6, hw6⟩ : ∃ w6, wr = w6 := ⟨_, rfl⟩
    subst hw6
    by_cases hlt : k < nb
    · obtain ⟨i, hi⟩ : ∃ i : Nat, (nb : Int) - 1 - (k : Int) = (i : Int) := ⟨nb - 1 - k, by omega⟩
      have Hi : Hid ((nb : Int) - 1 - (k : Int) = (i : Int)) := hi
      have hi3 : i ≤ 264 := by omega
      have e1 : nb - k = i + 1 := by omega
      have e2 : nb - (k + 1) = i := by omega
      rw [e1] at hR
      have HE : Hid (E / 2 ^ i = 2 * (E / 2 ^ (i + 1)) + E / 2 ^ i % 2) := half_up4 E i
      obtain ⟨t, ht⟩ : ∃ t, E / 2 ^ (i + 1) = t := ⟨_, rfl⟩
      obtain ⟨z, hz⟩ : ∃ z, E / 2 ^ i % 2 = z := ⟨_, rfl⟩
      have hz1 : z = 0 ∨ z = 1 := by omega
      rw [ht, hz] at HE
      rw [ht] at hR
      have CI' : Hid (∀ w, Num w (.slice ya yc yd) E → Calls Tryd.prog 42 #[.slice ya yc yd, .int .i64 (i : Int)] w fun e w' => e = .returned (.int .i64 (z : Int)) ∧ Below w.heap.size w w') := by
        intro w h; have := CI.out i w hi3 h; rwa [hz] at this
      have HE2 : Hid (E / 2 ^ (nb - (k + 1)) = 2 * t + z) := by unfold Hid; rw [e2]; exact HE.out
      have hi0 : (0 : Int) ≤ (i : Int) := by omega
      rw [hi]
      clear hi e1 e2 ht hz HE
      go_wp2_with (refine wpList_load_mid rfl 37 _ rfl o 0 rfl M _ (at_mid hC.out 0 _ (by simp)) Tryd.underlying37 rfl hM.il ?_)
      refine (CA.out _ _ _ _ _ _ hR.out hR.out hD.out).mono ?_
      rintro e w7 ⟨u, rfl, hu, g⟩
      obtain ⟨M', rfl, hM'⟩ := pm_row hu
      have R_7 := hid hu
      have C_7 := hid (hC.out.below g)
      have D_7 := hid (hD.out.below g)
      have A_7 := hid (hA.out.below g)
      have B_7 := hid (hB.out.below g)
      have Y_7 := hid (hY.out.below g)
      have P_7 := hid (hP.out.below g)
      have G_7 := hid (hG.out.trans (g.mono hG.out.size))
      clear g hu hR hC hD hA hB hY hP hG
      go_wp2_with (refine list_store_oth rfl 37 _ _ rfl o M' _ rfl rfl C_7.out (hM'.len.trans hM.len.symm) hM'.is hM'.one (fun w8 hC hO => ?_))
      have R_8 := hid (pm_oth R_7.out C_7.out hM.no hO)
      have C_8 := hid hC
      have D_8 := hid (num_oth D_7.out C_7.out hM.no hO)
      have A_8 := hid (hO.at A_7.out (by omega))
      have B_8 := hid (hO.at B_7.out (by omega))
      have Y_8 := hid (num_oth Y_7.out C_7.out hM.no hO)
      have P_8 := hid (pm_oth P_7.out C_7.out hM.no hO)
      have G_8 := hid (Oth.bel G_7.out hO (by omega))
      clear hC hO R_7 C_7 D_7 A_7 B_7 Y_7 P_7 G_7
      refine (CI'.out _ Y_8.out).mono ?_
      rintro e w9 ⟨rfl, g⟩
      have R_9 := hid (R_8.out.below g)
      have C_9 := hid (C_8.out.below g)
      have D_9 := hid (D_8.out.below g)
      have A_9 := hid (A_8.out.below g)
      have B_9 := hid (B_8.out.below g)
      have Y_9 := hid (Y_8.out.below g)
      have P_9 := hid (P_8.out.below g)
      have G_9 := hid (G_8.out.trans (g.mono G_8.out.size))
      clear g R_8 C_8 D_8 A_8 B_8 Y_8 P_8 G_8
      rcases hz1 with rfl | rfl
      · have F : Hid (Pm w9 (.agg M'.toArray) (Pt.mul (E / 2 ^ (nb - (k + 1))) P)) := by unfold Hid; rw [HE2.out, mul_double]; exact R_9.out
        clear HE2 R_9
        go_wp2_with fail
        go_roundw
        case rel => exact ⟨k + 1, M', by omega, by have := Hi.out; go_num, hM', C_9, F, D_9, A_9, B_9, Y_9, P_9, G_9⟩
        case measure => simp [intOf]
      · go_wp2_with (first | refine wpList_load_mid rfl 37 _ rfl o 0 rfl M' _ (at_mid C_9.out 0 _ (by simp)) Tryd.underlying37 rfl hM'.il ?_ | refine wpList_load_mid rfl 37 _ rfl w.heap.size 0 rfl L _ (at_mid A_9.out 0 _ (by simp)) Tryd.underlying37 rfl hLr.il ?_ | fail)
        refine (CA.out _ _ _ _ _ _ R_9.out P_9.out D_9.out).mono ?_
        rintro e w10 ⟨u, rfl, hu, g⟩
        obtain ⟨M2, rfl, hM2⟩ := pm_row hu
        have R_10 := hid hu
        have C_10 := hid (C_9.out.below g)
        have D_10 := hid (D_9.out.below g)
        have A_10 := hid (A_9.out.below g)
        have B_10 := hid (B_9.out.below g)
        have Y_10 := hid (Y_9.out.below g)
        have P_10 := hid (P_9.out.below g)
        have G_10 := hid (G_9.out.trans (g.mono G_9.out.size))
        clear g hu R_9 C_9 D_9 A_9 B_9 Y_9 P_9 G_9
        go_wp2_with (refine list_store_oth rfl 37 _ _ rfl o M2 _ rfl rfl C_10.out (hM2.len.trans hM'.len.symm) hM2.is hM2.one (fun w11 hC hO => ?_))
        have F : Hid (Pm w11 (.agg M2.toArray) (Pt.mul (E / 2 ^ (nb - (k + 1))) P)) := by unfold Hid; rw [HE2.out, mul_more]; exact pm_oth R_10.out C_10.out hM'.no hO
        have C_11 := hid hC
        have D_11 := hid (num_oth D_10.out C_10.out hM'.no hO)
        have A_11 := hid (hO.at A_10.out (by omega))
        have B_11 := hid (hO.at B_10.out (by omega))
        have Y_11 := hid (num_oth Y_10.out C_10.out hM'.no hO)
        have P_11 := hid (pm_oth P_10.out C_10.out hM'.no hO)
        have G_11 := hid (Oth.bel G_10.out hO (by omega))
        clear hC hO R_10 C_10 D_10 A_10 B_10 Y_10 P_10 G_10 HE2
        go_roundw
        case rel => exact ⟨k + 1, M2, by omega, by have := Hi.out; go_num, hM2, C_11, F, D_11, A_11, B_11, Y_11, P_11, G_11⟩
        case measure => simp [intOf]
    · obtain rfl : k = nb := by omega
      have hm1 : (k : Int) - 1 - (k : Int) = -1 := by omega
      rw [hm1]
      rw [Nat.sub_self, Nat.pow_zero, Nat.div_one] at hR
      go_wp2_with (first | refine wpList_load_mid rfl 37 _ rfl o 0 rfl M _ (at_mid hC.out 0 _ (by simp)) Tryd.underlying37 rfl hM.il ?_ | refine list_store_oth rfl 37 _ _ rfl (w.heap.size + 1) M _ rfl rfl hB.out (hM.len.trans rfl) hM.is hM.one (fun F hC2 hO => ?_) | fail)
      exact bodyPost_ret (v := .agg M.toArray) (results_mid (Tryd.results13) _ F (w.heap.size + 1) 0 M _ rfl hC2.range Tryd.underlying37 rfl hM.il) rfl ⟨_, rfl, pm_oth hR.out hB.out (no_ints none none none 0 0 0 0 0 0 false) hO, Oth.bel hG.out hO (by omega)⟩
end Go.Proofs.YtedhfimjcpbcpaaDoor.Ed

/-
  The law ComboMuls of layer 11 is true of any bytes and any number. Conditions: the package's variables are as the program lays them.
-/
namespace Go.Proofs.YtedhfimjcpbcpaaDoor.Ed
open Go.RowKit
set_option linter.unusedVariables false
set_option linter.unusedSimpArgs false

theorem ofN_ws (x : Nat) (hx : x < M4) (w : World) : Calls Tryd.prog 14 #[.agg (wv (ws x)).toArray] w fun e w' => ∃ v, e = .returned v ∧ Num w' v x ∧ Below w.heap.size w w' := by
  have h := of_ref_any x hx w
  rw [four_ws x hx] at h
  exact h
theorem M4_is : M4 = 2 ^ 256 := by decide +kernel
theorem mulR_any (x : Nat) (hx : x < M4) (P : Pt) (v v' : Value) (w : World) (h : Num w v x) (h' : Pm w v' P) : Calls Tryd.prog 13 #[v, v'] w fun e w' => ∃ u, e = .returned u ∧ Pm w' u (Pt.mul x P) ∧ Below w.heap.size w w' :=
  mulR_pt P x (by rw [← M4_is]; exact hx) v v' w h h'
end Go.Proofs.YtedhfimjcpbcpaaDoor.Ed

/-
  The law ComboBoth of layer 11: the walk, given what each call answers. Conditions: as each theorem says.
-/
namespace Go.Proofs.YtedhfimjcpbcpaaDoor.Ed
open Go.RowKit
set_option linter.unusedVariables false
set_option linter.unusedSimpArgs false

theorem num_steady (v : Value) (N : Nat) : Steady (fun w => Num w v N) := ⟨fun w w' h hb => h.below hb, fun w w' g old obj h h1 h2 h3 => num_turned h h1 h2 h3⟩
/-- A slice, whichever. -/
def Sh (v : Value) : Prop := ∃ (a : Option Addr) (n c : Nat), v = .slice a n c
theorem sh_nil : Sh (.slice none 0 0) := ⟨none, 0, 0, rfl⟩
theorem sh_num {w : World} {v : Value} {N : Nat} (h : Num w v N) : Sh v := h.shape
theorem one_if {α : Type} (p : α → Prop) (a : Nat) (x : α) (hx : p x) : ∀ (i : Nat) (z : α), (if i = a then some x else none) = some z → p z := by
  intro i z h
  split at h
  · simp only [Option.some.injEq] at h; exact h ▸ hx
  · cases h
theorem one_if_pair {α : Type} (p : α → Prop) (a c : Nat) (x : α) (hx : p x) : ∀ (i k : Nat) (z : α), (if i = a then some (c, x) else none) = some (k, z) → p z := by
  intro i k z h
  split at h
  · simp only [Option.some.injEq, Prod.mk.injEq] at h; exact h.2 ▸ hx
  · cases h
set_option maxRecDepth 100000 in
set_option maxHeartbeats 16000000 in
theorem both_no1_w (ka kb pa pb : List Value) (ka_h : Wl ka) (kb_h : Wl kb) (pa_h : Pl pa) (pb_h : Pl pb) (a0 a1 : Option Addr) (n0 n1 c0 c1 : Nat) (la lb : List Nat) (eb : Bool)
    (Q1 : Hid (∀ w : World, Env w → Calls Tryd.prog 6 #[] w fun e w' => e = .returned (.bool true) ∧ Below w.heap.size w w'))
    (Q2 : Hid (∀ (v : Value) (w : World), SK .u8 w v la → Env w → Calls Tryd.prog 7 #[v] w fun e w' => e = .returned (.tuple #[.agg pa.toArray, .bool false]) ∧ Below w.heap.size w w'))
    (Q3 : Hid (∀ (v : Value) (w : World), SK .u8 w v lb → Env w → Calls Tryd.prog 7 #[v] w fun e w' => e = .returned (.tuple #[.agg pb.toArray, .bool eb]) ∧ Below w.heap.size w w'))
    (w : World) (Sa_0 : Hid (SK .u8 w (.slice a0 n0 c0) la)) (Sb_0 : Hid (SK .u8 w (.slice a1 n1 c1) lb)) (E_0 : Hid (Env w)) :
    Calls Tryd.prog 4 #[.agg #[.slice a0 n0 c0, .slice a1 n1 c1], .agg ka.toArray, .agg kb.toArray] w fun e w' => e = .returned (.bool true) ∧ Below w.heap.size w w' := by
  go_enter Tryd.func4, Tryd.ntmps4
  go_upto_region 1 with fail
  have HE := E_0.out.lt
  refine wp_cut (fun V => At 50 V w.heap.size [.slice a0 n0 c0, .slice a1 n1 c1] ∧ At 25 V (w.heap.size + 1) ka ∧ At 25 V (w.heap.size + 1 + 1) kb ∧ SK .u8 V (.slice a0 n0 c0) la ∧ SK .u8 V (.slice a1 n1 c1) lb ∧ Env V ∧ Below w.heap.size w V) ⟨?_, ?_, ?_, ?_, ?_, ?_, ?_⟩ ?_
  · (repeat (first | refine At.drew ?_ | refine At.drewN ?_ _ | (refine at_new2 _ _ _ _ ?_; simp; done) | refine at_alloc ?_ _))
  · (repeat (first | refine At.drew ?_ | refine At.drewN ?_ _ | (refine at_new2 _ _ _ _ ?_; simp; done) | refine at_alloc ?_ _))
  · (repeat (first | refine At.drew ?_ | refine At.drewN ?_ _ | (refine at_new2 _ _ _ _ ?_; simp; done) | refine at_alloc ?_ _))
  · refine Sa_0.out.below ?_
    (repeat (first | exact Below.refl _ _ | refine Below.drew ?_ | refine below_drewN ?_ _ | refine Below.alloc ?_ (by simp <;> omega) _))
  · refine Sb_0.out.below ?_
    (repeat (first | exact Below.refl _ _ | refine Below.drew ?_ | refine below_drewN ?_ _ | refine Below.alloc ?_ (by simp <;> omega) _))
  · refine E_0.out.grown ?_
    (repeat (first | exact Below.refl _ _ | refine Below.drew ?_ | refine below_drewN ?_ _ | refine Below.alloc ?_ (by simp <;> omega) _))
  · (repeat (first | exact Below.refl _ _ | refine Below.drew ?_ | refine below_drewN ?_ _ | refine Below.alloc ?_ (by simp <;> omega) _))
  rintro w1 ⟨k0, k1, k2, k3, k4, k5, k6⟩
  have B3_1 := hid k0
  have B4_1 := hid k1
  have B5_1 := hid k2
  have Sa_1 := hid k3
  have Sb_1 := hid k4
  have E_1 := hid k5
  have G_1 := hid k6
  clear k0 k1 k2 k3 k4 k5 k6 Sa_0 Sb_0 E_0
  go_wp2_with (fail)
  refine (Q1.out _ E_1.out).mono ?_
  rintro e w2 ⟨rfl, g0⟩
  have g := g0
  clear g0
  have B3_2 := hid (B3_1.out.below g)
  have B4_2 := hid (B4_1.out.below g)
  have B5_2 := hid (B5_1.out.below g)
  have Sa_2 := hid (Sa_1.out.below g)
  have Sb_2 := hid (Sb_1.out.below g)
  have E_2 := hid (E_1.out.grown g)
  have G_2 := hid (G_1.out.trans (g.mono G_1.out.size))
  clear g B3_1 B4_1 B5_1 Sa_1 Sb_1 E_1 G_1
  have qc0 := B3_2.out.cell 0
  simp only [List.getElem?_cons_zero, List.getElem?_cons_succ] at qc0
  go_wp2_with (fail)
  refine (Q2.out _ _ Sa_2.out E_2.out).mono ?_
  rintro e w3 ⟨rfl, g0⟩
  have g := g0
  clear g0
  have B3_3 := hid (B3_2.out.below g)
  have B4_3 := hid (B4_2.out.below g)
  have B5_3 := hid (B5_2.out.below g)
  have Sa_3 := hid (Sa_2.out.below g)
  have Sb_3 := hid (Sb_2.out.below g)
  have E_3 := hid (E_2.out.grown g)
  have G_3 := hid (G_2.out.trans (g.mono G_2.out.size))
  clear g B3_2 B4_2 B5_2 Sa_2 Sb_2 E_2 G_2
  clear qc0
  have szB7 : w.heap.size ≤ w3.heap.size := G_3.out.size
  have nlB3B7 : w.heap.size < w3.heap.size := B3_3.out.lt
  have nlB4B7 : (w.heap.size + 1) < w3.heap.size := B4_3.out.lt
  have nlB5B7 : (w.heap.size + 1 + 1) < w3.heap.size := B5_3.out.lt
  go_wp2_with (first | (refine list_store_new rfl 32 _ _ rfl w3 pa [.int .u64 0, .int .u64 0, .int .u64 0, .int .u64 0, .int .u64 0, .int .u64 0, .int .u64 0, .int .u64 0, .int .u64 0, .int .u64 0, .int .u64 0, .int .u64 0, .int .u64 0, .int .u64 0, .int .u64 0, .int .u64 0, .int .u64 0, .int .u64 0, .int .u64 0, .int .u64 0] rfl rfl pa_h.len pa_h.is pa_h.one (fun w4 hC g => ?_); have qd := (B3_3.out.below g).cell 1; simp only [List.getElem?_cons_zero, List.getElem?_cons_succ] at qd) | fail)
  have B7_4 := hid hC
  have B3_4 := hid (B3_3.out.below g)
  have B4_4 := hid (B4_3.out.below g)
  have B5_4 := hid (B5_3.out.below g)
  have Sa_4 := hid (Sa_3.out.below g)
  have Sb_4 := hid (Sb_3.out.below g)
  have E_4 := hid (E_3.out.grown g)
  have G_4 := hid (G_3.out.trans (g.mono G_3.out.size))
  clear hC g B3_3 B4_3 B5_3 Sa_3 Sb_3 E_3 G_3
  have qc1 := B3_4.out.cell 1
  simp only [List.getElem?_cons_zero, List.getElem?_cons_succ] at qc1
  go_wp2_with (fail)
  refine (Q3.out _ _ Sb_4.out E_4.out).mono ?_
  rintro e w5 ⟨rfl, g0⟩
  have g := g0
  clear g0
  have B3_5 := hid (B3_4.out.below g)
  have B4_5 := hid (B4_4.out.below g)
  have B5_5 := hid (B5_4.out.below g)
  have B7_5 := hid (B7_4.out.below g)
  have Sa_5 := hid (Sa_4.out.below g)
  have Sb_5 := hid (Sb_4.out.below g)
  have E_5 := hid (E_4.out.grown g)
  have G_5 := hid (G_4.out.trans (g.mono G_4.out.size))
  clear g B3_4 B4_4 B5_4 B7_4 Sa_4 Sb_4 E_4 G_4
  clear qc1
  have szB9 : w.heap.size ≤ w5.heap.size := G_5.out.size
  have nlB3B9 : w.heap.size < w5.heap.size := B3_5.out.lt
  have nlB4B9 : (w.heap.size + 1) < w5.heap.size := B4_5.out.lt
  have nlB5B9 : (w.heap.size + 1 + 1) < w5.heap.size := B5_5.out.lt
  have nlB7B9 : w3.heap.size < w5.heap.size := B7_5.out.lt
  go_wp2_with (first | (refine list_store_new rfl 32 _ _ rfl w5 pb [.int .u64 0, .int .u64 0, .int .u64 0, .int .u64 0, .int .u64 0, .int .u64 0, .int .u64 0, .int .u64 0, .int .u64 0, .int .u64 0, .int .u64 0, .int .u64 0, .int .u64 0, .int .u64 0, .int .u64 0, .int .u64 0, .int .u64 0, .int .u64 0, .int .u64 0, .int .u64 0] rfl rfl pb_h.len pb_h.is pb_h.one (fun w6 hC g => ?_)) | fail)
  have B9_6 := hid hC
  have B3_6 := hid (B3_5.out.below g)
  have B4_6 := hid (B4_5.out.below g)
  have B5_6 := hid (B5_5.out.below g)
  have B7_6 := hid (B7_5.out.below g)
  have Sa_6 := hid (Sa_5.out.below g)
  have Sb_6 := hid (Sb_5.out.below g)
  have E_6 := hid (E_5.out.grown g)
  have G_6 := hid (G_5.out.trans (g.mono G_5.out.size))
  clear hC g B3_5 B4_5 B5_5 B7_5 Sa_5 Sb_5 E_5 G_5
  go_wp2_with fail
  go_ret
  exact ⟨rfl, G_6.out⟩
set_option maxRecDepth 100000 in
set_option maxHeartbeats 16000000 in
theorem both_no2_w (ka kb pa pb : List Value) (ka_h : Wl ka) (kb_h : Wl kb) (pa_h : Pl pa) (pb_h : Pl pb) (a0 a1 : Option Addr) (n0 n1 c0 c1 : Nat) (la lb : List Nat)
    (Q1 : Hid (∀ w : World, Env w → Calls Tryd.prog 6 #[] w fun e w' => e = .returned (.bool true) ∧ Below w.heap.size w w'))
    (Q2 : Hid (∀ (v : Value) (w : World), SK .u8 w v la → Env w → Calls Tryd.prog 7 #[v] w fun e w' => e = .returned (.tuple #[.agg pa.toArray, .bool true]) ∧ Below w.heap.size w w'))
    (Q3 : Hid (∀ (v : Value) (w : World), SK .u8 w v lb → Env w → Calls Tryd.prog 7 #[v] w fun e w' => e = .returned (.tuple #[.agg pb.toArray, .bool false]) ∧ Below w.heap.size w w'))
    (w : World) (Sa_0 : Hid (SK .u8 w (.slice a0 n0 c0) la)) (Sb_0 : Hid (SK .u8 w (.slice a1 n1 c1) lb)) (E_0 : Hid (Env w)) :
    Calls Tryd.prog 4 #[.agg #[.slice a0 n0 c0, .slice a1 n1 c1], .agg ka.toArray, .agg kb.toArray] w fun e w' => e = .returned (.bool true) ∧ Below w.heap.size w w' := by
  go_enter Tryd.func4, Tryd.ntmps4
  go_upto_region 1 with fail
  have HE := E_0.out.lt
  refine wp_cut (fun V => At 50 V w.heap.size [.slice a0 n0 c0, .slice a1 n1 c1] ∧ At 25 V (w.heap.size + 1) ka ∧ At 25 V (w.heap.size + 1 + 1) kb ∧ SK .u8 V (.slice a0 n0 c0) la ∧ SK .u8 V (.slice a1 n1 c1) lb ∧ Env V ∧ Below w.heap.size w V) ⟨?_, ?_, ?_, ?_, ?_, ?_, ?_⟩ ?_
  · (repeat (first | refine At.drew ?_ | refine At.drewN ?_ _ | (refine at_new2 _ _ _ _ ?_; simp; done) | refine at_alloc ?_ _))
  · (repeat (first | refine At.drew ?_ | refine At.drewN ?_ _ | (refine at_new2 _ _ _ _ ?_; simp; done) | refine at_alloc ?_ _))
  · (repeat (first | refine At.drew ?_ | refine At.drewN ?_ _ | (refine at_new2 _ _ _ _ ?_; simp; done) | refine at_alloc ?_ _))
  · refine Sa_0.out.below ?_
    (repeat (first | exact Below.refl _ _ | refine Below.drew ?_ | refine below_drewN ?_ _ | refine Below.alloc ?_ (by simp <;> omega) _))
  · refine Sb_0.out.below ?_
    (repeat (first | exact Below.refl _ _ | refine Below.drew ?_ | refine below_drewN ?_ _ | refine Below.alloc ?_ (by simp <;> omega) _))
  · refine E_0.out.grown ?_
    (repeat (first | exact Below.refl _ _ | refine Below.drew ?_ | refine below_drewN ?_ _ | refine Below.alloc ?_ (by simp <;> omega) _))
  · (repeat (first | exact Below.refl _ _ | refine Below.drew ?_ | refine below_drewN ?_ _ | refine Below.alloc ?_ (by simp <;> omega) _))
  rintro w1 ⟨k0, k1, k2, k3, k4, k5, k6⟩
  have B3_1 := hid k0
  have B4_1 := hid k1
  have B5_1 := hid k2
  have Sa_1 := hid k3
  have Sb_1 := hid k4
  have E_1 := hid k5
  have G_1 := hid k6
  clear k0 k1 k2 k3 k4 k5 k6 Sa_0 Sb_0 E_0
  go_wp2_with (fail)
  refine (Q1.out _ E_1.out).mono ?_
  rintro e w2 ⟨rfl, g0⟩
  have g := g0
  clear g0
  have B3_2 := hid (B3_1.out.below g)
  have B4_2 := hid (B4_1.out.below g)
  have B5_2 := hid (B5_1.out.below g)
  have Sa_2 := hid (Sa_1.out.below g)
  have Sb_2 := hid (Sb_1.out.below g)
  have E_2 := hid (E_1.out.grown g)
  have G_2 := hid (G_1.out.trans (g.mono G_1.out.size))
  clear g B3_1 B4_1 B5_1 Sa_1 Sb_1 E_1 G_1
  have qc0 := B3_2.out.cell 0
  simp only [List.getElem?_cons_zero, List.getElem?_cons_succ] at qc0
  go_wp2_with (fail)
  refine (Q2.out _ _ Sa_2.out E_2.out).mono ?_
  rintro e w3 ⟨rfl, g0⟩
  have g := g0
  clear g0
  have B3_3 := hid (B3_2.out.below g)
  have B4_3 := hid (B4_2.out.below g)
  have B5_3 := hid (B5_2.out.below g)
  have Sa_3 := hid (Sa_2.out.below g)
  have Sb_3 := hid (Sb_2.out.below g)
  have E_3 := hid (E_2.out.grown g)
  have G_3 := hid (G_2.out.trans (g.mono G_2.out.size))
  clear g B3_2 B4_2 B5_2 Sa_2 Sb_2 E_2 G_2
  clear qc0
  have szB7 : w.heap.size ≤ w3.heap.size := G_3.out.size
  have nlB3B7 : w.heap.size < w3.heap.size := B3_3.out.lt
  have nlB4B7 : (w.heap.size + 1) < w3.heap.size := B4_3.out.lt
  have nlB5B7 : (w.heap.size + 1 + 1) < w3.heap.size := B5_3.out.lt
  go_wp2_with (first | (refine list_store_new rfl 32 _ _ rfl w3 pa [.int .u64 0, .int .u64 0, .int .u64 0, .int .u64 0, .int .u64 0, .int .u64 0, .int .u64 0, .int .u64 0, .int .u64 0, .int .u64 0, .int .u64 0, .int .u64 0, .int .u64 0, .int .u64 0, .int .u64 0, .int .u64 0, .int .u64 0, .int .u64 0, .int .u64 0, .int .u64 0] rfl rfl pa_h.len pa_h.is pa_h.one (fun w4 hC g => ?_); have qd := (B3_3.out.below g).cell 1; simp only [List.getElem?_cons_zero, List.getElem?_cons_succ] at qd) | fail)
  have B7_4 := hid hC
  have B3_4 := hid (B3_3.out.below g)
  have B4_4 := hid (B4_3.out.below g)
  have B5_4 := hid (B5_3.out.below g)
  have Sa_4 := hid (Sa_3.out.below g)
  have Sb_4 := hid (Sb_3.out.below g)
  have E_4 := hid (E_3.out.grown g)
  have G_4 := hid (G_3.out.trans (g.mono G_3.out.size))
  clear hC g B3_3 B4_3 B5_3 Sa_3 Sb_3 E_3 G_3
  have qc1 := B3_4.out.cell 1
  simp only [List.getElem?_cons_zero, List.getElem?_cons_succ] at qc1
  go_wp2_with (fail)
  refine (Q3.out _ _ Sb_4.out E_4.out).mono ?_
  rintro e w5 ⟨rfl, g0⟩
  have g := g0
  clear g0
  have B3_5 := hid (B3_4.out.below g)
  have B4_5 := hid (B4_4.out.below g)
  have B5_5 := hid (B5_4.out.below g)
  have B7_5 := hid (B7_4.out.below g)
  have Sa_5 := hid (Sa_4.out.below g)
  have Sb_5 := hid (Sb_4.out.below g)
  have E_5 := hid (E_4.out.grown g)
  have G_5 := hid (G_4.out.trans (g.mono G_4.out.size))
  clear g B3_4 B4_4 B5_4 B7_4 Sa_4 Sb_4 E_4 G_4
  clear qc1
  have szB9 : w.heap.size ≤ w5.heap.size := G_5.out.size
  have nlB3B9 : w.heap.size < w5.heap.size := B3_5.out.lt
  have nlB4B9 : (w.heap.size + 1) < w5.heap.size := B4_5.out.lt
  have nlB5B9 : (w.heap.size + 1 + 1) < w5.heap.size := B5_5.out.lt
  have nlB7B9 : w3.heap.size < w5.heap.size := B7_5.out.lt
  go_wp2_with (first | (refine list_store_new rfl 32 _ _ rfl w5 pb [.int .u64 0, .int .u64 0, .int .u64 0, .int .u64 0, .int .u64 0, .int .u64 0, .int .u64 0, .int .u64 0, .int .u64 0, .int .u64 0, .int .u64 0, .int .u64 0, .int .u64 0, .int .u64 0, .int .u64 0, .int .u64 0, .int .u64 0, .int .u64 0, .int .u64 0, .int .u64 0] rfl rfl pb_h.len pb_h.is pb_h.one (fun w6 hC g => ?_)) | fail)
  have B9_6 := hid hC
  have B3_6 := hid (B3_5.out.below g)
  have B4_6 := hid (B4_5.out.below g)
  have B5_6 := hid (B5_5.out.below g)
  have B7_6 := hid (B7_5.out.below g)
  have Sa_6 := hid (Sa_5.out.below g)
  have Sb_6 := hid (Sb_5.out.below g)
  have E_6 := hid (E_5.out.grown g)
  have G_6 := hid (G_5.out.trans (g.mono G_5.out.size))
  clear hC g B3_5 B4_5 B5_5 B7_5 Sa_5 Sb_5 E_5 G_5
  go_wp2_with fail
  go_ret
  exact ⟨rfl, G_6.out⟩
set_option maxRecDepth 100000 in
set_option maxHeartbeats 16000000 in
theorem both_yes_w (ka kb pa pb bo : List Value) (ka_h : Wl ka) (kb_h : Wl kb) (pa_h : Pl pa) (pb_h : Pl pb) (bo_h : Pl bo) (a0 a1 : Option Addr) (n0 n1 c0 c1 : Nat) (la lb : List Nat) (A B KA MB LA : Pt) (K M : Nat) (ls : List Nat) (tb : Bool)
    (Q1 : Hid (∀ w : World, Env w → Calls Tryd.prog 6 #[] w fun e w' => e = .returned (.bool true) ∧ Below w.heap.size w w'))
    (Q2 : Hid (∀ (v : Value) (w : World), SK .u8 w v la → Env w → Calls Tryd.prog 7 #[v] w fun e w' => e = .returned (.tuple #[.agg pa.toArray, .bool true]) ∧ Below w.heap.size w w'))
    (Q3 : Hid (∀ (v : Value) (w : World), SK .u8 w v lb → Env w → Calls Tryd.prog 7 #[v] w fun e w' => e = .returned (.tuple #[.agg pb.toArray, .bool true]) ∧ Below w.heap.size w w'))
    (Q4 : Hid (∀ (v : Value) (w : World), SK .u8 w v la → Calls Tryd.prog 8 #[v] w fun e w' => ∃ u, e = .returned u ∧ Pm w' u A ∧ Below w.heap.size w w'))
    (Q5 : Hid (∀ (v : Value) (w : World), SK .u8 w v lb → Calls Tryd.prog 8 #[v] w fun e w' => ∃ u, e = .returned u ∧ Pm w' u B ∧ Below w.heap.size w w'))
    (Q6 : Hid (∀ w : World, Calls Tryd.prog 14 #[.agg ka.toArray] w fun e w' => ∃ v, e = .returned v ∧ Num w' v K ∧ Below w.heap.size w w'))
    (Q7 : Hid (∀ (v v' : Value) (w : World), Num w v K → Pm w v' A → Calls Tryd.prog 13 #[v, v'] w fun e w' => ∃ u, e = .returned u ∧ Pm w' u KA ∧ Below w.heap.size w w'))
    (Q8 : Hid (∀ w : World, Calls Tryd.prog 14 #[.agg kb.toArray] w fun e w' => ∃ v, e = .returned v ∧ Num w' v M ∧ Below w.heap.size w w'))
    (Q9 : Hid (∀ (v v' : Value) (w : World), Num w v M → Pm w v' B → Calls Tryd.prog 13 #[v, v'] w fun e w' => ∃ u, e = .returned u ∧ Pm w' u MB ∧ Below w.heap.size w w'))
    (Q10 : Hid (∀ w : World, Calls Tryd.prog 20 #[] w fun e w' => ∃ v, e = .returned v ∧ Num w' v D25 ∧ Below w.heap.size w w'))
    (Q11 : Hid (∀ (v v' d : Value) (w : World), Pm w v KA → Pm w v' MB → Num w d D25 → Calls Tryd.prog 19 #[v, v', d] w fun e w' => ∃ u, e = .returned u ∧ Pm w' u (KA.add MB) ∧ Below w.heap.size w w'))
    (Q12 : Hid (∀ w : World, Env w → Calls Tryd.prog 21 #[.agg ka.toArray, .agg pa.toArray, .agg kb.toArray, .agg pb.toArray] w fun e w' => e = .returned (.agg bo.toArray) ∧ Below w.heap.size w w'))
    (Q13 : Hid (∀ w : World, Calls Tryd.prog 11 #[.agg bo.toArray] w fun e w' => ∃ g, e = .returned (.slice (some ⟨g, 0, none⟩) 32 32) ∧ SK .u8 w' (.slice (some ⟨g, 0, none⟩) 32 32) ls ∧ w.heap.size ≤ g ∧ Below w.heap.size w w'))
    (Q14 : Hid (∀ (v : Value) (w : World), Pm w v (KA.add MB) → Calls Tryd.prog 12 #[v] w fun e w' => ∃ u, e = .returned u ∧ SK .u8 w' u ls ∧ Below w.heap.size w w'))
    (Q15 : Hid (∀ (v v' : Value) (w : World), SK .u8 w v ls → SK .u8 w v' ls → Calls Tryd.prog 10 #[v, v'] w fun e w' => e = .returned (.bool true) ∧ Below w.heap.size w w'))
    (Q16 : Hid (∀ w : World, Env w → Calls Tryd.prog 22 #[.agg pa.toArray] w fun e w' => e = .returned (.bool tb) ∧ Below w.heap.size w w'))
    (Q17 : Hid (∀ w : World, Calls Tryd.prog 17 #[] w fun e w' => ∃ v, e = .returned v ∧ Num w' v L25 ∧ Below w.heap.size w w'))
    (Q18 : Hid (∀ (v v' : Value) (w : World), Num w v L25 → Pm w v' A → Calls Tryd.prog 13 #[v, v'] w fun e w' => ∃ u, e = .returned u ∧ Pm w' u LA ∧ Below w.heap.size w w'))
    (Q19 : Hid (∀ w : World, Calls Tryd.prog 24 #[] w fun e w' => ∃ u, e = .returned u ∧ Pm w' u Pt.zero ∧ Below w.heap.size w w'))
    (Q20 : Hid (∀ (v v' : Value) (w : World), Pm w v LA → Pm w v' Pt.zero → Calls Tryd.prog 23 #[v, v'] w fun e w' => e = .returned (.bool tb) ∧ Below w.heap.size w w'))
    (w : World) (Sa_0 : Hid (SK .u8 w (.slice a0 n0 c0) la)) (Sb_0 : Hid (SK .u8 w (.slice a1 n1 c1) lb)) (E_0 : Hid (Env w)) :
    Calls Tryd.prog 4 #[.agg #[.slice a0 n0 c0, .slice a1 n1 c1], .agg ka.toArray, .agg kb.toArray] w fun e w' => e = .returned (.bool true) ∧ Below w.heap.size w w' := by
  go_enter Tryd.func4, Tryd.ntmps4
  go_upto_region 1 with fail
  have HE := E_0.out.lt
  refine wp_cut (fun V => At 50 V w.heap.size [.slice a0 n0 c0, .slice a1 n1 c1] ∧ At 25 V (w.heap.size + 1) ka ∧ At 25 V (w.heap.size + 1 + 1) kb ∧ SK .u8 V (.slice a0 n0 c0) la ∧ SK .u8 V (.slice a1 n1 c1) lb ∧ Env V ∧ Below w.heap.size w V) ⟨?_, ?_, ?_, ?_, ?_, ?_, ?_⟩ ?_
  · (repeat (first | refine At.drew ?_ | refine At.drewN ?_ _ | (refine at_new2 _ _ _ _ ?_; simp; done) | refine at_alloc ?_ _))
  · (repeat (first | refine At.drew ?_ | refine At.drewN ?_ _ | (refine at_new2 _ _ _ _ ?_; simp; done) | refine at_alloc ?_ _))
  · (repeat (first | refine At.drew ?_ | refine At.drewN ?_ _ | (refine at_new2 _ _ _ _ ?_; simp; done) | refine at_alloc ?_ _))
  · refine Sa_0.out.below ?_
    (repeat (first | exact Below.refl _ _ | refine Below.drew ?_ | refine below_drewN ?_ _ | refine Below.alloc ?_ (by simp <;> omega) _))
  · refine Sb_0.out.below ?_
    (repeat (first | exact Below.refl _ _ | refine Below.drew ?_ | refine below_drewN ?_ _ | refine Below.alloc ?_ (by simp <;> omega) _))
  · refine E_0.out.grown ?_
    (repeat (first | exact Below.refl _ _ | refine Below.drew ?_ | refine below_drewN ?_ _ | refine Below.alloc ?_ (by simp <;> omega) _))
  · (repeat (first | exact Below.refl _ _ | refine Below.drew ?_ | refine below_drewN ?_ _ | refine Below.alloc ?_ (by simp <;> omega) _))
  rintro w1 ⟨k0, k1, k2, k3, k4, k5, k6⟩
  have B3_1 := hid k0
  have B4_1 := hid k1
  have B5_1 := hid k2
  have Sa_1 := hid k3
  have Sb_1 := hid k4
  have E_1 := hid k5
  have G_1 := hid k6
  clear k0 k1 k2 k3 k4 k5 k6 Sa_0 Sb_0 E_0
  go_wp2_with (fail)
  refine (Q1.out _ E_1.out).mono ?_
  rintro e w2 ⟨rfl, g0⟩
  have g := g0
  clear g0
  have B3_2 := hid (B3_1.out.below g)
  have B4_2 := hid (B4_1.out.below g)
  have B5_2 := hid (B5_1.out.below g)
  have Sa_2 := hid (Sa_1.out.below g)
  have Sb_2 := hid (Sb_1.out.below g)
  have E_2 := hid (E_1.out.grown g)
  have G_2 := hid (G_1.out.trans (g.mono G_1.out.size))
  clear g B3_1 B4_1 B5_1 Sa_1 Sb_1 E_1 G_1
  have qc0 := B3_2.out.cell 0
  simp only [List.getElem?_cons_zero, List.getElem?_cons_succ] at qc0
  go_wp2_with (fail)
  refine (Q2.out _ _ Sa_2.out E_2.out).mono ?_
  rintro e w3 ⟨rfl, g0⟩
  have g := g0
  clear g0
  have B3_3 := hid (B3_2.out.below g)
  have B4_3 := hid (B4_2.out.below g)
  have B5_3 := hid (B5_2.out.below g)
  have Sa_3 := hid (Sa_2.out.below g)
  have Sb_3 := hid (Sb_2.out.below g)
  have E_3 := hid (E_2.out.grown g)
  have G_3 := hid (G_2.out.trans (g.mono G_2.out.size))
  clear g B3_2 B4_2 B5_2 Sa_2 Sb_2 E_2 G_2
  clear qc0
  have szB7 : w.heap.size ≤ w3.heap.size := G_3.out.size
  have nlB3B7 : w.heap.size < w3.heap.size := B3_3.out.lt
  have nlB4B7 : (w.heap.size + 1) < w3.heap.size := B4_3.out.lt
  have nlB5B7 : (w.heap.size + 1 + 1) < w3.heap.size := B5_3.out.lt
  go_wp2_with (first | (refine list_store_new rfl 32 _ _ rfl w3 pa [.int .u64 0, .int .u64 0, .int .u64 0, .int .u64 0, .int .u64 0, .int .u64 0, .int .u64 0, .int .u64 0, .int .u64 0, .int .u64 0, .int .u64 0, .int .u64 0, .int .u64 0, .int .u64 0, .int .u64 0, .int .u64 0, .int .u64 0, .int .u64 0, .int .u64 0, .int .u64 0] rfl rfl pa_h.len pa_h.is pa_h.one (fun w4 hC g => ?_); have qd := (B3_3.out.below g).cell 1; simp only [List.getElem?_cons_zero, List.getElem?_cons_succ] at qd) | fail)
  have B7_4 := hid hC
  have B3_4 := hid (B3_3.out.below g)
  have B4_4 := hid (B4_3.out.below g)
  have B5_4 := hid (B5_3.out.below g)
  have Sa_4 := hid (Sa_3.out.below g)
  have Sb_4 := hid (Sb_3.out.below g)
  have E_4 := hid (E_3.out.grown g)
  have G_4 := hid (G_3.out.trans (g.mono G_3.out.size))
  clear hC g B3_3 B4_3 B5_3 Sa_3 Sb_3 E_3 G_3
  have qc1 := B3_4.out.cell 1
  simp only [List.getElem?_cons_zero, List.getElem?_cons_succ] at qc1
  go_wp2_with (fail)
  refine (Q3.out _ _ Sb_4.out E_4.out).mono ?_
  rintro e w5 ⟨rfl, g0⟩
  have g := g0
  clear g0
  have B3_5 := hid (B3_4.out.below g)
  have B4_5 := hid (B4_4.out.below g)
  have B5_5 := hid (B5_4.out.below g)
  have B7_5 := hid (B7_4.out.below g)
  have Sa_5 := hid (Sa_4.out.below g)
  have Sb_5 := hid (Sb_4.out.below g)
  have E_5 := hid (E_4.out.grown g)
  have G_5 := hid (G_4.out.trans (g.mono G_4.out.size))
  clear g B3_4 B4_4 B5_4 B7_4 Sa_4 Sb_4 E_4 G_4
  clear qc1
  have szB9 : w.heap.size ≤ w5.heap.size := G_5.out.size
  have nlB3B9 : w.heap.size < w5.heap.size := B3_5.out.lt
  have nlB4B9 : (w.heap.size + 1) < w5.heap.size := B4_5.out.lt
  have nlB5B9 : (w.heap.size + 1 + 1) < w5.heap.size := B5_5.out.lt
  have nlB7B9 : w3.heap.size < w5.heap.size := B7_5.out.lt
  go_wp2_with (first | (refine list_store_new rfl 32 _ _ rfl w5 pb [.int .u64 0, .int .u64 0, .int .u64 0, .int .u64 0, .int .u64 0, .int .u64 0, .int .u64 0, .int .u64 0, .int .u64 0, .int .u64 0, .int .u64 0, .int .u64 0, .int .u64 0, .int .u64 0, .int .u64 0, .int .u64 0, .int .u64 0, .int .u64 0, .int .u64 0, .int .u64 0] rfl rfl pb_h.len pb_h.is pb_h.one (fun w6 hC g => ?_)) | fail)
  have B9_6 := hid hC
  have B3_6 := hid (B3_5.out.below g)
  have B4_6 := hid (B4_5.out.below g)
  have B5_6 := hid (B5_5.out.below g)
  have B7_6 := hid (B7_5.out.below g)
  have Sa_6 := hid (Sa_5.out.below g)
  have Sb_6 := hid (Sb_5.out.below g)
  have E_6 := hid (E_5.out.grown g)
  have G_6 := hid (G_5.out.trans (g.mono G_5.out.size))
  clear hC g B3_5 B4_5 B5_5 B7_5 Sa_5 Sb_5 E_5 G_5
  go_wp2_with fail
  refine wp_region_grow_m (ob := (fun k => if k = 6 then some (.cells #[.slice none 0 0, .slice none 0 0, .slice none 0 0, .bool false] 37) else if k = 7 then some (.cells #[.slice none 0 0, .slice none 0 0, .slice none 0 0, .bool false] 37) else none)) (by kernel_rfl) ?_
  simp only [List.size_toArray, List.length_cons, List.length_nil, Nat.reduceAdd, Array.replicate_succ, Array.replicate_zero, List.push_toArray, List.nil_append, List.cons_append]
  refine m_first 0 _ (.pointer (some ⟨w.heap.size, 0, none⟩)) rfl rfl (by kernel_rfl) (by kernel_rfl) (by kernel_rfl) ?_ ?_
  · refine Or.inl ⟨by rfl, fun w' hw' => ?_⟩
    unfold Oper.quietAt
    go_simp
  try simp only [List.getElem_toArray, List.getElem_cons_zero, List.getElem_cons_succ, Act.put, List.setIfInBounds_toArray, List.set_cons_zero, List.set_cons_succ]
  refine m_first 1 _ (.slice a0 n0 c0) rfl rfl (by kernel_rfl) (by kernel_rfl) (by kernel_rfl) ?_ ?_
  · refine Or.inl ⟨by rfl, fun w' hw' => ?_⟩
    have qc := (B3_6.out.below hw').cell 0
    simp only [List.getElem?_cons_zero, List.getElem?_cons_succ] at qc
    unfold Oper.quietAt
    go_simp
  try simp only [List.getElem_toArray, List.getElem_cons_zero, List.getElem_cons_succ, Act.put, List.setIfInBounds_toArray, List.set_cons_zero, List.set_cons_succ]
  refine m_first 3 _ (.pointer (some ⟨w.heap.size, 1, none⟩)) rfl rfl (by kernel_rfl) (by kernel_rfl) (by kernel_rfl) ?_ ?_
  · refine Or.inl ⟨by rfl, fun w' hw' => ?_⟩
    unfold Oper.quietAt
    go_simp
  try simp only [List.getElem_toArray, List.getElem_cons_zero, List.getElem_cons_succ, Act.put, List.setIfInBounds_toArray, List.set_cons_zero, List.set_cons_succ]
  refine m_first 4 _ (.slice a1 n1 c1) rfl rfl (by kernel_rfl) (by kernel_rfl) (by kernel_rfl) ?_ ?_
  · refine Or.inl ⟨by rfl, fun w' hw' => ?_⟩
    have qc := (B3_6.out.below hw').cell 1
    simp only [List.getElem?_cons_zero, List.getElem?_cons_succ] at qc
    unfold Oper.quietAt
    go_simp
  try simp only [List.getElem_toArray, List.getElem_cons_zero, List.getElem_cons_succ, Act.put, List.setIfInBounds_toArray, List.set_cons_zero, List.set_cons_succ]
  refine m_call 2 _ (fun v w => Pm w v A) Lr _ lr_nil (fun v => pm_steady v A) rfl rfl (by kernel_rfl) (by kernel_rfl) (by kernel_rfl) (by rfl) ?_ (fun v hv => ?_)
  · intro w' hw' hf
    refine ⟨_, _, by go_simp, (Q4.out _ _ (Sa_6.out.below hw')).mono ?_⟩
    rintro e w'' ⟨u, rfl, hu, gu⟩
    exact ⟨u, rfl, lr_pm hu, hu, gu⟩
  obtain ⟨Mu, rfl, Mu_h, Mu_n⟩ := hv
  try simp only [List.getElem_toArray, List.getElem_cons_zero, List.getElem_cons_succ, Act.put, List.setIfInBounds_toArray, List.set_cons_zero, List.set_cons_succ]
  refine m_call 5 _ (fun v w => Pm w v B) Lr _ lr_nil (fun v => pm_steady v B) rfl rfl (by kernel_rfl) (by kernel_rfl) (by kernel_rfl) (by rfl) ?_ (fun v hv => ?_)
  · intro w' hw' hf
    refine ⟨_, _, by go_simp, (Q5.out _ _ (Sb_6.out.below hw')).mono ?_⟩
    rintro e w'' ⟨u, rfl, hu, gu⟩
    exact ⟨u, rfl, lr_pm hu, hu, gu⟩
  obtain ⟨Mv, rfl, Mv_h, Mv_n⟩ := hv
  try simp only [List.getElem_toArray, List.getElem_cons_zero, List.getElem_cons_succ, Act.put, List.setIfInBounds_toArray, List.set_cons_zero, List.set_cons_succ]
  refine mAny_of_gAny (st := (fun k => if k = 8 then some (6, .cells Mu.toArray 37) else if k = 9 then some (7, .cells Mv.toArray 37) else none)) (two_if Bare _ _ _ _ (bare_of _ _ nl_nils) (bare_of _ _ nl_nils)) (two_if_pair Bare _ _ _ _ _ _ (bare_of _ _ Mu_n) (bare_of _ _ Mv_n)) _ _ _ _ (fun k g old h => by simp at h) ?_
  refine g_make 6 _ (.cells #[.slice none 0 0, .slice none 0 0, .slice none 0 0, .bool false] 37) (fun k => (decide (6 ≤ k ∧ k ≤ 7)) || (decide (8 ≤ k ∧ k ≤ 9) && k != 8)) rfl rfl rfl rfl ?_ ?_ (by kernel_rfl) (by kernel_rfl) (by kernel_rfl) (by kernel_rfl) (fun g11 => ?_)
  · intro a w
    go_simp
  · intro j hj
    simp only [Bool.or_eq_true, Bool.and_eq_true, decide_eq_true_eq, bne_iff_ne] at hj
    rcases hj with hj | ⟨hj, hne⟩
    · left
      rcases (show j = 6 ∨ j = 7 by omega) with rfl | rfl <;> simp
    · right
      rcases (show j = 8 ∨ j = 9 by omega) with rfl | rfl <;> first | exact ⟨_, _, rfl, by decide⟩ | omega
  try simp only [List.getElem_toArray, List.getElem_cons_zero, List.getElem_cons_succ, Act.put, List.setIfInBounds_toArray, List.set_cons_zero, List.set_cons_succ]
  refine g_make 7 _ (.cells #[.slice none 0 0, .slice none 0 0, .slice none 0 0, .bool false] 37) (fun k => (decide (6 ≤ k ∧ k ≤ 7)) || (decide (8 ≤ k ∧ k ≤ 9) && k != 9)) rfl rfl rfl rfl ?_ ?_ (by kernel_rfl) (by kernel_rfl) (by kernel_rfl) (by kernel_rfl) (fun g12 => ?_)
  · intro a w
    go_simp
  · intro j hj
    simp only [Bool.or_eq_true, Bool.and_eq_true, decide_eq_true_eq, bne_iff_ne] at hj
    rcases hj with hj | ⟨hj, hne⟩
    · left
      rcases (show j = 6 ∨ j = 7 by omega) with rfl | rfl <;> simp
    · right
      rcases (show j = 8 ∨ j = 9 by omega) with rfl | rfl <;> first | exact ⟨_, _, rfl, by decide⟩ | omega
  try simp only [List.getElem_toArray, List.getElem_cons_zero, List.getElem_cons_succ, Act.put, List.setIfInBounds_toArray, List.set_cons_zero, List.set_cons_succ]
  refine g_store 8 6 _ (.cells Mu.toArray 37) g11 (.cells #[.slice none 0 0, .slice none 0 0, .slice none 0 0, .bool false] 37) (fun k => decide (8 ≤ k ∧ k ≤ 9) && k != 8) rfl rfl rfl rfl ?_ (by kernel_rfl) (by kernel_rfl) (by kernel_rfl) (by kernel_rfl) (by simp [upd]) ?_ ?_
  · intro j hj
    simp only [Bool.and_eq_true, decide_eq_true_eq, bne_iff_ne] at hj
    rcases (show j = 8 ∨ j = 9 by omega) with rfl | rfl <;> first | exact ⟨_, _, rfl, by decide⟩ | omega
  · exact stores_whole 37 _ _ rfl g11 Mu [.slice none 0 0, .slice none 0 0, .slice none 0 0, .bool false] rfl rfl Mu_h.len Mu_h.is Mu_h.one
  try simp only [List.getElem_toArray, List.getElem_cons_zero, List.getElem_cons_succ, Act.put, List.setIfInBounds_toArray, List.set_cons_zero, List.set_cons_succ]
  refine g_store 9 7 _ (.cells Mv.toArray 37) g12 (.cells #[.slice none 0 0, .slice none 0 0, .slice none 0 0, .bool false] 37) (fun k => decide (8 ≤ k ∧ k ≤ 9) && k != 9) rfl rfl rfl rfl ?_ (by kernel_rfl) (by kernel_rfl) (by kernel_rfl) (by kernel_rfl) (by simp [upd]) ?_ ?_
  · intro j hj
    simp only [Bool.and_eq_true, decide_eq_true_eq, bne_iff_ne] at hj
    rcases (show j = 8 ∨ j = 9 by omega) with rfl | rfl <;> first | exact ⟨_, _, rfl, by decide⟩ | omega
  · exact stores_whole 37 _ _ rfl g12 Mv [.slice none 0 0, .slice none 0 0, .slice none 0 0, .bool false] rfl rfl Mv_h.len Mv_h.is Mv_h.one
  try simp only [List.getElem_toArray, List.getElem_cons_zero, List.getElem_cons_succ, Act.put, List.setIfInBounds_toArray, List.set_cons_zero, List.set_cons_succ]
  refine ⟨by kernel_rfl, fun w7 hV hf => ?_⟩
  have own11 := hV.own 6 _ (by simp [upd]; rfl)
  have B11_7 : Hid (At 37 w7 g11 Mu) := own11.2.2
  have szB11 : w.heap.size ≤ g11 := by have h1 := own11.1; have h2 := G_6.out.size; dsimp only at h1; omega
  have nlB3B11 : w.heap.size < g11 := by have h1 := own11.1; have h2 := B3_6.out.lt; dsimp only at h1; omega
  have nlB4B11 : (w.heap.size + 1) < g11 := by have h1 := own11.1; have h2 := B4_6.out.lt; dsimp only at h1; omega
  have nlB5B11 : (w.heap.size + 1 + 1) < g11 := by have h1 := own11.1; have h2 := B5_6.out.lt; dsimp only at h1; omega
  have nlB7B11 : w3.heap.size < g11 := by have h1 := own11.1; have h2 := B7_6.out.lt; dsimp only at h1; omega
  have nlB9B11 : w5.heap.size < g11 := by have h1 := own11.1; have h2 := B9_6.out.lt; dsimp only at h1; omega
  have own12 := hV.own 7 _ (by simp [upd]; rfl)
  have B12_7 : Hid (At 37 w7 g12 Mv) := own12.2.2
  have szB12 : w.heap.size ≤ g12 := by have h1 := own12.1; have h2 := G_6.out.size; dsimp only at h1; omega
  have nlB3B12 : w.heap.size < g12 := by have h1 := own12.1; have h2 := B3_6.out.lt; dsimp only at h1; omega
  have nlB4B12 : (w.heap.size + 1) < g12 := by have h1 := own12.1; have h2 := B4_6.out.lt; dsimp only at h1; omega
  have nlB5B12 : (w.heap.size + 1 + 1) < g12 := by have h1 := own12.1; have h2 := B5_6.out.lt; dsimp only at h1; omega
  have nlB7B12 : w3.heap.size < g12 := by have h1 := own12.1; have h2 := B7_6.out.lt; dsimp only at h1; omega
  have nlB9B12 : w5.heap.size < g12 := by have h1 := own12.1; have h2 := B9_6.out.lt; dsimp only at h1; omega
  have Pu_7 : Hid (Pm w7 (.agg Mu.toArray) A) := hf.1.2
  have Pv_7 : Hid (Pm w7 (.agg Mv.toArray) B) := hf.2
  have g := hV.bel
  have B3_7 := hid (B3_6.out.below g)
  have B4_7 := hid (B4_6.out.below g)
  have B5_7 := hid (B5_6.out.below g)
  have B7_7 := hid (B7_6.out.below g)
  have B9_7 := hid (B9_6.out.below g)
  have Sa_7 := hid (Sa_6.out.below g)
  have Sb_7 := hid (Sb_6.out.below g)
  have E_7 := hid (E_6.out.grown g)
  have G_7 := hid (G_6.out.trans (g.mono G_6.out.size))
  clear hV hf g own11 own12 B3_6 B4_6 B5_6 B7_6 B9_6 Sa_6 Sb_6 E_6 G_6
  clear Sa_7
  clear Sb_7
  go_wp2_with fail
  refine wp_region_grow_m (ob := (fun k => if k = 10 then some (.cells #[.slice none 0 0, .slice none 0 0, .slice none 0 0, .bool false] 37) else none)) (by kernel_rfl) ?_
  simp only [List.size_toArray, List.length_cons, List.length_nil, Nat.reduceAdd, Array.replicate_succ, Array.replicate_zero, List.push_toArray, List.nil_append, List.cons_append]
  refine m_first 0 _ (.agg ka.toArray) rfl rfl (by kernel_rfl) (by kernel_rfl) (by kernel_rfl) ?_ ?_
  · refine Or.inl ⟨by rfl, fun w' hw' => ?_⟩
    exact quiet_load 25 _ rfl _ 0 rfl ka _ (at_mid (B4_7.out.below hw') 0 _ (by simp)) Tryd.underlying25 rfl ka_h.il
  try simp only [List.getElem_toArray, List.getElem_cons_zero, List.getElem_cons_succ, Act.put, List.setIfInBounds_toArray, List.set_cons_zero, List.set_cons_succ]
  refine m_first 2 _ (.agg Mu.toArray) rfl rfl (by kernel_rfl) (by kernel_rfl) (by kernel_rfl) ?_ ?_
  · refine Or.inl ⟨by rfl, fun w' hw' => ?_⟩
    exact quiet_load 37 _ rfl _ 0 rfl Mu _ (at_mid (B11_7.out.below hw') 0 _ (by simp)) Tryd.underlying37 rfl Mu_h.il
  try simp only [List.getElem_toArray, List.getElem_cons_zero, List.getElem_cons_succ, Act.put, List.setIfInBounds_toArray, List.set_cons_zero, List.set_cons_succ]
  refine m_first 4 _ (.agg kb.toArray) rfl rfl (by kernel_rfl) (by kernel_rfl) (by kernel_rfl) ?_ ?_
  · refine Or.inl ⟨by rfl, fun w' hw' => ?_⟩
    exact quiet_load 25 _ rfl _ 0 rfl kb _ (at_mid (B5_7.out.below hw') 0 _ (by simp)) Tryd.underlying25 rfl kb_h.il
  try simp only [List.getElem_toArray, List.getElem_cons_zero, List.getElem_cons_succ, Act.put, List.setIfInBounds_toArray, List.set_cons_zero, List.set_cons_succ]
  refine m_first 6 _ (.agg Mv.toArray) rfl rfl (by kernel_rfl) (by kernel_rfl) (by kernel_rfl) ?_ ?_
  · refine Or.inl ⟨by rfl, fun w' hw' => ?_⟩
    exact quiet_load 37 _ rfl _ 0 rfl Mv _ (at_mid (B12_7.out.below hw') 0 _ (by simp)) Tryd.underlying37 rfl Mv_h.il
  try simp only [List.getElem_toArray, List.getElem_cons_zero, List.getElem_cons_succ, Act.put, List.setIfInBounds_toArray, List.set_cons_zero, List.set_cons_succ]
  refine m_call 1 _ (fun v w => Num w v K) Sh _ sh_nil (fun v => num_steady v K) rfl rfl (by kernel_rfl) (by kernel_rfl) (by kernel_rfl) (by rfl) ?_ (fun v hv => ?_)
  · intro w' hw' hf
    refine ⟨_, _, by go_simp, (Q6.out _).mono ?_⟩
    rintro e w'' ⟨u, rfl, hu, gu⟩
    exact ⟨u, rfl, sh_num hu, hu, gu⟩
  obtain ⟨uk, lk, ck, rfl⟩ := hv
  try simp only [List.getElem_toArray, List.getElem_cons_zero, List.getElem_cons_succ, Act.put, List.setIfInBounds_toArray, List.set_cons_zero, List.set_cons_succ]
  refine m_call 3 _ (fun v w => Pm w v KA) Lr _ lr_nil (fun v => pm_steady v KA) rfl rfl (by kernel_rfl) (by kernel_rfl) (by kernel_rfl) (by rfl) ?_ (fun v hv => ?_)
  · intro w' hw' hf
    refine ⟨_, _, by go_simp, (Q7.out _ _ _ hf.2 (Pu_7.out.below hw')).mono ?_⟩
    rintro e w'' ⟨u, rfl, hu, gu⟩
    exact ⟨u, rfl, lr_pm hu, hu, gu⟩
  obtain ⟨M2, rfl, M2_h, M2_n⟩ := hv
  try simp only [List.getElem_toArray, List.getElem_cons_zero, List.getElem_cons_succ, Act.put, List.setIfInBounds_toArray, List.set_cons_zero, List.set_cons_succ]
  refine m_call 5 _ (fun v w => Num w v M) Sh _ sh_nil (fun v => num_steady v M) rfl rfl (by kernel_rfl) (by kernel_rfl) (by kernel_rfl) (by rfl) ?_ (fun v hv => ?_)
  · intro w' hw' hf
    refine ⟨_, _, by go_simp, (Q8.out _).mono ?_⟩
    rintro e w'' ⟨u, rfl, hu, gu⟩
    exact ⟨u, rfl, sh_num hu, hu, gu⟩
  obtain ⟨um, lm, cm, rfl⟩ := hv
  try simp only [List.getElem_toArray, List.getElem_cons_zero, List.getElem_cons_succ, Act.put, List.setIfInBounds_toArray, List.set_cons_zero, List.set_cons_succ]
  refine m_call 7 _ (fun v w => Pm w v MB) Lr _ lr_nil (fun v => pm_steady v MB) rfl rfl (by kernel_rfl) (by kernel_rfl) (by kernel_rfl) (by rfl) ?_ (fun v hv => ?_)
  · intro w' hw' hf
    refine ⟨_, _, by go_simp, (Q9.out _ _ _ hf.2 (Pv_7.out.below hw')).mono ?_⟩
    rintro e w'' ⟨u, rfl, hu, gu⟩
    exact ⟨u, rfl, lr_pm hu, hu, gu⟩
  obtain ⟨M3, rfl, M3_h, M3_n⟩ := hv
  try simp only [List.getElem_toArray, List.getElem_cons_zero, List.getElem_cons_succ, Act.put, List.setIfInBounds_toArray, List.set_cons_zero, List.set_cons_succ]
  refine m_call 8 _ (fun v w => Num w v D25) Sh _ sh_nil (fun v => num_steady v D25) rfl rfl (by kernel_rfl) (by kernel_rfl) (by kernel_rfl) (by rfl) ?_ (fun v hv => ?_)
  · intro w' hw' hf
    refine ⟨_, _, by go_simp, (Q10.out _).mono ?_⟩
    rintro e w'' ⟨u, rfl, hu, gu⟩
    exact ⟨u, rfl, sh_num hu, hu, gu⟩
  obtain ⟨ud, ld, cd, rfl⟩ := hv
  try simp only [List.getElem_toArray, List.getElem_cons_zero, List.getElem_cons_succ, Act.put, List.setIfInBounds_toArray, List.set_cons_zero, List.set_cons_succ]
  refine m_call 9 _ (fun v w => Pm w v (KA.add MB)) Lr _ lr_nil (fun v => pm_steady v (KA.add MB)) rfl rfl (by kernel_rfl) (by kernel_rfl) (by kernel_rfl) (by rfl) ?_ (fun v hv => ?_)
  · intro w' hw' hf
    refine ⟨_, _, by go_simp, (Q11.out _ _ _ _ hf.1.1.1.2 hf.1.2 hf.2).mono ?_⟩
    rintro e w'' ⟨u, rfl, hu, gu⟩
    exact ⟨u, rfl, lr_pm hu, hu, gu⟩
  obtain ⟨Ms, rfl, Ms_h, Ms_n⟩ := hv
  try simp only [List.getElem_toArray, List.getElem_cons_zero, List.getElem_cons_succ, Act.put, List.setIfInBounds_toArray, List.set_cons_zero, List.set_cons_succ]
  refine mAny_of_gAny (st := (fun k => if k = 11 then some (10, .cells Ms.toArray 37) else none)) (one_if Bare _ _ (bare_of _ _ nl_nils)) (one_if_pair Bare _ _ _ (bare_of _ _ Ms_n)) _ _ _ _ (fun k g old h => by simp at h) ?_
  refine g_make 10 _ (.cells #[.slice none 0 0, .slice none 0 0, .slice none 0 0, .bool false] 37) (fun k => (decide (10 ≤ k ∧ k ≤ 10)) || (decide (11 ≤ k ∧ k ≤ 11) && k != 11)) rfl rfl rfl rfl ?_ ?_ (by kernel_rfl) (by kernel_rfl) (by kernel_rfl) (by kernel_rfl) (fun g13 => ?_)
  · intro a w
    go_simp
  · intro j hj
    simp only [Bool.or_eq_true, Bool.and_eq_true, decide_eq_true_eq, bne_iff_ne] at hj
    rcases hj with hj | ⟨hj, hne⟩
    · left
      rcases (show j = 10 by omega) with rfl <;> simp
    · right
      rcases (show j = 11 by omega) with rfl <;> first | exact ⟨_, _, rfl, by decide⟩ | omega
  try simp only [List.getElem_toArray, List.getElem_cons_zero, List.getElem_cons_succ, Act.put, List.setIfInBounds_toArray, List.set_cons_zero, List.set_cons_succ]
  refine g_store 11 10 _ (.cells Ms.toArray 37) g13 (.cells #[.slice none 0 0, .slice none 0 0, .slice none 0 0, .bool false] 37) (fun k => decide (11 ≤ k ∧ k ≤ 11) && k != 11) rfl rfl rfl rfl ?_ (by kernel_rfl) (by kernel_rfl) (by kernel_rfl) (by kernel_rfl) (by simp [upd]) ?_ ?_
  · intro j hj
    simp only [Bool.and_eq_true, decide_eq_true_eq, bne_iff_ne] at hj
    rcases (show j = 11 by omega) with rfl <;> first | exact ⟨_, _, rfl, by decide⟩ | omega
  · exact stores_whole 37 _ _ rfl g13 Ms [.slice none 0 0, .slice none 0 0, .slice none 0 0, .bool false] rfl rfl Ms_h.len Ms_h.is Ms_h.one
  try simp only [List.getElem_toArray, List.getElem_cons_zero, List.getElem_cons_succ, Act.put, List.setIfInBounds_toArray, List.set_cons_zero, List.set_cons_succ]
  refine ⟨by kernel_rfl, fun w8 hV hf => ?_⟩
  have own13 := hV.own 10 _ (by simp [upd]; rfl)
  have B13_8 : Hid (At 37 w8 g13 Ms) := own13.2.2
  have szB13 : w.heap.size ≤ g13 := by have h1 := own13.1; have h2 := G_7.out.size; dsimp only at h1; omega
  have nlB3B13 : w.heap.size < g13 := by have h1 := own13.1; have h2 := B3_7.out.lt; dsimp only at h1; omega
  have nlB4B13 : (w.heap.size + 1) < g13 := by have h1 := own13.1; have h2 := B4_7.out.lt; dsimp only at h1; omega
  have nlB5B13 : (w.heap.size + 1 + 1) < g13 := by have h1 := own13.1; have h2 := B5_7.out.lt; dsimp only at h1; omega
  have nlB7B13 : w3.heap.size < g13 := by have h1 := own13.1; have h2 := B7_7.out.lt; dsimp only at h1; omega
  have nlB9B13 : w5.heap.size < g13 := by have h1 := own13.1; have h2 := B9_7.out.lt; dsimp only at h1; omega
  have nlB11B13 : g11 < g13 := by have h1 := own13.1; have h2 := B11_7.out.lt; dsimp only at h1; omega
  have nlB12B13 : g12 < g13 := by have h1 := own13.1; have h2 := B12_7.out.lt; dsimp only at h1; omega
  have Nk_8 : Hid (Num w8 (.slice uk lk ck) K) := hf.1.1.1.1.1.2
  have P2_8 : Hid (Pm w8 (.agg M2.toArray) KA) := hf.1.1.1.1.2
  have Nm_8 : Hid (Num w8 (.slice um lm cm) M) := hf.1.1.1.2
  have P3_8 : Hid (Pm w8 (.agg M3.toArray) MB) := hf.1.1.2
  have Nd_8 : Hid (Num w8 (.slice ud ld cd) D25) := hf.1.2
  have Ps_8 : Hid (Pm w8 (.agg Ms.toArray) (KA.add MB)) := hf.2
  have g := hV.bel
  have B3_8 := hid (B3_7.out.below g)
  have B4_8 := hid (B4_7.out.below g)
  have B5_8 := hid (B5_7.out.below g)
  have B7_8 := hid (B7_7.out.below g)
  have B9_8 := hid (B9_7.out.below g)
  have B11_8 := hid (B11_7.out.below g)
  have B12_8 := hid (B12_7.out.below g)
  have Pu_8 := hid (Pu_7.out.below g)
  have Pv_8 := hid (Pv_7.out.below g)
  have E_8 := hid (E_7.out.grown g)
  have G_8 := hid (G_7.out.trans (g.mono G_7.out.size))
  clear hV hf g own13 B3_7 B4_7 B5_7 B7_7 B9_7 B11_7 B12_7 Pu_7 Pv_7 E_7 G_7
  go_wp2_with fail
  have E_8' := hid (E_8.out.grown (Below.refl _ w8).drew)
  have Pu_8' := hid (Pu_8.out.below (Below.refl _ w8).drew)
  have Pv_8' := hid (Pv_8.out.below (Below.refl _ w8).drew)
  have Nk_8' := hid (Nk_8.out.below (Below.refl _ w8).drew)
  have P2_8' := hid (P2_8.out.below (Below.refl _ w8).drew)
  have Nm_8' := hid (Nm_8.out.below (Below.refl _ w8).drew)
  have P3_8' := hid (P3_8.out.below (Below.refl _ w8).drew)
  have Nd_8' := hid (Nd_8.out.below (Below.refl _ w8).drew)
  have Ps_8' := hid (Ps_8.out.below (Below.refl _ w8).drew)
  have K8 : At 25 w8.drew (w.heap.size + 1) ka ∧ At 32 w8.drew w3.heap.size pa ∧ At 25 w8.drew (w.heap.size + 1 + 1) kb ∧ At 32 w8.drew w5.heap.size pb ∧ At 37 w8.drew g13 Ms ∧ At 37 w8.drew g11 Mu := And.intro B4_8.out.drew (And.intro B7_8.out.drew (And.intro B5_8.out.drew (And.intro B9_8.out.drew (And.intro B13_8.out.drew (B11_8.out.drew)))))
  refine wp_region_held_drew (S := fun w' => At 25 w' (w.heap.size + 1) ka ∧ At 32 w' w3.heap.size pa ∧ At 25 w' (w.heap.size + 1 + 1) kb ∧ At 32 w' w5.heap.size pb ∧ At 37 w' g13 Ms ∧ At 37 w' g11 Mu) (by kernel_rfl) K8 (fun hHeld => ?_)
  clear K8
  refine h_take 0 (v := .agg ka.toArray) rfl (by kernel_rfl) (by kernel_rfl) (by kernel_rfl) (fun _ _ _ h => h) (by rfl) ?hyr9_0 (by assumption) ?_
  case hyr9_0 =>
    intro w' hSw
    exact load_run 25 _ rfl _ 0 rfl ka _ (at_mid hSw.1 0 _ (by simp)) Tryd.underlying25 rfl ka_h.il
  try simp only [Act.put, List.setIfInBounds_toArray, List.set_cons_zero, List.set_cons_succ]
  refine h_take 1 (v := .agg pa.toArray) rfl (by kernel_rfl) (by kernel_rfl) (by kernel_rfl) (fun _ _ _ h => h) (by rfl) ?hyr9_1 (by assumption) ?_
  case hyr9_1 =>
    intro w' hSw
    exact load_run 32 _ rfl _ 0 rfl pa _ (at_mid hSw.2.1 0 _ (by simp)) Tryd.underlying32 rfl pa_h.il
  try simp only [Act.put, List.setIfInBounds_toArray, List.set_cons_zero, List.set_cons_succ]
  refine h_take 2 (v := .agg kb.toArray) rfl (by kernel_rfl) (by kernel_rfl) (by kernel_rfl) (fun _ _ _ h => h) (by rfl) ?hyr9_2 (by assumption) ?_
  case hyr9_2 =>
    intro w' hSw
    exact load_run 25 _ rfl _ 0 rfl kb _ (at_mid hSw.2.2.1 0 _ (by simp)) Tryd.underlying25 rfl kb_h.il
  try simp only [Act.put, List.setIfInBounds_toArray, List.set_cons_zero, List.set_cons_succ]
  refine h_take 3 (v := .agg pb.toArray) rfl (by kernel_rfl) (by kernel_rfl) (by kernel_rfl) (fun _ _ _ h => h) (by rfl) ?hyr9_3 (by assumption) ?_
  case hyr9_3 =>
    intro w' hSw
    exact load_run 32 _ rfl _ 0 rfl pb _ (at_mid hSw.2.2.2.1 0 _ (by simp)) Tryd.underlying32 rfl pb_h.il
  try simp only [Act.put, List.setIfInBounds_toArray, List.set_cons_zero, List.set_cons_succ]
  refine h_take 6 (v := .agg Ms.toArray) rfl (by kernel_rfl) (by kernel_rfl) (by kernel_rfl) (fun _ _ _ h => h) (by rfl) ?hyr9_6 (by assumption) ?_
  case hyr9_6 =>
    intro w' hSw
    exact load_run 37 _ rfl _ 0 rfl Ms _ (at_mid hSw.2.2.2.2.1 0 _ (by simp)) Tryd.underlying37 rfl Ms_h.il
  try simp only [Act.put, List.setIfInBounds_toArray, List.set_cons_zero, List.set_cons_succ]
  refine h_call 4 rfl (by kernel_rfl) (by rfl) (fun Kk hK => ?_)
  go_simp
  (refine (Q12.out _ E_8'.out).mono ?_)
  rintro e w9 ⟨rfl, g0⟩
  have g : Below w8.heap.size w8 w9 := (Below.refl _ w8).drew.trans g0
  clear g0
  have B3_9 := hid (B3_8.out.below g)
  have B4_9 := hid (B4_8.out.below g)
  have B5_9 := hid (B5_8.out.below g)
  have B7_9 := hid (B7_8.out.below g)
  have B9_9 := hid (B9_8.out.below g)
  have B11_9 := hid (B11_8.out.below g)
  have B12_9 := hid (B12_8.out.below g)
  have B13_9 := hid (B13_8.out.below g)
  have Pu_9 := hid (Pu_8.out.below g)
  have Pv_9 := hid (Pv_8.out.below g)
  have Nk_9 := hid (Nk_8.out.below g)
  have P2_9 := hid (P2_8.out.below g)
  have Nm_9 := hid (Nm_8.out.below g)
  have P3_9 := hid (P3_8.out.below g)
  have Nd_9 := hid (Nd_8.out.below g)
  have Ps_9 := hid (Ps_8.out.below g)
  have E_9 := hid (E_8.out.grown g)
  have G_9 := hid (G_8.out.trans (g.mono G_8.out.size))
  clear g B3_8 B4_8 B5_8 B7_8 B9_8 B11_8 B12_8 B13_8 Pu_8 Pv_8 Nk_8 P2_8 Nm_8 P3_8 Nd_8 Ps_8 E_8 G_8
  clear Pu_8' Pv_8' Nk_8' P2_8' Nm_8' P3_8' Nd_8' Ps_8' E_8'
  have K9 := And.intro B4_9.out (And.intro B7_9.out (And.intro B5_9.out (And.intro B9_9.out (And.intro B13_9.out (B11_9.out)))))
  go_wp2_with fail
  clear hHeld
  refine hK.out _ _ K9 (fun hHeld => ?_)
  clear hK Kk K9
  try simp only [Act.put, List.setIfInBounds_toArray, List.set_cons_zero, List.set_cons_succ]
  refine h_call 5 rfl (by kernel_rfl) (by rfl) (fun Kk hK => ?_)
  go_simp
  (refine (Q13.out _).mono ?_)
  rintro e w10 ⟨g1, rfl, hs1, -, g0⟩
  have g := g0
  clear g0
  have B3_10 := hid (B3_9.out.below g)
  have B4_10 := hid (B4_9.out.below g)
  have B5_10 := hid (B5_9.out.below g)
  have B7_10 := hid (B7_9.out.below g)
  have B9_10 := hid (B9_9.out.below g)
  have B11_10 := hid (B11_9.out.below g)
  have B12_10 := hid (B12_9.out.below g)
  have B13_10 := hid (B13_9.out.below g)
  have Pu_10 := hid (Pu_9.out.below g)
  have Pv_10 := hid (Pv_9.out.below g)
  have Nk_10 := hid (Nk_9.out.below g)
  have P2_10 := hid (P2_9.out.below g)
  have Nm_10 := hid (Nm_9.out.below g)
  have P3_10 := hid (P3_9.out.below g)
  have Nd_10 := hid (Nd_9.out.below g)
  have Ps_10 := hid (Ps_9.out.below g)
  have E_10 := hid (E_9.out.grown g)
  have G_10 := hid (G_9.out.trans (g.mono G_9.out.size))
  clear g B3_9 B4_9 B5_9 B7_9 B9_9 B11_9 B12_9 B13_9 Pu_9 Pv_9 Nk_9 P2_9 Nm_9 P3_9 Nd_9 Ps_9 E_9 G_9
  have S1_10 : Hid (SK .u8 w10 (.slice (some ⟨g1, 0, none⟩) 32 32) ls) := hs1
  clear hs1
  have K10 := And.intro B4_10.out (And.intro B7_10.out (And.intro B5_10.out (And.intro B9_10.out (And.intro B13_10.out (B11_10.out)))))
  go_wp2_with fail
  clear hHeld
  refine hK.out _ _ K10 (fun hHeld => ?_)
  clear hK Kk K10
  try simp only [Act.put, List.setIfInBounds_toArray, List.set_cons_zero, List.set_cons_succ]
  refine h_call 7 rfl (by kernel_rfl) (by rfl) (fun Kk hK => ?_)
  go_simp
  (refine (Q14.out _ _ Ps_10.out).mono ?_)
  rintro e w11 ⟨ub, rfl, hsb, g0⟩
  have g := g0
  clear g0
  have B3_11 := hid (B3_10.out.below g)
  have B4_11 := hid (B4_10.out.below g)
  have B5_11 := hid (B5_10.out.below g)
  have B7_11 := hid (B7_10.out.below g)
  have B9_11 := hid (B9_10.out.below g)
  have B11_11 := hid (B11_10.out.below g)
  have B12_11 := hid (B12_10.out.below g)
  have B13_11 := hid (B13_10.out.below g)
  have Pu_11 := hid (Pu_10.out.below g)
  have Pv_11 := hid (Pv_10.out.below g)
  have Nk_11 := hid (Nk_10.out.below g)
  have P2_11 := hid (P2_10.out.below g)
  have Nm_11 := hid (Nm_10.out.below g)
  have P3_11 := hid (P3_10.out.below g)
  have Nd_11 := hid (Nd_10.out.below g)
  have Ps_11 := hid (Ps_10.out.below g)
  have S1_11 := hid (S1_10.out.below g)
  have E_11 := hid (E_10.out.grown g)
  have G_11 := hid (G_10.out.trans (g.mono G_10.out.size))
  clear g B3_10 B4_10 B5_10 B7_10 B9_10 B11_10 B12_10 B13_10 Pu_10 Pv_10 Nk_10 P2_10 Nm_10 P3_10 Nd_10 Ps_10 S1_10 E_10 G_10
  have Sb_11 : Hid (SK .u8 w11 ub ls) := hsb
  clear hsb
  have K11 := And.intro B4_11.out (And.intro B7_11.out (And.intro B5_11.out (And.intro B9_11.out (And.intro B13_11.out (B11_11.out)))))
  go_wp2_with fail
  clear hHeld
  refine hK.out _ _ K11 (fun hHeld => ?_)
  clear hK Kk K11
  try simp only [Act.put, List.setIfInBounds_toArray, List.set_cons_zero, List.set_cons_succ]
  refine h_call 8 rfl (by kernel_rfl) (by rfl) (fun Kk hK => ?_)
  go_simp
  (refine (Q15.out _ _ _ S1_11.out Sb_11.out).mono ?_)
  rintro e w12 ⟨rfl, g0⟩
  have g := g0
  clear g0
  have B3_12 := hid (B3_11.out.below g)
  have B4_12 := hid (B4_11.out.below g)
  have B5_12 := hid (B5_11.out.below g)
  have B7_12 := hid (B7_11.out.below g)
  have B9_12 := hid (B9_11.out.below g)
  have B11_12 := hid (B11_11.out.below g)
  have B12_12 := hid (B12_11.out.below g)
  have B13_12 := hid (B13_11.out.below g)
  have Pu_12 := hid (Pu_11.out.below g)
  have Pv_12 := hid (Pv_11.out.below g)
  have Nk_12 := hid (Nk_11.out.below g)
  have P2_12 := hid (P2_11.out.below g)
  have Nm_12 := hid (Nm_11.out.below g)
  have P3_12 := hid (P3_11.out.below g)
  have Nd_12 := hid (Nd_11.out.below g)
  have Ps_12 := hid (Ps_11.out.below g)
  have S1_12 := hid (S1_11.out.below g)
  have Sb_12 := hid (Sb_11.out.below g)
  have E_12 := hid (E_11.out.grown g)
  have G_12 := hid (G_11.out.trans (g.mono G_11.out.size))
  clear g B3_11 B4_11 B5_11 B7_11 B9_11 B11_11 B12_11 B13_11 Pu_11 Pv_11 Nk_11 P2_11 Nm_11 P3_11 Nd_11 Ps_11 S1_11 Sb_11 E_11 G_11
  have K12 := And.intro B4_12.out (And.intro B7_12.out (And.intro B5_12.out (And.intro B9_12.out (And.intro B13_12.out (B11_12.out)))))
  go_wp2_with fail
  clear hHeld
  refine hK.out _ _ K12 (fun hHeld => ?_)
  clear hK Kk K12
  try simp only [Act.put, List.setIfInBounds_toArray, List.set_cons_zero, List.set_cons_succ]
  refine h_take 9 (v := .bool true) rfl (by kernel_rfl) (by kernel_rfl) (by kernel_rfl) (fun _ _ _ h => h) (by rfl) ?hyr9_9 (by assumption) ?_
  case hyr9_9 =>
    intro w' hSw
    clear hSw
    go_simp
  try simp only [Act.put, List.setIfInBounds_toArray, List.set_cons_zero, List.set_cons_succ]
  refine h_take 10 (v := .agg pa.toArray) rfl (by kernel_rfl) (by kernel_rfl) (by kernel_rfl) (fun _ _ _ h => h) (by rfl) ?hyr9_10 (by assumption) ?_
  case hyr9_10 =>
    intro w' hSw
    exact load_run 32 _ rfl _ 0 rfl pa _ (at_mid hSw.2.1 0 _ (by simp)) Tryd.underlying32 rfl pa_h.il
  try simp only [Act.put, List.setIfInBounds_toArray, List.set_cons_zero, List.set_cons_succ]
  refine h_take 13 (v := .agg Mu.toArray) rfl (by kernel_rfl) (by kernel_rfl) (by kernel_rfl) (fun _ _ _ h => h) (by rfl) ?hyr9_13 (by assumption) ?_
  case hyr9_13 =>
    intro w' hSw
    exact load_run 37 _ rfl _ 0 rfl Mu _ (at_mid hSw.2.2.2.2.2 0 _ (by simp)) Tryd.underlying37 rfl Mu_h.il
  try simp only [Act.put, List.setIfInBounds_toArray, List.set_cons_zero, List.set_cons_succ]
  refine h_call 11 rfl (by kernel_rfl) (by rfl) (fun Kk hK => ?_)
  go_simp
  (refine (Q16.out _ E_12.out).mono ?_)
  rintro e w13 ⟨rfl, g0⟩
  have g := g0
  clear g0
  have B3_13 := hid (B3_12.out.below g)
  have B4_13 := hid (B4_12.out.below g)
  have B5_13 := hid (B5_12.out.below g)
  have B7_13 := hid (B7_12.out.below g)
  have B9_13 := hid (B9_12.out.below g)
  have B11_13 := hid (B11_12.out.below g)
  have B12_13 := hid (B12_12.out.below g)
  have B13_13 := hid (B13_12.out.below g)
  have Pu_13 := hid (Pu_12.out.below g)
  have Pv_13 := hid (Pv_12.out.below g)
  have Nk_13 := hid (Nk_12.out.below g)
  have P2_13 := hid (P2_12.out.below g)
  have Nm_13 := hid (Nm_12.out.below g)
  have P3_13 := hid (P3_12.out.below g)
  have Nd_13 := hid (Nd_12.out.below g)
  have Ps_13 := hid (Ps_12.out.below g)
  have S1_13 := hid (S1_12.out.below g)
  have Sb_13 := hid (Sb_12.out.below g)
  have E_13 := hid (E_12.out.grown g)
  have G_13 := hid (G_12.out.trans (g.mono G_12.out.size))
  clear g B3_12 B4_12 B5_12 B7_12 B9_12 B11_12 B12_12 B13_12 Pu_12 Pv_12 Nk_12 P2_12 Nm_12 P3_12 Nd_12 Ps_12 S1_12 Sb_12 E_12 G_12
  have K13 := And.intro B4_13.out (And.intro B7_13.out (And.intro B5_13.out (And.intro B9_13.out (And.intro B13_13.out (B11_13.out)))))
  go_wp2_with fail
  clear hHeld
  refine hK.out _ _ K13 (fun hHeld => ?_)
  clear hK Kk K13
  try simp only [Act.put, List.setIfInBounds_toArray, List.set_cons_zero, List.set_cons_succ]
  refine h_call 12 rfl (by kernel_rfl) (by rfl) (fun Kk hK => ?_)
  go_simp
  (refine (Q17.out _).mono ?_)
  rintro e w14 ⟨vo, rfl, hno, g0⟩
  have g := g0
  clear g0
  have B3_14 := hid (B3_13.out.below g)
  have B4_14 := hid (B4_13.out.below g)
  have B5_14 := hid (B5_13.out.below g)
  have B7_14 := hid (B7_13.out.below g)
  have B9_14 := hid (B9_13.out.below g)
  have B11_14 := hid (B11_13.out.below g)
  have B12_14 := hid (B12_13.out.below g)
  have B13_14 := hid (B13_13.out.below g)
  have Pu_14 := hid (Pu_13.out.below g)
  have Pv_14 := hid (Pv_13.out.below g)
  have Nk_14 := hid (Nk_13.out.below g)
  have P2_14 := hid (P2_13.out.below g)
  have Nm_14 := hid (Nm_13.out.below g)
  have P3_14 := hid (P3_13.out.below g)
  have Nd_14 := hid (Nd_13.out.below g)
  have Ps_14 := hid (Ps_13.out.below g)
  have S1_14 := hid (S1_13.out.below g)
  have Sb_14 := hid (Sb_13.out.below g)
  have E_14 := hid (E_13.out.grown g)
  have G_14 := hid (G_13.out.trans (g.mono G_13.out.size))
  clear g B3_13 B4_13 B5_13 B7_13 B9_13 B11_13 B12_13 B13_13 Pu_13 Pv_13 Nk_13 P2_13 Nm_13 P3_13 Nd_13 Ps_13 S1_13 Sb_13 E_13 G_13
  obtain ⟨uo, lo, co, rfl⟩ := hno.shape
  have No_14 : Hid (Num w14 (.slice uo lo co) L25) := hno
  clear hno
  have K14 := And.intro B4_14.out (And.intro B7_14.out (And.intro B5_14.out (And.intro B9_14.out (And.intro B13_14.out (B11_14.out)))))
  go_wp2_with fail
  clear hHeld
  refine hK.out _ _ K14 (fun hHeld => ?_)
  clear hK Kk K14
  try simp only [Act.put, List.setIfInBounds_toArray, List.set_cons_zero, List.set_cons_succ]
  refine h_call 14 rfl (by kernel_rfl) (by rfl) (fun Kk hK => ?_)
  go_simp
  (refine (Q18.out _ _ _ No_14.out Pu_14.out).mono ?_)
  rintro e w15 ⟨uu, rfl, hu, g0⟩
  have g := g0
  clear g0
  have B3_15 := hid (B3_14.out.below g)
  have B4_15 := hid (B4_14.out.below g)
  have B5_15 := hid (B5_14.out.below g)
  have B7_15 := hid (B7_14.out.below g)
  have B9_15 := hid (B9_14.out.below g)
  have B11_15 := hid (B11_14.out.below g)
  have B12_15 := hid (B12_14.out.below g)
  have B13_15 := hid (B13_14.out.below g)
  have Pu_15 := hid (Pu_14.out.below g)
  have Pv_15 := hid (Pv_14.out.below g)
  have Nk_15 := hid (Nk_14.out.below g)
  have P2_15 := hid (P2_14.out.below g)
  have Nm_15 := hid (Nm_14.out.below g)
  have P3_15 := hid (P3_14.out.below g)
  have Nd_15 := hid (Nd_14.out.below g)
  have Ps_15 := hid (Ps_14.out.below g)
  have S1_15 := hid (S1_14.out.below g)
  have Sb_15 := hid (Sb_14.out.below g)
  have No_15 := hid (No_14.out.below g)
  have E_15 := hid (E_14.out.grown g)
  have G_15 := hid (G_14.out.trans (g.mono G_14.out.size))
  clear g B3_14 B4_14 B5_14 B7_14 B9_14 B11_14 B12_14 B13_14 Pu_14 Pv_14 Nk_14 P2_14 Nm_14 P3_14 Nd_14 Ps_14 S1_14 Sb_14 No_14 E_14 G_14
  obtain ⟨M4, rfl, M4_h, M4_3, M4_i⟩ := pm_list hu
  have P4_15 : Hid (Pm w15 (.agg M4.toArray) LA) := hu
  clear hu
  have K15 := And.intro B4_15.out (And.intro B7_15.out (And.intro B5_15.out (And.intro B9_15.out (And.intro B13_15.out (B11_15.out)))))
  go_wp2_with fail
  clear hHeld
  refine hK.out _ _ K15 (fun hHeld => ?_)
  clear hK Kk K15
  try simp only [Act.put, List.setIfInBounds_toArray, List.set_cons_zero, List.set_cons_succ]
  refine h_call 15 rfl (by kernel_rfl) (by rfl) (fun Kk hK => ?_)
  go_simp
  (refine (Q19.out _).mono ?_)
  rintro e w16 ⟨uu, rfl, hu, g0⟩
  have g := g0
  clear g0
  have B3_16 := hid (B3_15.out.below g)
  have B4_16 := hid (B4_15.out.below g)
  have B5_16 := hid (B5_15.out.below g)
  have B7_16 := hid (B7_15.out.below g)
  have B9_16 := hid (B9_15.out.below g)
  have B11_16 := hid (B11_15.out.below g)
  have B12_16 := hid (B12_15.out.below g)
  have B13_16 := hid (B13_15.out.below g)
  have Pu_16 := hid (Pu_15.out.below g)
  have Pv_16 := hid (Pv_15.out.below g)
  have Nk_16 := hid (Nk_15.out.below g)
  have P2_16 := hid (P2_15.out.below g)
  have Nm_16 := hid (Nm_15.out.below g)
  have P3_16 := hid (P3_15.out.below g)
  have Nd_16 := hid (Nd_15.out.below g)
  have Ps_16 := hid (Ps_15.out.below g)
  have S1_16 := hid (S1_15.out.below g)
  have Sb_16 := hid (Sb_15.out.below g)
  have No_16 := hid (No_15.out.below g)
  have P4_16 := hid (P4_15.out.below g)
  have E_16 := hid (E_15.out.grown g)
  have G_16 := hid (G_15.out.trans (g.mono G_15.out.size))
  clear g B3_15 B4_15 B5_15 B7_15 B9_15 B11_15 B12_15 B13_15 Pu_15 Pv_15 Nk_15 P2_15 Nm_15 P3_15 Nd_15 Ps_15 S1_15 Sb_15 No_15 P4_15 E_15 G_15
  obtain ⟨Mz, rfl, Mz_h, Mz_3, Mz_i⟩ := pm_list hu
  have Pz_16 : Hid (Pm w16 (.agg Mz.toArray) Pt.zero) := hu
  clear hu
  have K16 := And.intro B4_16.out (And.intro B7_16.out (And.intro B5_16.out (And.intro B9_16.out (And.intro B13_16.out (B11_16.out)))))
  go_wp2_with fail
  clear hHeld
  refine hK.out _ _ K16 (fun hHeld => ?_)
  clear hK Kk K16
  try simp only [Act.put, List.setIfInBounds_toArray, List.set_cons_zero, List.set_cons_succ]
  refine h_call 16 rfl (by kernel_rfl) (by rfl) (fun Kk hK => ?_)
  go_simp
  (refine (Q20.out _ _ _ P4_16.out Pz_16.out).mono ?_)
  rintro e w17 ⟨rfl, g0⟩
  have g := g0
  clear g0
  have B3_17 := hid (B3_16.out.below g)
  have B4_17 := hid (B4_16.out.below g)
  have B5_17 := hid (B5_16.out.below g)
  have B7_17 := hid (B7_16.out.below g)
  have B9_17 := hid (B9_16.out.below g)
  have B11_17 := hid (B11_16.out.below g)
  have B12_17 := hid (B12_16.out.below g)
  have B13_17 := hid (B13_16.out.below g)
  have Pu_17 := hid (Pu_16.out.below g)
  have Pv_17 := hid (Pv_16.out.below g)
  have Nk_17 := hid (Nk_16.out.below g)
  have P2_17 := hid (P2_16.out.below g)
  have Nm_17 := hid (Nm_16.out.below g)
  have P3_17 := hid (P3_16.out.below g)
  have Nd_17 := hid (Nd_16.out.below g)
  have Ps_17 := hid (Ps_16.out.below g)
  have S1_17 := hid (S1_16.out.below g)
  have Sb_17 := hid (Sb_16.out.below g)
  have No_17 := hid (No_16.out.below g)
  have P4_17 := hid (P4_16.out.below g)
  have Pz_17 := hid (Pz_16.out.below g)
  have E_17 := hid (E_16.out.grown g)
  have G_17 := hid (G_16.out.trans (g.mono G_16.out.size))
  clear g B3_16 B4_16 B5_16 B7_16 B9_16 B11_16 B12_16 B13_16 Pu_16 Pv_16 Nk_16 P2_16 Nm_16 P3_16 Nd_16 Ps_16 S1_16 Sb_16 No_16 P4_16 Pz_16 E_16 G_16
  have K17 := And.intro B4_17.out (And.intro B7_17.out (And.intro B5_17.out (And.intro B9_17.out (And.intro B13_17.out (B11_17.out)))))
  go_wp2_with fail
  clear hHeld
  refine hK.out _ _ K17 (fun hHeld => ?_)
  clear hK Kk K17
  try simp only [Act.put, List.setIfInBounds_toArray, List.set_cons_zero, List.set_cons_succ]
  refine h_take 17 (v := .bool true) rfl (by kernel_rfl) (by kernel_rfl) (by kernel_rfl) (fun _ _ _ h => h) (by rfl) ?hyr9_17 (by assumption) ?_
  case hyr9_17 =>
    intro w' hSw
    clear hSw
    go_simp
  try simp only [Act.put, List.setIfInBounds_toArray, List.set_cons_zero, List.set_cons_succ]
  refine h_take 18 (v := .bool true) rfl (by kernel_rfl) (by kernel_rfl) (by kernel_rfl) (fun _ _ _ h => h) (by rfl) ?hyr9_18 (by assumption) ?_
  case hyr9_18 =>
    intro w' hSw
    clear hSw
    go_simp
  try simp only [Act.put, List.setIfInBounds_toArray, List.set_cons_zero, List.set_cons_succ]
  refine h_take 19 (v := .bool true) rfl (by kernel_rfl) (by kernel_rfl) (by kernel_rfl) (fun _ _ _ h => h) (by rfl) ?hyr9_19 (by assumption) ?_
  case hyr9_19 =>
    intro w' hSw
    clear hSw
    go_simp
  try simp only [Act.put, List.setIfInBounds_toArray, List.set_cons_zero, List.set_cons_succ]
  refine wpAnyH_done (by kernel_rfl) ?_ _
  clear hHeld
  go_wp2_with fail
  go_ret
  exact ⟨rfl, G_17.out⟩
end Go.Proofs.YtedhfimjcpbcpaaDoor.Ed

/-
  The law ComboBoth of layer 11 is true of any bytes and any numbers. Conditions: the package's variables are as the program lays them.
-/
namespace Go.Proofs.YtedhfimjcpbcpaaDoor.Ed
open Go.RowKit
set_option linter.unusedVariables false
set_option linter.unusedSimpArgs false

theorem ofF_some (l : List Nat) (hb : Bb l) : ∃ (c : P4) (t : Bool), ∀ (v : Value) (w : World), SK .u8 w v l → Gd w → Gl w → Calls Tryd.prog 7 #[v] w fun e w' => e = .returned (.tuple #[.agg c.l.toArray, .bool t]) ∧ Below w.heap.size w w' := by
  rcases ofF_any l hb with ⟨P, rfl⟩ | ⟨c, hc⟩
  · obtain ⟨c, -, hc⟩ := of_yes_p P
    exact ⟨c, true, hc⟩
  · exact ⟨c, false, hc⟩
theorem rsame_c (P Q : Pt) (b : Bool) (hb : b = true ↔ P = Q) (v v' : Value) (w : World) (h : Pm w v P) (h' : Pm w v' Q) : Calls Tryd.prog 23 #[v, v'] w fun e w' => e = .returned (.bool b) ∧ Below w.heap.size w w' := by
  refine (same_pt P Q v v' w h h').mono ?_
  rintro e w' ⟨b', rfl, h1, h2⟩
  have e : b' = b := by
    cases b <;> cases b' <;> simp_all
  exact ⟨by rw [e], h2⟩
theorem both_all (v0 v1 : Value) (l0 l1 : List Nat) (x y : Nat) (hx : x < M4) (hy : y < M4) (W : World) (h : Gl W ∧ Gd W ∧ GtwiceD W ∧ GbaseX W ∧ GbaseY W) (h0 : SK .u8 W v0 l0) (h1 : SK .u8 W v1 l1) (b0 : Bb l0) (b1 : Bb l1) :
    Calls Tryd.prog 4 #[.agg #[v0, v1], four x, four y] W fun e w' => e = .returned (.bool true) ∧ Below W.heap.size W w' := by
  obtain ⟨a0, c0, rfl⟩ := h0.shape
  obtain ⟨a1, c1, rfl⟩ := h1.shape
  obtain ⟨hZ, hD, hT, hU, hV⟩ := h
  have hE : Env W := ⟨hD, hT, hU, hV, hZ⟩
  rw [four_ws x hx, four_ws y hy]
  obtain ⟨ob, tb, qb⟩ := ofF_some l1 b1
  rcases ofF_any l0 b0 with ⟨A, rfl⟩ | ⟨na, fa⟩
  case inr => exact both_no1_w _ _ na.l ob.l (ws_wl x) (ws_wl y) na.pl ob.pl a0 a1 _ _ c0 c1 l0 l1 tb awake11 (fun v w s h => fa v w s h.d h.z) (fun v w s h => qb v w s h.d h.z) W h0 h1 hE
  obtain ⟨p, hp, fa⟩ := of_yes_p A
  rcases ofF_any l1 b1 with ⟨B, rfl⟩ | ⟨nb, fb⟩
  case inr => exact both_no2_w _ _ p.l nb.l (ws_wl x) (ws_wl y) p.pl nb.pl a0 a1 _ _ c0 c1 _ l1 awake11 (fun v w s h => fa v w s h.d h.z) (fun v w s h => fb v w s h.d h.z) W h0 h1 hE
  obtain ⟨q, hq, fb⟩ := of_yes_p B
  clear qb
  obtain ⟨s, hs, qs⟩ := both_pt p q A B hp hq x y hx hy
  obtain ⟨t, ht, qt⟩ := pure_p p A hp
  exact both_yes_w _ _ p.l q.l s.l (ws_wl x) (ws_wl y) p.pl q.pl s.pl a0 a1 _ _ c0 c1 _ _ A B (Pt.mul x A) (Pt.mul y B) (Pt.mul L25 A) x y (bytesOf ((Pt.mul x A).add (Pt.mul y B))) t
    awake11 (fun v w s h => fa v w s h.d h.z) (fun v w s h => fb v w s h.d h.z) (fun v w h => of_pt A v w h) (fun v w h => of_pt B v w h) (ofN_ws x hx) (mulR_any x hx A) (ofN_ws y hy) (mulR_any y hy B) (fun w => dD_num w) (fun v v' d w h h' hd => add_pt _ _ v v' d w h h' hd)
    (fun w h => qs w h.t h.z.f) (bytes_p s _ hs) (fun v w h => bytes_pt _ v w h) (fun v v' w h h' => same_sk _ (by rw [bytes_length]; omega) v v' w h h')
    (fun w h => qt w h.t h.z.f) ordR_num (mulR_any L25 L25_lt A) (fun w => zero_pt w) (fun v v' w h h' => rsame_c _ _ t ht v v' w h h') W h0 h1 hE
end Go.Proofs.YtedhfimjcpbcpaaDoor.Ed
