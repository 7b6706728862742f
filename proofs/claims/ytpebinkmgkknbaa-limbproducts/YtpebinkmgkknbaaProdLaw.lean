/-
  The walk of the law LimbProducts: for any two numbers of four words and any word it returns true and changes no memory that was there. Conditions: none beyond that the words are words.
-/
import Derived.Test.YtpebinkmgkknbaaAwake
import Derived.Test.YtpebinkmgkknbaaRefF
import Derived.Test.YtpebinkmgkknbaaLimbMul4
import Derived.Test.YtpebinkmgkknbaaBackV
namespace Go.Proofs.Ytpebinkmgkknbaa
open Go.RowKit
set_option linter.unusedVariables false

theorem pow_words (n : Nat) : (2 : Nat) ^ (64 * n) = 18446744073709551616 ^ n := by rw [Nat.pow_mul]
theorem valW_get : ∀ (o : List Nat) (j : Nat), Ww o → o.getD j 0 = valW o / 18446744073709551616 ^ j % 18446744073709551616
  | [], j, _ => by simp [valW]
  | x :: l, 0, h => by
    have := h 0
    simp only [List.getD_cons_zero] at this ⊢
    rw [Nat.pow_zero, Nat.div_one]
    simp only [valW]
    omega
  | x :: l, j + 1, h => by
    have h0 := h 0
    simp only [List.getD_cons_zero] at h0
    have ih := valW_get l j (fun i => h (i + 1))
    simp only [List.getD_cons_succ, valW]
    rw [ih, Nat.pow_succ', ← Nat.div_div_eq_div_mul]
    congr 2
    omega

/-- The j-th word of a number. -/
def wdN (z j : Nat) : Int := ((z / 18446744073709551616 ^ j % 18446744073709551616 : Nat) : Int)
theorem eight_wdN (z : Nat) : eight z = .agg #[.int .u64 (wdN z 0), .int .u64 (wdN z 1), .int .u64 (wdN z 2), .int .u64 (wdN z 3), .int .u64 (wdN z 4), .int .u64 (wdN z 5), .int .u64 (wdN z 6), .int .u64 (wdN z 7)] := by
  unfold eight wdN
  simp
theorem four_wdN (z : Nat) : four (z % M4) = .agg #[.int .u64 (wdN z 0), .int .u64 (wdN z 1), .int .u64 (wdN z 2), .int .u64 (wdN z 3)] := four_words z _ _ _ _ rfl rfl rfl rfl

/-- Words that are a number's. -/
theorem row_words {base g : Nat} {o : List Nat} {W : World} (h : Row .u64 base g o W) (hw : Ww o) (z : Nat) (hz : valW o = z) : ∀ j, j < o.length → W.cell? ⟨g, j, none⟩ = some (.int .u64 (wdN z j)) := fun j hj => by
  rw [h.cell j hj, valW_get o j hw, hz]; rfl

theorem mul_lt_512 (x y : Nat) (hx : x < M4) (hy : y < M4) : x * y % 18446744073709551616 ^ 8 = x * y := by
  apply Nat.mod_eq_of_lt
  have : x * y < M4 * M4 := Nat.mul_lt_mul'' hx hy
  refine Nat.lt_of_lt_of_le this ?_
  unfold M4
  decide
theorem mul_lt_320 (x u : Nat) (hx : x < M4) (hu : u < 18446744073709551616) : x * u % 18446744073709551616 ^ 5 = x * u := by
  apply Nat.mod_eq_of_lt
  have : x * u < M4 * 18446744073709551616 := Nat.mul_lt_mul'' hx hu
  refine Nat.lt_of_lt_of_le this ?_
  unfold M4
  decide
/-- ToWords, its world's row read as a number's words. -/
theorem toWords_num (N : Nat) (va : Value) (n m : Nat) (w : World) (ha : Num w va N) (hN : N < 16777216 ^ m) (hm : m ≤ 10000) (hn : n ≤ 1000) :
    Calls Try.prog 20 #[va, .int .i64 (n : Int)] w fun e w' => e = .returned (.slice (some ⟨w.heap.size, 0, none⟩) n n) ∧ (∀ j, j < n → w'.cell? ⟨w.heap.size, j, none⟩ = some (.int .u64 (wdN (N % 18446744073709551616 ^ n) j))) ∧ w.heap.size < w'.heap.size ∧ Below w.heap.size w w' := by
  obtain ⟨l, h1, h2, h3, h4⟩ := ha
  have hl := nz_len l m h2 h3 (by rw [h4]; exact hN)
  refine (toWords_any l va n w h1 h2 (by omega) hn).mono fun e w' ⟨o, he, hr, hol, how, hov, hb⟩ => ⟨he, ?_, hr.lt, hb⟩
  rw [h4, pow_words] at hov
  intro j hj
  exact row_words hr how _ hov j (by omega)
theorem top_wdN (x u : Nat) (hx : x < M4) (hu : u < 18446744073709551616) : ((x * u / M4 : Nat) : Int) = wdN (x * u) 4 := by
  unfold wdN
  have h : x * u / M4 < 18446744073709551616 := by
    have : x * u < M4 * 18446744073709551616 := Nat.mul_lt_mul'' hx hu
    rw [Nat.div_lt_iff_lt_mul (by unfold M4; omega), Nat.mul_comm 18446744073709551616]
    exact this
  rw [show (18446744073709551616 : Nat) ^ 4 = M4 by unfold M4; decide, Nat.mod_eq_of_lt h]
theorem ref_mul_num (M N : Nat) (va vb : Value) (w : World) (ha : Num w va M) (hb : Num w vb N) (m : Nat) (hM : M < 16777216 ^ m) (hN : N < 16777216 ^ m) (hm : m ≤ 10000) :
    Calls Try.prog 21 #[va, vb] w fun e w' => ∃ v, e = .returned v ∧ Num w' v (M * N) ∧ Below w.heap.size w w' := by
  obtain ⟨l, h1, h2, h3, rfl⟩ := ha
  obtain ⟨l', k1, k2, k3, rfl⟩ := hb
  have hl := nz_len l m h2 h3 hM
  have hl' := nz_len l' m k2 k3 hN
  exact mulR_any l l' va vb w h1 k1 h2 k2 (by omega) (by omega)

set_option maxHeartbeats 4000000 in
theorem prod_walk (x y u : Nat) (hx : x < M4) (hy : y < M4) (hu : u < 18446744073709551616) (w : World) :
    Calls Try.prog 4 #[four x, four y, .int .u64 (u : Int)] w fun e w' => e = .returned (.bool true) ∧ Below w.heap.size w w' := by
  obtain ⟨a0, a1, a2, a3, -, -, -, -, ea, -⟩ := four_open x hx
  obtain ⟨b0, b1, b2, b3, -, -, -, -, eb, -⟩ := four_open y hy
  have hX : x < 16777216 ^ 11 := Nat.lt_of_lt_of_le hx (by unfold M4; decide)
  have hY : y < 16777216 ^ 11 := Nat.lt_of_lt_of_le hy (by unfold M4; decide)
  have hU : u < 16777216 ^ 11 := Nat.lt_of_lt_of_le hu (by decide)
  have hXY : x * y < 16777216 ^ 22 := by
    have : x * y < 16777216 ^ 11 * 16777216 ^ 11 := Nat.mul_lt_mul'' hX hY
    rwa [← Nat.pow_add] at this
  have hXU : x * u < 16777216 ^ 22 := by
    have : x * u < 16777216 ^ 11 * 16777216 ^ 11 := Nat.mul_lt_mul'' hX hU
    rwa [← Nat.pow_add] at this
  have cOx : Hid (∀ w, Calls Try.prog 9 #[.agg #[.int .u64 a0, .int .u64 a1, .int .u64 a2, .int .u64 a3]] w fun e w' => ∃ v, e = .returned v ∧ Num w' v x ∧ Below w.heap.size w w') := by
    intro w; have := of_ref_any x hx w; rwa [ea] at this
  have cOy : Hid (∀ w, Calls Try.prog 9 #[.agg #[.int .u64 b0, .int .u64 b1, .int .u64 b2, .int .u64 b3]] w fun e w' => ∃ v, e = .returned v ∧ Num w' v y ∧ Below w.heap.size w w') := by
    intro w; have := of_ref_any y hy w; rwa [eb] at this
  have cM : Hid (∀ w, Calls Try.prog 19 #[.agg #[.int .u64 a0, .int .u64 a1, .int .u64 a2, .int .u64 a3], .agg #[.int .u64 b0, .int .u64 b1, .int .u64 b2, .int .u64 b3]] w fun e w' => e = .returned (eight (x * y)) ∧ Below w.heap.size w w') := by
    intro w; have := mul_raw x y hx hy w; rwa [ea, eb] at this
  rw [ea, eb]
  go_enter Try.func4, Try.ntmps4
  go_wp2_with fail
  refine (awake_any _).mono ?_
  rintro e w1 ⟨rfl, g1⟩
  have bA : Box w1 w.heap.size a0 a1 a2 a3 := ((Box.new w a0 a1 a2 a3 24).alloc _).below g1
  have bB : Box w1 (w.heap.size + 1) b0 b1 b2 b3 := by simpa using (Box.new (w.alloc (.cells #[.int .u64 a0, .int .u64 a1, .int .u64 a2, .int .u64 a3] 24)) b0 b1 b2 b3 24).below g1
  have B1 : Hid (Below w.heap.size w w1) := (((Below.refl _ _).alloc (Nat.le_refl _) _).alloc (by simp) _).trans (g1.mono (by simp; omega))
  clear g1
  have s1 := bA.lt
  obtain ⟨-, ca0, ca1, ca2, ca3⟩ := bA
  go_wp2_with fail
  with_reducible refine (cOx.out _).mono ?_
  rintro e w2 ⟨vx, rfl, nx, g2⟩
  obtain ⟨xa, xc, xd, rfl⟩ := nx.shape
  have bA : Box w2 w.heap.size a0 a1 a2 a3 := Box.below ⟨s1, ca0, ca1, ca2, ca3⟩ g2
  have bB := bB.below g2
  have B2 : Hid (Below w.heap.size w w2) := B1.out.trans (g2.mono (by omega))
  clear g2 ca0 ca1 ca2 ca3 s1 B1
  obtain ⟨s1, ca0, ca1, ca2, ca3⟩ := bA
  obtain ⟨s2, cb0, cb1, cb2, cb3⟩ := bB
  have NX : Hid (Num w2 (.slice xa xc xd) x) := nx
  clear nx
  go_wp2_with fail
  with_reducible refine (cM.out _).mono ?_
  rintro e w3 ⟨rfl, g3⟩
  rw [eight_wdN]
  have bA : Box w3 w.heap.size a0 a1 a2 a3 := Box.below ⟨s1, ca0, ca1, ca2, ca3⟩ g3
  have bB : Box w3 (w.heap.size + 1) b0 b1 b2 b3 := Box.below ⟨s2, cb0, cb1, cb2, cb3⟩ g3
  have NX3 : Hid (Num w3 (.slice xa xc xd) x) := NX.out.below g3
  have B3 : Hid (Below w.heap.size w w3) := B2.out.trans (g3.mono (by omega))
  clear g3 ca0 ca1 ca2 ca3 s1 cb0 cb1 cb2 cb3 s2 B2 NX
  have bA' : Hid (Box w3 w.heap.size a0 a1 a2 a3) := bA
  obtain ⟨s2, cb0, cb1, cb2, cb3⟩ := bB
  clear bA
  obtain ⟨W4, hW4⟩ : ∃ W4, Hid (W4 = w3.alloc (.cells #[.int .u64 (wdN (x * y) 0), .int .u64 (wdN (x * y) 1), .int .u64 (wdN (x * y) 2), .int .u64 (wdN (x * y) 3), .int .u64 (wdN (x * y) 4), .int .u64 (wdN (x * y) 5), .int .u64 (wdN (x * y) 6), .int .u64 (wdN (x * y) 7)] 38)) := ⟨_, rfl⟩
  have gP : Below w3.heap.size w3 W4 := by rw [hW4.out]; exact (Below.refl _ _).alloc (Nat.le_refl _) _
  have hP : ∀ j, j < 8 → W4.cell? ⟨w3.heap.size, j, none⟩ = some (.int .u64 (wdN (x * y) j)) := by
    intro j hj
    rw [hW4.out]
    rcases (show j = 0 ∨ j = 1 ∨ j = 2 ∨ j = 3 ∨ j = 4 ∨ j = 5 ∨ j = 6 ∨ j = 7 by omega) with rfl | rfl | rfl | rfl | rfl | rfl | rfl | rfl <;> simp
  have hPs : w3.heap.size < W4.heap.size := by rw [hW4.out]; simp
  have gP' : Hid _ := gP
  have hP' : Hid (∀ j, j < 8 → W4.cell? ⟨w3.heap.size, j, none⟩ = some (.int .u64 (wdN (x * y) j))) := hP
  have hPs' : Hid _ := hPs
  clear gP hP hPs
  go_wp2_with fail
  rw [← hW4.out]
  clear hW4
  with_reducible refine (cOy.out _).mono ?_
  rintro e w5 ⟨vy, rfl, ny, g5⟩
  obtain ⟨ya, yc, yd, rfl⟩ := ny.shape
  have NX5 : Hid (Num w5 (.slice xa xc xd) x) := (NX3.out.below gP'.out).below g5
  have NY5 : Hid (Num w5 (.slice ya yc yd) y) := ny
  have G5 : Hid (Below W4.heap.size W4 w5) := g5
  clear ny g5 cb0 cb1 cb2 cb3
  go_wp2_with fail
  refine (ref_mul_num x y _ _ _ NX5.out NY5.out 11 hX hY (by omega)).mono ?_
  rintro e w6 ⟨vm, rfl, nm, g6⟩
  obtain ⟨ma, mc, md, rfl⟩ := nm.shape
  have NM : Hid (Num w6 (.slice ma mc md) (x * y)) := nm
  have G6 : Hid (Below W4.heap.size W4 w6) := G5.out.trans (g6.mono G5.out.size)
  have NX6 : Hid (Num w6 (.slice xa xc xd) x) := NX5.out.below g6
  clear nm g6 NX5 NY5 G5
  go_wp2_with fail
  refine (toWords_num (x * y) _ 8 22 _ NM.out hXY (by omega) (by omega)).mono ?_
  rintro e w7 ⟨rfl, hw7, hs7, g7⟩
  rw [mul_lt_512 x y hx hy] at hw7
  have G7 : Hid (Below W4.heap.size W4 w7) := G6.out.trans (g7.mono G6.out.size)
  have NX7 : Hid (Num w7 (.slice xa xc xd) x) := NX6.out.below g7
  have HW7 : Hid (∀ j, j < 8 → w7.cell? ⟨w6.heap.size, j, none⟩ = some (.int .u64 (wdN (x * y) j))) := hw7
  have HP7 : Hid (∀ j, j < 8 → w7.cell? ⟨w3.heap.size, j, none⟩ = some (.int .u64 (wdN (x * y) j))) := fun j hj => (G7.out.cell (p := ⟨w3.heap.size, j, none⟩) hPs'.out).trans (hP'.out j hj)
  have BA7 : Hid (Box w7 w.heap.size a0 a1 a2 a3) := (bA'.out.below gP'.out).below G7.out
  have B7 : Hid (Below w.heap.size w w7) := B3.out.trans ((gP'.out.mono (by omega)).trans (G7.out.mono (by have := gP'.out.size; omega)))
  clear hw7 g7 hs7 G6 NX6 NM NX3 hPs' gP' hP' bA' B3 G7 s2
  go_wp2
  have e4 := eql4
  go_loopw [26] (fun z W => ∃ k : Nat, k ≤ 8 ∧ z = .int .i64 k ∧ Hid ((∀ j, j < 8 → W.cell? ⟨w6.heap.size, j, none⟩ = some (.int .u64 (wdN (x * y) j))) ∧ (∀ j, j < 8 → W.cell? ⟨w3.heap.size, j, none⟩ = some (.int .u64 (wdN (x * y) j))) ∧ Box W w.heap.size a0 a1 a2 a3 ∧ Num W (.slice xa xc xd) x ∧ Below w.heap.size w W)) (fun z _ => 8 - (intOf z).toNat)
  case atStart => exact ⟨0, by omega, rfl, HW7.out, HP7.out, BA7.out, NX7.out, B7.out⟩
  case round =>
    clear HW7 HP7 BA7 NX7 B7
    obtain ⟨k, hk, rfl, H⟩ := hrel
    by_cases hlt : k < 8
    · have hlt' : (k : Int) < 8 := by omega
      have c1 := H.out.1 k hlt
      have c2 := H.out.2.1 k hlt
      generalize wdN (x * y) k = z at c1 c2
      go_wp2
      go_region
      go_wp2
      go_roundw
      case rel =>
        have hd : Below wr.heap.size wr wr.drew := (Below.refl _ _).drew
        exact ⟨k + 1, by omega, by go_num, H.out.1, H.out.2.1, H.out.2.2.1.below hd, H.out.2.2.2.1.below hd, H.out.2.2.2.2.drew⟩
      case measure => simp [intOf]; omega
    · obtain rfl : k = 8 := by omega
      have BA : Box wr w.heap.size a0 a1 a2 a3 := H.out.2.2.1
      have NX : Hid (Num wr (.slice xa xc xd) x) := H.out.2.2.2.1
      have B8 : Hid (Below w.heap.size w wr) := H.out.2.2.2.2
      have BA' : Hid (Box wr w.heap.size a0 a1 a2 a3) := BA
      obtain ⟨s1, ca0, ca1, ca2, ca3⟩ := BA
      have cU : Hid (∀ w, Calls Try.prog 22 #[.agg #[.int .u64 a0, .int .u64 a1, .int .u64 a2, .int .u64 a3], .int .u64 (u : Int)] w fun e w' => e = .returned (.tuple #[.agg #[.int .u64 (wdN (x * u) 0), .int .u64 (wdN (x * u) 1), .int .u64 (wdN (x * u) 2), .int .u64 (wdN (x * u) 3)], .int .u64 (wdN (x * u) 4)]) ∧ Below w.heap.size w w') := by
        intro w
        have h := mulWord_any x u hx hu w
        rwa [ea, four_wdN, top_wdN x u hx hu] at h
      clear H
      go_wp2_with fail
      with_reducible refine (cU.out _).mono ?_
      rintro e u1 ⟨rfl, g1⟩
      have NX1 : Hid (Num u1 (.slice xa xc xd) x) := NX.out.below g1
      have C1 : Hid (Below w.heap.size w u1) := B8.out.trans (g1.mono (by omega))
      have hs1 := C1.out.size
      clear g1 NX B8 BA' ca0 ca1 ca2 ca3
      go_wp2_with fail
      obtain ⟨W9, hW9⟩ : ∃ W9, Hid (W9 = (u1.alloc (.cells #[.int .u64 (wdN (x * u) 0), .int .u64 (wdN (x * u) 1), .int .u64 (wdN (x * u) 2), .int .u64 (wdN (x * u) 3)] 24)).alloc (.cells #[.int .u64 (u : Int)] 22)) := ⟨_, rfl⟩
      have g9 : Below u1.heap.size u1 W9 := by rw [hW9.out]; exact ((Below.refl _ _).alloc (Nat.le_refl _) _).alloc (by simp) _
      have bM : Box W9 u1.heap.size (wdN (x * u) 0) (wdN (x * u) 1) (wdN (x * u) 2) (wdN (x * u) 3) := by rw [hW9.out]; exact (Box.new u1 _ _ _ _ _).alloc _
      have hS : SlU W9 (.slice (some ⟨u1.heap.size + 1, 0, none⟩) 1 1) [u] := by
        rw [hW9.out]
        refine ⟨u1.heap.size + 1, 0, 1, rfl, by simp, fun j hj => ?_⟩
        obtain rfl : j = 0 := by simpa using hj
        simp [go_sem]
      have NX9 : Hid (Num W9 (.slice xa xc xd) x) := NX1.out.below g9
      have C9 : Hid (Below w.heap.size w W9) := C1.out.trans (g9.mono hs1)
      rw [← hW9.out]
      clear hW9 NX1 C1 g9
      refine (words_any [u] _ _ hS (by intro j; rcases j with _ | j <;> simp; exact hu) (by simp)).mono ?_
      rintro e u2 ⟨vu, rfl, nu, g2⟩
      have eu : valW [u] = u := by simp [valW]
      rw [eu] at nu
      clear eu hS
      obtain ⟨ua, uc, ud, rfl⟩ := nu.shape
      have NU2 : Hid (Num u2 (.slice ua uc ud) u) := nu
      have NX2 : Hid (Num u2 (.slice xa xc xd) x) := NX9.out.below g2
      have bM2 := bM.below g2
      have C2 : Hid (Below w.heap.size w u2) := C9.out.trans (g2.mono C9.out.size)
      clear nu g2 NX9 C9 bM
      go_wp2_with fail
      refine (ref_mul_num x u _ _ _ NX2.out NU2.out 11 hX hU (by omega)).mono ?_
      rintro e u3 ⟨vm2, rfl, nm2, g3⟩
      obtain ⟨pa, pc, pd, rfl⟩ := nm2.shape
      have NM3 : Hid (Num u3 (.slice pa pc pd) (x * u)) := nm2
      have bM3 := bM2.below g3
      have C3 : Hid (Below w.heap.size w u3) := C2.out.trans (g3.mono C2.out.size)
      clear nm2 g3 NU2 NX2 bM2 C2
      go_wp2_with fail
      refine (toWords_num (x * u) _ 5 22 _ NM3.out hXU (by omega) (by omega)).mono ?_
      rintro e u4 ⟨rfl, hw4, hs4, g4⟩
      rw [mul_lt_320 x u hx hu] at hw4
      have d0 := hw4 0 (by omega)
      have d1 := hw4 1 (by omega)
      have d2 := hw4 2 (by omega)
      have d3 := hw4 3 (by omega)
      have d4 := hw4 4 (by omega)
      obtain ⟨s5, cm0, cm1, cm2, cm3⟩ := bM3.below g4
      have C4 : Hid (Below w.heap.size w u4) := C3.out.trans (g4.mono C3.out.size)
      clear hw4 g4 NM3 bM3 C3
      generalize wdN (x * u) 0 = m0 at *
      generalize wdN (x * u) 1 = m1 at *
      generalize wdN (x * u) 2 = m2 at *
      generalize wdN (x * u) 3 = m3 at *
      generalize wdN (x * u) 4 = m4 at *
      go_wp2
      go_quiet (fail)
      go_wp2
      go_ret
      exact ⟨rfl, Joins_draws C4.out _⟩

end Go.Proofs.Ytpebinkmgkknbaa
