/-
  The walk of the law LimbSums: for any two numbers of four words it returns true and changes no memory that was there. Conditions: none beyond that the words are words.
-/
import Derived.Test.YtpebinkmgkknbaaAwake
import Derived.Test.YtpebinkmgkknbaaRefH
import Derived.Test.YtpebinkmgkknbaaBackV
import Derived.Deep.DeepCutAuto
namespace Go.Proofs.Ytpebinkmgkknbaa
open Go.RowKit
set_option linter.unusedVariables false
attribute [local go_sem] ext_cell ext_frozen

theorem add_num (M N : Nat) (va vb : Value) (w : World) (ha : Num w va M) (hb : Num w vb N) (m : Nat) (hM : M < 16777216 ^ m) (hN : N < 16777216 ^ m) (hm : m ≤ 10000) :
    Calls Try.prog 12 #[va, vb] w fun e w' => ∃ v, e = .returned v ∧ Num w' v (M + N) ∧ Below w.heap.size w w' := by
  obtain ⟨l, h1, h2, h3, rfl⟩ := ha
  obtain ⟨l', k1, k2, k3, rfl⟩ := hb
  have hl := nz_len l m h2 h3 hM
  have hl' := nz_len l' m k2 k3 hN
  exact addR_any l l' va vb w h1 k1 h2 k2 (by omega) (by omega)
theorem sub_num (M N : Nat) (va vb : Value) (w : World) (ha : Num w va M) (hb : Num w vb N) (m : Nat) (hM : M < 16777216 ^ m) (hm : m ≤ 10000) (hle : N ≤ M) :
    Calls Try.prog 13 #[va, vb] w fun e w' => ∃ v, e = .returned v ∧ Num w' v (M - N) ∧ Below w.heap.size w w' := by
  obtain ⟨l, h1, h2, h3, rfl⟩ := ha
  obtain ⟨l', k1, k2, k3, rfl⟩ := hb
  have hl := nz_len l m h2 h3 hM
  have hll : l'.length ≤ l.length := by
    rcases Nat.lt_or_ge l.length l'.length with h | h
    · have := lenD_lt l l' h2 k3 h; omega
    · exact h
  exact subR_any l l' va vb w h1 k1 h2 k2 (by omega) hll hle
theorem cmp_num (M N : Nat) (va vb : Value) (w : World) (ha : Num w va M) (hb : Num w vb N) (m : Nat) (hM : M < 16777216 ^ m) (hN : N < 16777216 ^ m) (hm : m ≤ 10000) :
    Calls Try.prog 15 #[va, vb] w fun e w' => e = .returned (.int .i64 (ord (M : Int) (N : Int))) ∧ Below w.heap.size w w' := by
  obtain ⟨l, h1, h2, h3, rfl⟩ := ha
  obtain ⟨l', k1, k2, k3, rfl⟩ := hb
  have hl := nz_len l m h2 h3 hM
  have hl' := nz_len l' m k2 k3 hN
  exact cmpR_any l l' va vb w h1 k1 h2 k2 h3 k3 (by omega) (by omega)
theorem four_num (N : Nat) (va : Value) (w : World) (ha : Num w va N) (m : Nat) (hN : N < 16777216 ^ m) (hm : m ≤ 10000) :
    Calls Try.prog 16 #[va] w fun e w' => e = .returned (four (N % M4)) ∧ Below w.heap.size w w' := by
  obtain ⟨l, h1, h2, h3, rfl⟩ := ha
  exact four_any l va w h1 h2 (by have := nz_len l m h2 h3 hN; omega)
theorem bit_num (N : Nat) (va : Value) (i : Nat) (w : World) (ha : Num w va N) (m : Nat) (hN : N < 16777216 ^ m) (hm : m ≤ 10000) (hi : i ≤ 1000000) :
    Calls Try.prog 17 #[va, .int .i64 (i : Int)] w fun e w' => e = .returned (.int .i64 ((N / 2 ^ i % 2 : Nat) : Int)) ∧ Below w.heap.size w w' := by
  obtain ⟨l, h1, h2, h3, rfl⟩ := ha
  exact bitR_any l va i w h1 h2 (by have := nz_len l m h2 h3 hN; omega) hi

set_option maxHeartbeats 4000000 in
theorem sums_walk (x y : Nat) (hx : x < M4) (hy : y < M4) (w : World) :
    Calls Try.prog 3 #[four x, four y] w fun e w' => e = .returned (.bool true) ∧ Below w.heap.size w w' := by
  obtain ⟨a0, a1, a2, a3, -, -, -, -, ea, -⟩ := four_open x hx
  obtain ⟨y0, y1, y2, y3, -, -, -, -, eb, -⟩ := four_open y hy
  obtain ⟨s0, s1, s2, s3, -, -, -, -, es, -⟩ := four_open ((x + y) % M4) (mod_M4 _)
  obtain ⟨t0, t1, t2, t3, -, -, -, -, et, -⟩ := four_open ((x + M4 - y) % M4) (mod_M4 _)
  have hX : x < 16777216 ^ 11 := Nat.lt_of_lt_of_le hx (by unfold M4; decide)
  have hY : y < 16777216 ^ 11 := Nat.lt_of_lt_of_le hy (by unfold M4; decide)
  have hP : M4 < 16777216 ^ 11 := by unfold M4; decide
  have hXY : x + y < 16777216 ^ 11 := Nat.lt_of_lt_of_le (show x + y < M4 + M4 by omega) (by unfold M4; decide)
  have hXP : x + M4 < 16777216 ^ 11 := Nat.lt_of_lt_of_le (show x + M4 < M4 + M4 by omega) (by unfold M4; decide)
  have hD : x + M4 - y < 16777216 ^ 11 := by omega
  have cOx : Hid (∀ w, Calls Try.prog 9 #[.agg #[.int .u64 a0, .int .u64 a1, .int .u64 a2, .int .u64 a3]] w fun e w' => ∃ v, e = .returned v ∧ Num w' v x ∧ Below w.heap.size w w') := by
    intro w; have := of_ref_any x hx w; rwa [ea] at this
  have cOy : Hid (∀ w, Calls Try.prog 9 #[.agg #[.int .u64 y0, .int .u64 y1, .int .u64 y2, .int .u64 y3]] w fun e w' => ∃ v, e = .returned v ∧ Num w' v y ∧ Below w.heap.size w w') := by
    intro w; have := of_ref_any y hy w; rwa [eb] at this
  obtain ⟨c, hc⟩ : ∃ c : Nat, (x + y) / M4 = c := ⟨_, rfl⟩
  have hc1 : c ≤ 1 := by rw [← hc]; unfold M4 at *; omega
  obtain ⟨b, hb⟩ : ∃ b : Int, bor x y = b := ⟨_, rfl⟩
  have cA : Hid (∀ w, Calls Try.prog 10 #[.agg #[.int .u64 a0, .int .u64 a1, .int .u64 a2, .int .u64 a3], .agg #[.int .u64 y0, .int .u64 y1, .int .u64 y2, .int .u64 y3]] w fun e w' => e = .returned (.tuple #[.agg #[.int .u64 s0, .int .u64 s1, .int .u64 s2, .int .u64 s3], .int .u64 (c : Int)]) ∧ Below w.heap.size w w') := by
    intro w; have := add_any x y hx hy w; rwa [ea, eb, es, hc] at this
  have cS : Hid (∀ w, Calls Try.prog 11 #[.agg #[.int .u64 a0, .int .u64 a1, .int .u64 a2, .int .u64 a3], .agg #[.int .u64 y0, .int .u64 y1, .int .u64 y2, .int .u64 y3]] w fun e w' => e = .returned (.tuple #[.agg #[.int .u64 t0, .int .u64 t1, .int .u64 t2, .int .u64 t3], .int .u64 b]) ∧ Below w.heap.size w w') := by
    intro w; have := sub_any x y hx hy w; rwa [ea, eb, et, hb] at this
  have Hc : Hid _ := hc
  have Hb : Hid _ := hb
  have ea' : Hid _ := ea
  have eb' : Hid _ := eb
  have es' : Hid _ := es
  have et' : Hid _ := et
  rw [ea, eb]
  clear hc hb ea eb es et
  go_enter Try.func3, Try.ntmps3
  go_wp2_with fail
  refine (awake_any _).mono ?_
  rintro e w1 ⟨rfl, g1⟩
  have bA : Box w1 w.heap.size a0 a1 a2 a3 := ((Box.new w a0 a1 a2 a3 24).alloc _).below g1
  have bB : Box w1 (w.heap.size + 1) y0 y1 y2 y3 := by simpa using (Box.new (w.alloc (.cells #[.int .u64 a0, .int .u64 a1, .int .u64 a2, .int .u64 a3] 24)) y0 y1 y2 y3 24).below g1
  have B1 : Hid (Below w.heap.size w w1) := (((Below.refl _ _).alloc (Nat.le_refl _) _).alloc (by simp) _).trans (g1.mono (by simp; omega))
  clear g1
  have bA' : Hid (Box w1 w.heap.size a0 a1 a2 a3) := bA
  have bB' : Hid (Box w1 (w.heap.size + 1) y0 y1 y2 y3) := bB
  obtain ⟨l1, ca0, ca1, ca2, ca3⟩ := bA
  obtain ⟨l2, cb0, cb1, cb2, cb3⟩ := bB
  go_wp2_with fail
  go_cut [5, 6] (fun s t W => ∃ xa xc xd ya yc yd, s = .slice xa xc xd ∧ t = .slice ya yc yd ∧ Hid (Num W (.slice xa xc xd) x ∧ Num W (.slice ya yc yd) y ∧ Below w1.heap.size w1 W))
  case first =>
    go_region_with (first
      | (go_at_call_of 9 a0; refine (cOx.out _).mono ?_; rintro e w2 ⟨vx, rfl, nx, g2⟩; obtain ⟨xa, xc, xd, rfl⟩ := nx.shape; try (have b2 : Box w2 (w.heap.size + 1) y0 y1 y2 y3 := (bB'.out.below (Below.refl _ _).drew).below g2; obtain ⟨-, d0, d1, d2, d3⟩ := b2))
      | (go_at_call_of 9 y0; refine (cOy.out _).mono ?_; rintro e w3 ⟨vy, rfl, ny, g3⟩; obtain ⟨ya, yc, yd, rfl⟩ := ny.shape))
    all_goals
      go_wp2_with fail
      go_meet
      exact ⟨_, _, _, _, _, _, rfl, rfl, nx.below g3, ny, ((Below.refl _ _).drew.trans g2).trans (g3.mono g2.size)⟩
  case rest =>
  obtain ⟨xa, xc, xd, ya, yc, yd, rfl, rfl, H⟩ := hcut
  have bA2 : Box wc w.heap.size a0 a1 a2 a3 := bA'.out.below H.out.2.2
  have bB2 : Box wc (w.heap.size + 1) y0 y1 y2 y3 := bB'.out.below H.out.2.2
  have B2 : Hid (Below w.heap.size w wc) := B1.out.trans (H.out.2.2.mono B1.out.size)
  have NX2 : Hid (Num wc (.slice xa xc xd) x) := H.out.1
  have NY2 : Hid (Num wc (.slice ya yc yd) y) := H.out.2.1
  clear H B1 bA' bB' l1 ca0 ca1 ca2 ca3 l2 cb0 cb1 cb2 cb3
  have bA2' : Hid (Box wc w.heap.size a0 a1 a2 a3) := bA2
  have bB2' : Hid (Box wc (w.heap.size + 1) y0 y1 y2 y3) := bB2
  obtain ⟨l1, ca0, ca1, ca2, ca3⟩ := bA2
  obtain ⟨l2, cb0, cb1, cb2, cb3⟩ := bB2
  go_wp2_with fail
  refine (cA.out _).mono ?_
  rintro e w4 ⟨rfl, g4⟩
  have bA4 : Box w4 w.heap.size a0 a1 a2 a3 := bA2'.out.below g4
  have bB4 : Box w4 (w.heap.size + 1) y0 y1 y2 y3 := bB2'.out.below g4
  have B4 : Hid (Below w.heap.size w w4) := B2.out.trans (g4.mono B2.out.size)
  have NX4 : Hid (Num w4 (.slice xa xc xd) x) := NX2.out.below g4
  have NY4 : Hid (Num w4 (.slice ya yc yd) y) := NY2.out.below g4
  clear g4 bA2' bB2' B2 NX2 NY2 l1 l2 ca0 ca1 ca2 ca3 cb0 cb1 cb2 cb3
  have bA4' : Hid (Box w4 w.heap.size a0 a1 a2 a3) := bA4
  have bB4' : Hid (Box w4 (w.heap.size + 1) y0 y1 y2 y3) := bB4
  obtain ⟨l1, ca0, ca1, ca2, ca3⟩ := bA4
  obtain ⟨l2, cb0, cb1, cb2, cb3⟩ := bB4
  go_wp2_with fail
  refine (cS.out _).mono ?_
  rintro e w5 ⟨rfl, g5⟩
  have bA5 : Hid (Box w5 w.heap.size a0 a1 a2 a3) := (bA4'.out.alloc _).below g5
  have bB5 : Hid (Box w5 (w.heap.size + 1) y0 y1 y2 y3) := (bB4'.out.alloc _).below g5
  have bS5 : Hid (Box w5 w4.heap.size s0 s1 s2 s3) := (Box.new _ _ _ _ _ _).below g5
  have B5 : Hid (Below w.heap.size w w5) := (B4.out.alloc B4.out.size _).trans (g5.mono (by simp; have := B4.out.size; omega))
  have NX5 : Hid (Num w5 (.slice xa xc xd) x) := (NX4.out.below ((Below.refl _ _).alloc (Nat.le_refl _) _)).below g5
  have NY5 : Hid (Num w5 (.slice ya yc yd) y) := (NY4.out.below ((Below.refl _ _).alloc (Nat.le_refl _) _)).below g5
  clear g5 bA4' bB4' B4 NX4 NY4 l1 l2 ca0 ca1 ca2 ca3 cb0 cb1 cb2 cb3
  obtain ⟨W6, hW6⟩ : ∃ W6, Hid (W6 = w5.alloc (.cells #[.int .u64 t0, .int .u64 t1, .int .u64 t2, .int .u64 t3] 24)) := ⟨_, rfl⟩
  have g6 : Below w5.heap.size w5 W6 := by rw [hW6.out]; exact (Below.refl _ _).alloc (Nat.le_refl _) _
  have bA6 : Hid (Box W6 w.heap.size a0 a1 a2 a3) := bA5.out.below g6
  have bB6 : Hid (Box W6 (w.heap.size + 1) y0 y1 y2 y3) := bB5.out.below g6
  have bS6 : Hid (Box W6 w4.heap.size s0 s1 s2 s3) := bS5.out.below g6
  have bD6 : Hid (Box W6 w5.heap.size t0 t1 t2 t3) := by rw [hW6.out]; exact (Box.new _ _ _ _ _ _)
  have B6 : Hid (Below w.heap.size w W6) := B5.out.trans (g6.mono B5.out.size)
  have NX6 : Hid (Num W6 (.slice xa xc xd) x) := NX5.out.below g6
  have NY6 : Hid (Num W6 (.slice ya yc yd) y) := NY5.out.below g6
  clear g6 bA5 bB5 bS5 B5 NX5 NY5
  go_wp2_with fail
  rw [← hW6.out]
  clear hW6
  refine (add_num x y _ _ _ NX6.out NY6.out 11 hX hY (by omega)).mono ?_
  rintro e w7 ⟨vs, rfl, ns, g7⟩
  obtain ⟨sa, sc, sd, rfl⟩ := ns.shape
  have NS7 : Hid (Num w7 (.slice sa sc sd) (x + y)) := ns
  have G7 : Hid (Below W6.heap.size W6 w7) := g7
  clear ns g7
  go_wp2_with fail
  refine (power_any 256 _ (by omega)).mono ?_
  rintro e w8 ⟨vp, rfl, np, g8⟩
  rw [show (2 : Nat) ^ 256 = M4 by unfold M4; decide] at np
  have NP8 : Hid (Num w8 vp M4) := np
  have NS8 : Hid (Num w8 (.slice sa sc sd) (x + y)) := NS7.out.below g8
  have G8 : Hid (Below W6.heap.size W6 w8) := G7.out.trans (g8.mono G7.out.size)
  have NX8 : Hid (Num w8 (.slice xa xc xd) x) := NX6.out.below G8.out
  have NY8 : Hid (Num w8 (.slice ya yc yd) y) := NY6.out.below G8.out
  obtain ⟨pa, pc, pd, rfl⟩ := np.shape
  clear np g8 NS7 G7
  go_wp2_with fail
  refine (add_num x M4 _ _ _ NX8.out NP8.out 11 hX hP (by omega)).mono ?_
  rintro e w9 ⟨vt, rfl, nt, g9⟩
  obtain ⟨ta, tc, td, rfl⟩ := nt.shape
  have NT9 : Hid (Num w9 (.slice ta tc td) (x + M4)) := nt
  have NS9 : Hid (Num w9 (.slice sa sc sd) (x + y)) := NS8.out.below g9
  have G9 : Hid (Below W6.heap.size W6 w9) := G8.out.trans (g9.mono G8.out.size)
  have NY9 : Hid (Num w9 (.slice ya yc yd) y) := NY8.out.below g9
  clear nt g9 NS8 G8 NX8 NY8 NP8
  go_wp2_with fail
  refine (sub_num (x + M4) y _ _ _ NT9.out NY9.out 11 hXP (by omega) (by omega)).mono ?_
  rintro e w10 ⟨vd, rfl, nd, g10⟩
  obtain ⟨da, dc, dd, rfl⟩ := nd.shape
  have G10 : Hid (Below W6.heap.size W6 w10) := G9.out.trans (g10.mono G9.out.size)
  have NS10 : Hid (Num w10 (.slice sa sc sd) (x + y)) := NS9.out.below g10
  have ND10 : Hid (Num w10 (.slice da dc dd) (x + M4 - y)) := nd
  have NX10 : Hid (Num w10 (.slice xa xc xd) x) := NX6.out.below G10.out
  have NY10 : Hid (Num w10 (.slice ya yc yd) y) := NY6.out.below G10.out
  clear nd g10 NS9 G9 NY9 NT9
  go_wp2_with fail
  refine (cmp_num x y _ _ _ NX10.out NY10.out 11 hX hY (by omega)).mono ?_
  rintro e w11 ⟨rfl, g11⟩
  have G11 : Hid (Below W6.heap.size W6 w11) := G10.out.trans (g11.mono G10.out.size)
  have NS11 : Hid (Num w11 (.slice sa sc sd) (x + y)) := NS10.out.below g11
  have ND11 : Hid (Num w11 (.slice da dc dd) (x + M4 - y)) := ND10.out.below g11
  have NX11 : Hid (Num w11 (.slice xa xc xd) x) := NX6.out.below G11.out
  have NY11 : Hid (Num w11 (.slice ya yc yd) y) := NY6.out.below G11.out
  clear g11 NS10 ND10 NX10 NY10 G10
  obtain ⟨o, ho⟩ : ∃ o : Int, ord (x : Int) (y : Int) = o := ⟨_, rfl⟩
  have hob : (o < 0 ∧ b = 1) ∨ (¬ o < 0 ∧ b = 0) := by
    have hb := Hb.out
    unfold bor at hb
    unfold ord at ho
    split at hb <;> split at ho <;> first | omega | (split at ho <;> omega)
  have cF1 : Hid (∀ n, Calls Try.prog 16 #[.slice sa sc sd] (ext w11 n) fun e w' => e = .returned (.agg #[.int .u64 s0, .int .u64 s1, .int .u64 s2, .int .u64 s3]) ∧ Below (ext w11 n).heap.size (ext w11 n) w') := by
    intro n; have := four_num (x + y) _ _ (NS11.out.below (ext_below w11 n)) 11 hXY (by omega); rwa [es'.out] at this
  have cF2 : Hid (∀ n, Calls Try.prog 16 #[.slice da dc dd] (ext w11 n) fun e w' => e = .returned (.agg #[.int .u64 t0, .int .u64 t1, .int .u64 t2, .int .u64 t3]) ∧ Below (ext w11 n).heap.size (ext w11 n) w') := by
    intro n; have := four_num (x + M4 - y) _ _ (ND11.out.below (ext_below w11 n)) 11 hD (by omega); rwa [et'.out] at this
  have cB : Hid (∀ n, Calls Try.prog 17 #[.slice sa sc sd, .int .i64 256] (ext w11 n) fun e w' => e = .returned (.int .i64 (c : Int)) ∧ Below (ext w11 n).heap.size (ext w11 n) w') := by
    intro n
    have := bit_num (x + y) _ 256 _ (NS11.out.below (ext_below w11 n)) 11 hXY (by omega) (by omega)
    rw [show (2 : Nat) ^ 256 = M4 by unfold M4; decide, Hc.out, Nat.mod_eq_of_lt (by omega)] at this
    exact this
  have cC : Hid (∀ w, Calls Try.prog 18 #[.agg #[.int .u64 a0, .int .u64 a1, .int .u64 a2, .int .u64 a3], .agg #[.int .u64 y0, .int .u64 y1, .int .u64 y2, .int .u64 y3]] w fun e w' => e = .returned (.int .i64 o) ∧ Below w.heap.size w w') := by
    intro w; have := cmp_any x y hx hy w; rwa [ea'.out, eb'.out, ho] at this
  have cN : Hid (∀ n, Calls Try.prog 15 #[.slice xa xc xd, .slice ya yc yd] (ext w11 n) fun e w' => e = .returned (.int .i64 o) ∧ Below (ext w11 n).heap.size (ext w11 n) w') := by
    intro n; have := cmp_num x y _ _ _ (NX11.out.below (ext_below w11 n)) (NY11.out.below (ext_below w11 n)) 11 hX hY (by omega); rwa [ho] at this
  have bA11 : Box w11 w.heap.size a0 a1 a2 a3 := bA6.out.below G11.out
  have bB11 : Box w11 (w.heap.size + 1) y0 y1 y2 y3 := bB6.out.below G11.out
  have bS11 : Box w11 w4.heap.size s0 s1 s2 s3 := bS6.out.below G11.out
  have bD11 : Box w11 w5.heap.size t0 t1 t2 t3 := bD6.out.below G11.out
  have B11 : Hid (Below w.heap.size w w11) := B6.out.trans (G11.out.mono B6.out.size)
  rw [ho]
  have wc1 : IntKind.u64.wrap (c : Int) = (c : Int) := by
    rcases (show c = 0 ∨ c = 1 by omega) with rfl | rfl <;> rfl
  clear NS11 ND11 NX11 NY11 G11 bA6 bB6 bS6 bD6 B6 NX6 NY6 ho Hb Hc ea' eb' es' et' cOx cOy cA cS hX hY hP hXY hXP hD hx hy hc1
  obtain ⟨l1, ca0, ca1, ca2, ca3⟩ := bA11
  obtain ⟨l2, cb0, cb1, cb2, cb3⟩ := bB11
  obtain ⟨l3, cs0, cs1, cs2, cs3⟩ := bS11
  obtain ⟨l4, cd0, cd1, cd2, cd3⟩ := bD11
  have e4 := eql4
  rcases hob with ⟨hoo, rfl⟩ | ⟨hoo, rfl⟩
  all_goals
    go_wp2_with fail
    refine wp_region_ext (by kernel_rfl) (by kernel_rfl) ?_
    repeat (go_big_quiet_step ((first
      | with_reducible exact calls_ext (cF1.out _)
      | with_reducible exact calls_ext (cF2.out _)
      | with_reducible exact calls_ext (cB.out _)
      | with_reducible exact calls_ext (cC.out _)
      | with_reducible exact calls_ext (cN.out _))))
    refine wpQuiet_nil ?_
    intro V1' hw'
    obtain ⟨nq', hw''⟩ := hw'
    subst hw''
    go_wp2_with fail
    go_ret
    exact ⟨rfl, B11.out.trans ((ext_below _ _).mono B11.out.size)⟩

end Go.Proofs.Ytpebinkmgkknbaa
