/-
  The walk of the law LimbBits: for any two numbers of four words and any int it returns true and changes no memory that was there. Conditions: none beyond that the words are words and the int is one.
-/
import Derived.Test.YtpebinkmgkknbaaAwake
import Derived.Test.YtpebinkmgkknbaaRefI
import Derived.Test.YtpebinkmgkknbaaLimbSel
import Derived.Test.YtpebinkmgkknbaaLimbShift
import Derived.Test.YtpebinkmgkknbaaSumsLaw
import Derived.Deep.DeepCutAuto
namespace Go.Proofs.Ytpebinkmgkknbaa
open Go.RowKit
set_option linter.unusedVariables false
set_option linter.unusedSimpArgs false
attribute [local go_sem] ext_cell ext_frozen

theorem shift_num (M : Nat) (va : Value) (n : Nat) (w : World) (ha : Num w va M) (m : Nat) (hM : M < 16777216 ^ m) (hm : m ≤ 10000) (hn : n ≤ 100000) :
    Calls Try.prog 24 #[va, .int .i64 (n : Int)] w fun e w' => ∃ v, e = .returned v ∧ Num w' v (M * 2 ^ n) ∧ Below w.heap.size w w' := by
  obtain ⟨l, h1, h2, h3, rfl⟩ := ha
  have hl := nz_len l m h2 h3 hM
  exact shift_any l va n w h1 h2 (by omega) hn
theorem down_num (M : Nat) (va : Value) (n : Nat) (w : World) (ha : Num w va M) (m : Nat) (hM : M < 16777216 ^ m) (hm : m ≤ 10000) (hn : n ≤ 100000) :
    Calls Try.prog 25 #[va, .int .i64 (n : Int)] w fun e w' => ∃ v, e = .returned v ∧ Num w' v (M / 2 ^ n) ∧ Below w.heap.size w w' := by
  obtain ⟨l, h1, h2, h3, rfl⟩ := ha
  have hl := nz_len l m h2 h3 hM
  exact downR_any l va n w h1 h2 (by omega) hn
theorem bits_num (M : Nat) (va : Value) (w : World) (ha : Num w va M) (m : Nat) (hM : M < 16777216 ^ m) (hm : m ≤ 10000) :
    Calls Try.prog 30 #[va] w fun e w' => e = .returned (.int .i64 (nbits M : Int)) ∧ Below w.heap.size w w' := by
  obtain ⟨l, h1, h2, h3, rfl⟩ := ha
  have hl := nz_len l m h2 h3 hM
  exact bitsR_any l va w h1 h2 h3 (by omega)
theorem wN_div (x n : Nat) (hx : x < M4) : wN x ((n / 64 : Nat) : Int) / 2 ^ (n % 64) % 2 = x / 2 ^ n % 2 := by
  have h := wN_bit x hx ((n / 64 : Nat) : Int) (n % 64)
  rw [← Nat.toNat_testBit, ← Nat.toNat_testBit, h]
  have e : 64 * (((n / 64 : Nat) : Int)).toNat + n % 64 = n := by omega
  have e2 : (0 : Int) ≤ ((n / 64 : Nat) : Int) := by omega
  have e3 : n % 64 < 64 := by omega
  have e4 : (0 : Int) ≤ (n : Int) / 64 := by omega
  rw [e]
  simp [e3, e4]
theorem bit_any (x n : Nat) (hx : x < M4) (h1 : n ≤ 9223372036854775807) (w : World) :
    Calls Try.prog 28 #[four x, .int .i64 (n : Int)] w fun e w' => e = .returned (.int .u64 ((x / 2 ^ n % 2 : Nat) : Int)) ∧ Below w.heap.size w w' := by
  have := bit_raw x n hx h1 w
  rwa [wN_div x n hx] at this
theorem left_big (x n : Nat) (h : 256 ≤ n) : x * 2 ^ n % M4 = 0 := by
  obtain ⟨k, rfl⟩ : ∃ k, n = 256 + k := ⟨n - 256, by omega⟩
  rw [Nat.pow_add, ← show M4 = 2 ^ 256 by unfold M4; decide, ← Nat.mul_assoc, Nat.mul_right_comm]
  exact Nat.mul_mod_left _ _
theorem right_big (x n : Nat) (hx : x < M4) (h : 256 ≤ n) : x / 2 ^ n = 0 := by
  have e : M4 ≤ 2 ^ n := by
    rw [show M4 = 2 ^ 256 by unfold M4; decide]
    exact Nat.pow_le_pow_right (show 0 < 2 by decide) h
  exact Nat.div_eq_of_lt (Nat.lt_of_lt_of_le hx e)
theorem four_zero : four 0 = .agg #[.int .u64 0, .int .u64 0, .int .u64 0, .int .u64 0] := by unfold four; simp

/-- A call's own variable of four words. -/
structure Var (W : World) (b : Nat) (v0 v1 v2 v3 : Int) : Prop where
  box : Box W b v0 v1 v2 v3
  fz : ∀ o, W.frozen? ⟨b, o, none⟩ = false
theorem Var.below {W W' : World} {b : Nat} {v0 v1 v2 v3 : Int} (h : Var W b v0 v1 v2 v3) (hb : Below W.heap.size W W') : Var W' b v0 v1 v2 v3 :=
  ⟨h.box.below hb, fun o => (hb.frozen (p := ⟨b, o, none⟩) h.box.lt).trans (h.fz o)⟩
theorem Var.new (W : World) (v0 v1 v2 v3 : Int) (t : TypeId) : Var (W.alloc (.cells #[.int .u64 v0, .int .u64 v1, .int .u64 v2, .int .u64 v3] t)) W.heap.size v0 v1 v2 v3 :=
  ⟨Box.new _ _ _ _ _ _, fun o => by simp [go_sem]⟩
/-- The two variables stand, and below them nothing has turned. -/
def Two (w2 : World) (p q : Nat) (l0 l1 l2 l3 r0 r1 r2 r3 : Int) (W : World) : Prop :=
  Var W p l0 l1 l2 l3 ∧ Var W q r0 r1 r2 r3 ∧ Below w2.heap.size w2 W
theorem Two.set {w2 W : World} {p q : Nat} {a0 a1 a2 a3 c0 c1 c2 c3 : Int} (h : Two w2 p q a0 a1 a2 a3 c0 c1 c2 c3 W) (hpq : p ≠ q) (hp : w2.heap.size ≤ p) (hq : w2.heap.size ≤ q) (l0 l1 l2 l3 r0 r1 r2 r3 : Int) :
    Two w2 p q l0 l1 l2 l3 r0 r1 r2 r3 ((((((((W.setCell ⟨p, 0, none⟩ (.int .u64 l0)).setCell ⟨p, 1, none⟩ (.int .u64 l1)).setCell ⟨p, 2, none⟩ (.int .u64 l2)).setCell ⟨p, 3, none⟩ (.int .u64 l3)).setCell ⟨q, 0, none⟩ (.int .u64 r0)).setCell ⟨q, 1, none⟩ (.int .u64 r1)).setCell ⟨q, 2, none⟩ (.int .u64 r2)).setCell ⟨q, 3, none⟩ (.int .u64 r3)) := by
  obtain ⟨⟨⟨lp, cp0, cp1, cp2, cp3⟩, fp⟩, ⟨⟨lq, cq0, cq1, cq2, cq3⟩, fq⟩, b3⟩ := h
  have hqp : q ≠ p := fun e => hpq e.symm
  refine ⟨⟨⟨by simpa using lp, ?_, ?_, ?_, ?_⟩, fun o => by simp [go_sem, fp o]⟩, ⟨⟨by simpa using lq, ?_, ?_, ?_, ?_⟩, fun o => by simp [go_sem, fq o]⟩, ?_⟩
  case refine_9 => exact (((((((b3.setCell hp _).setCell hp _).setCell hp _).setCell hp _).setCell hq _).setCell hq _).setCell hq _).setCell hq _
  all_goals simp [go_sem, hpq, hqp, cp0, cp1, cp2, cp3, cq0, cq1, cq2, cq3]
theorem two_new (w2 : World) (a0 a1 a2 a3 : Int) :
    Var ((w2.alloc (.cells #[.int .u64 a0, .int .u64 a1, .int .u64 a2, .int .u64 a3] 24)).alloc (.cells #[.int .u64 a0, .int .u64 a1, .int .u64 a2, .int .u64 a3] 24)).drew w2.heap.size a0 a1 a2 a3 ∧
    Var ((w2.alloc (.cells #[.int .u64 a0, .int .u64 a1, .int .u64 a2, .int .u64 a3] 24)).alloc (.cells #[.int .u64 a0, .int .u64 a1, .int .u64 a2, .int .u64 a3] 24)).drew (w2.heap.size + 1) a0 a1 a2 a3 ∧
    Below w2.heap.size w2 ((w2.alloc (.cells #[.int .u64 a0, .int .u64 a1, .int .u64 a2, .int .u64 a3] 24)).alloc (.cells #[.int .u64 a0, .int .u64 a1, .int .u64 a2, .int .u64 a3] 24)).drew := by
  refine ⟨(Var.new w2 a0 a1 a2 a3 _).below (((Below.refl _ _).alloc (Nat.le_refl _) _).drew), ?_, (((Below.refl _ _).alloc (Nat.le_refl _) _).alloc (by simp) _).drew⟩
  have := (Var.new (w2.alloc (.cells #[.int .u64 a0, .int .u64 a1, .int .u64 a2, .int .u64 a3] 24)) a0 a1 a2 a3 24).below ((Below.refl _ _).drew)
  simpa using this
theorem even_shl (z : Int) (h : Wd z) : bits .and .u64 (IntKind.u64.wrap (z * 2)) 1 = 0 := by
  unfold Wd at h
  obtain ⟨m, rfl⟩ := Int.eq_ofNat_of_zero_le h.1
  have e : IntKind.u64.wrap ((m : Int) * 2) = ((m * 2 % 18446744073709551616 : Nat) : Int) := by rw [IntKind.wrap_u64]; omega
  rw [e, and1 _ (by omega)]
  omega
theorem mul_pow_lt (x N : Nat) (hx : x < M4) (h : N < 256) : x * 2 ^ N < 16777216 ^ 22 := by
  have h1 : 2 ^ N < 2 ^ 256 := Nat.pow_lt_pow_right (by omega) h
  have h2 : x * 2 ^ N < M4 * 2 ^ 256 := Nat.mul_lt_mul'' hx h1
  exact Nat.lt_of_lt_of_le h2 (by unfold M4; decide)
theorem calls_cut {P : Program} {f : FuncId} {args : Array Value} {Q : Ending → World → Prop} {w : World} (F : World → Prop) (h : F w) (k : ∀ w', F w' → Calls P f args w' Q) : Calls P f args w Q := k w h

set_option maxRecDepth 20000 in
set_option maxHeartbeats 4000000 in
theorem bits_walk (x y : Nat) (n : Int) (hx : x < M4) (hy : y < M4) (hn0 : -9223372036854775808 ≤ n) (hn1 : n ≤ 9223372036854775807) (w : World) :
    Calls Try.prog 5 #[four x, four y, .int .i64 n] w fun e w' => e = .returned (.bool true) ∧ Below w.heap.size w w' := by
  obtain ⟨a0, a1, a2, a3, -, -, -, -, ea, -⟩ := four_open x hx
  obtain ⟨y0, y1, y2, y3, hy0, -, -, -, eb, -⟩ := four_open y hy
  have hX : x < 16777216 ^ 11 := Nat.lt_of_lt_of_le hx (by unfold M4; decide)
  have cOx : Hid (∀ w, Calls Try.prog 9 #[.agg #[.int .u64 a0, .int .u64 a1, .int .u64 a2, .int .u64 a3]] w fun e w' => ∃ v, e = .returned v ∧ Num w' v x ∧ Below w.heap.size w w') := by
    intro w; have := of_ref_any x hx w; rwa [ea] at this
  have ea' : Hid (four x = .agg #[.int .u64 a0, .int .u64 a1, .int .u64 a2, .int .u64 a3]) := ea
  have eb' : Hid (four y = .agg #[.int .u64 y0, .int .u64 y1, .int .u64 y2, .int .u64 y3]) := eb
  have hy0 : Hid (Wd y0) := hy0
  rw [ea, eb]
  clear ea eb
  go_enter Try.func5, Try.ntmps5
  go_wp2_with fail
  refine (awake_any _).mono ?_
  rintro e w1 ⟨rfl, g1⟩
  have bA : Box w1 w.heap.size a0 a1 a2 a3 := ((Box.new w a0 a1 a2 a3 24).alloc _).below g1
  have bB : Box w1 (w.heap.size + 1) y0 y1 y2 y3 := by simpa using (Box.new (w.alloc (.cells #[.int .u64 a0, .int .u64 a1, .int .u64 a2, .int .u64 a3] 24)) y0 y1 y2 y3 24).below g1
  have B1 : Hid (Below w.heap.size w w1) := (((Below.refl _ _).alloc (Nat.le_refl _) _).alloc (by simp) _).trans (g1.mono (by simp; omega))
  clear g1
  have bA' : Hid (Box w1 w.heap.size a0 a1 a2 a3) := bA
  have bB' : Hid (Box w1 (w.heap.size + 1) y0 y1 y2 y3) := bB
  obtain ⟨l1, ca0, ca1, ca2, ca3⟩ := bA
  clear bB
  go_wp2_with fail
  refine (cOx.out _).mono ?_
  rintro e w2 ⟨vx, rfl, nx, g2⟩
  obtain ⟨xa, xc, xd, rfl⟩ := nx.shape
  have bA2 : Hid (Box w2 w.heap.size a0 a1 a2 a3) := bA'.out.below g2
  have bB2 : Hid (Box w2 (w.heap.size + 1) y0 y1 y2 y3) := bB'.out.below g2
  have B2 : Hid (Below w.heap.size w w2) := B1.out.trans (g2.mono B1.out.size)
  have NX2 : Hid (Num w2 (.slice xa xc xd) x) := nx
  clear g2 nx bA' bB' B1 l1 ca0 ca1 ca2 ca3
  have bA : Box w2 w.heap.size a0 a1 a2 a3 := bA2.out
  obtain ⟨l1, ca0, ca1, ca2, ca3⟩ := bA
  go_wp2_with fail
  go_cut [8, 9] (fun s t W => ∃ p q : Nat, s = .pointer (some ⟨p, 0, none⟩) ∧ t = .pointer (some ⟨q, 0, none⟩) ∧ p ≠ q ∧ w2.heap.size ≤ p ∧ w2.heap.size ≤ q ∧ Hid (Two w2 p q a0 a1 a2 a3 a0 a1 a2 a3 W))
  case first =>
    go_region
    all_goals
      go_wp2_with fail
      go_meet
    · exact ⟨_, _, rfl, rfl, by omega, by omega, by omega, (two_new w2 a0 a1 a2 a3).1, (two_new w2 a0 a1 a2 a3).2.1, (two_new w2 a0 a1 a2 a3).2.2⟩
    · exact ⟨_, _, rfl, rfl, by omega, by omega, by omega, (two_new w2 a0 a1 a2 a3).2.1, (two_new w2 a0 a1 a2 a3).1, (two_new w2 a0 a1 a2 a3).2.2⟩
  case rest =>
  obtain ⟨p, q, rfl, rfl, hpq, hp, hq, H3⟩ := hcut
  clear l1 ca0 ca1 ca2 ca3 cOx
  obtain ⟨⟨⟨lp, cp0, cp1, cp2, cp3⟩, fp⟩, ⟨⟨lq, cq0, cq1, cq2, cq3⟩, fq⟩, b3⟩ := H3.out
  by_cases hneg : n < 0
  · have hng : ¬ 0 < n := by omega
    have hng2 : ¬ 0 ≤ n := by omega
    have cL : Hid (∀ w, Calls Try.prog 26 #[.agg #[.int .u64 a0, .int .u64 a1, .int .u64 a2, .int .u64 a3], .int .i64 n] w fun e w' => e = .returned (.agg #[.int .u64 a0, .int .u64 a1, .int .u64 a2, .int .u64 a3]) ∧ Below w.heap.size w w') := by
      intro w; have := left_neg x n hx hneg w; rwa [ea'.out] at this
    have cR : Hid (∀ w, Calls Try.prog 27 #[.agg #[.int .u64 a0, .int .u64 a1, .int .u64 a2, .int .u64 a3], .int .i64 n] w fun e w' => e = .returned (.agg #[.int .u64 a0, .int .u64 a1, .int .u64 a2, .int .u64 a3]) ∧ Below w.heap.size w w') := by
      intro w; have := right_neg x n hx hneg w; rwa [ea'.out] at this
    have cT : Hid (∀ w, Calls Try.prog 28 #[.agg #[.int .u64 a0, .int .u64 a1, .int .u64 a2, .int .u64 a3], .int .i64 n] w fun e w' => e = .returned (.int .u64 0) ∧ Below w.heap.size w w') := by
      intro w; have := bit_neg x n hx hneg w; rwa [ea'.out] at this
    go_wp2_with fail
    refine wp_cut (Two w2 p q a0 a1 a2 a3 a0 a1 a2 a3) H3.out ?_
    clear lp cp0 cp1 cp2 cp3 fp lq cq0 cq1 cq2 cq3 fq b3
    intro V HV
    have bA : Box V w.heap.size a0 a1 a2 a3 := bA2.out.below HV.2.2
    have bB : Box V (w.heap.size + 1) y0 y1 y2 y3 := bB2.out.below HV.2.2
    have NXV : Hid (Num V (.slice xa xc xd) x) := NX2.out.below HV.2.2
    have BV : Hid (Below w.heap.size w V) := B2.out.trans (HV.2.2.mono B2.out.size)
    have cB : Hid (∀ w, Calls Try.prog 29 #[.agg #[.int .u64 a0, .int .u64 a1, .int .u64 a2, .int .u64 a3]] w fun e w' => e = .returned (.int .i64 (nbits x : Int)) ∧ Below w.heap.size w w') := by
      intro w; have := bits_any x hx w; rwa [ea'.out] at this
    have cN : Hid (∀ m, Calls Try.prog 30 #[.slice xa xc xd] (ext V m) fun e w' => e = .returned (.int .i64 (nbits x : Int)) ∧ Below (ext V m).heap.size (ext V m) w') := by
      intro m; exact bits_num x _ _ (NXV.out.below (ext_below V m)) 11 hX (by omega)
    have cS1 : Hid (∀ w, Calls Try.prog 31 #[.int .u64 1, .agg #[.int .u64 a0, .int .u64 a1, .int .u64 a2, .int .u64 a3], .agg #[.int .u64 y0, .int .u64 y1, .int .u64 y2, .int .u64 y3]] w fun e w' => e = .returned (.agg #[.int .u64 a0, .int .u64 a1, .int .u64 a2, .int .u64 a3]) ∧ Below w.heap.size w w') := by
      intro w; have := select_any 1 x y x hx hy (Or.inl ⟨by decide, rfl⟩) w; rwa [ea'.out, eb'.out] at this
    have cS2 : Hid (∀ w, Calls Try.prog 31 #[.int .u64 (IntKind.u64.wrap (y0 * 2)), .agg #[.int .u64 a0, .int .u64 a1, .int .u64 a2, .int .u64 a3], .agg #[.int .u64 y0, .int .u64 y1, .int .u64 y2, .int .u64 y3]] w fun e w' => e = .returned (.agg #[.int .u64 y0, .int .u64 y1, .int .u64 y2, .int .u64 y3]) ∧ Below w.heap.size w w') := by
      intro w; have := select_any (IntKind.u64.wrap (y0 * 2)) x y y hx hy (Or.inr ⟨even_shl y0 hy0.out, rfl⟩) w; rwa [ea'.out, eb'.out] at this
    generalize nbits x = k at cB cN
    obtain ⟨l1, ca0, ca1, ca2, ca3⟩ := bA
    obtain ⟨l2, cb0, cb1, cb2, cb3⟩ := bB
    obtain ⟨⟨⟨l3, cp0, cp1, cp2, cp3⟩, -⟩, ⟨⟨l4, cq0, cq1, cq2, cq3⟩, -⟩, -⟩ := HV
    clear hX NX2 B2 bA2 bB2 ea' eb' NXV hp hq H3 hpq
    have e4 := eql4
    refine wp_region_ext (by kernel_rfl) (by kernel_rfl) ?_
    repeat (go_big_quiet_step ((first
      | with_reducible exact calls_ext (cL.out _)
      | with_reducible exact calls_ext (cR.out _)
      | with_reducible exact calls_ext (cT.out _)
      | with_reducible exact calls_ext (cB.out _)
      | with_reducible exact calls_ext (cN.out _)
      | with_reducible exact calls_ext (cS1.out _)
      | with_reducible exact calls_ext (cS2.out _))))
    refine wpQuiet_nil ?_
    intro V1' hw'
    obtain ⟨nq', hw''⟩ := hw'
    subst hw''
    go_wp2_with fail
    go_ret
    exact ⟨rfl, BV.out.trans ((ext_below _ _).mono BV.out.size)⟩
  obtain ⟨N, rfl⟩ := Int.eq_ofNat_of_zero_le (show 0 ≤ n by omega)
  have hN0 : (0 : Int) ≤ (N : Int) := by omega
  by_cases hz : N = 0
  · subst hz
    obtain ⟨t, ht⟩ : ∃ t : Nat, x / 2 ^ 0 % 2 = t := ⟨_, rfl⟩
    have ht1 : (t : Int) ≤ 1 := by omega
    have wt : IntKind.u64.wrap (t : Int) = (t : Int) := by rw [IntKind.wrap_u64]; omega
    have cL : Hid (∀ w, Calls Try.prog 26 #[.agg #[.int .u64 a0, .int .u64 a1, .int .u64 a2, .int .u64 a3], .int .i64 0] w fun e w' => e = .returned (.agg #[.int .u64 a0, .int .u64 a1, .int .u64 a2, .int .u64 a3]) ∧ Below w.heap.size w w') := by
      intro w; have := left_any x 0 hx (by omega) w; rw [Nat.pow_zero, Nat.mul_one, Nat.mod_eq_of_lt hx, ea'.out] at this; exact this
    have cR : Hid (∀ w, Calls Try.prog 27 #[.agg #[.int .u64 a0, .int .u64 a1, .int .u64 a2, .int .u64 a3], .int .i64 0] w fun e w' => e = .returned (.agg #[.int .u64 a0, .int .u64 a1, .int .u64 a2, .int .u64 a3]) ∧ Below w.heap.size w w') := by
      intro w; have := right_any x 0 hx (by omega) w; rw [Nat.pow_zero, Nat.div_one, Nat.mod_eq_of_lt hx, ea'.out] at this; exact this
    have cT : Hid (∀ w, Calls Try.prog 28 #[.agg #[.int .u64 a0, .int .u64 a1, .int .u64 a2, .int .u64 a3], .int .i64 0] w fun e w' => e = .returned (.int .u64 (t : Int)) ∧ Below w.heap.size w w') := by
      intro w; have := bit_any x 0 hx (by omega) w; rw [ht, ea'.out] at this; exact this
    go_wp2_with fail
    have cG := bit_num x _ 0 _ (NX2.out.below H3.out.2.2) 11 hX (by omega) (by omega)
    rw [ht] at cG
    refine cG.mono ?_
    rintro e w11 ⟨rfl, g11⟩
    clear lp cp0 cp1 cp2 cp3 fp lq cq0 cq1 cq2 cq3 fq b3
    go_wp2_with fail
    refine wp_cut (Two w2 p q a0 a1 a2 a3 a0 a1 a2 a3) ⟨H3.out.1.below g11, H3.out.2.1.below g11, H3.out.2.2.trans (g11.mono H3.out.2.2.size)⟩ ?_
    intro V HV
    have bA : Box V w.heap.size a0 a1 a2 a3 := bA2.out.below HV.2.2
    have bB : Box V (w.heap.size + 1) y0 y1 y2 y3 := bB2.out.below HV.2.2
    have NXV : Hid (Num V (.slice xa xc xd) x) := NX2.out.below HV.2.2
    have BV : Hid (Below w.heap.size w V) := B2.out.trans (HV.2.2.mono B2.out.size)
    have cB : Hid (∀ w, Calls Try.prog 29 #[.agg #[.int .u64 a0, .int .u64 a1, .int .u64 a2, .int .u64 a3]] w fun e w' => e = .returned (.int .i64 (nbits x : Int)) ∧ Below w.heap.size w w') := by
      intro w; have := bits_any x hx w; rwa [ea'.out] at this
    have cN : Hid (∀ m, Calls Try.prog 30 #[.slice xa xc xd] (ext V m) fun e w' => e = .returned (.int .i64 (nbits x : Int)) ∧ Below (ext V m).heap.size (ext V m) w') := by
      intro m; exact bits_num x _ _ (NXV.out.below (ext_below V m)) 11 hX (by omega)
    have cS1 : Hid (∀ w, Calls Try.prog 31 #[.int .u64 1, .agg #[.int .u64 a0, .int .u64 a1, .int .u64 a2, .int .u64 a3], .agg #[.int .u64 y0, .int .u64 y1, .int .u64 y2, .int .u64 y3]] w fun e w' => e = .returned (.agg #[.int .u64 a0, .int .u64 a1, .int .u64 a2, .int .u64 a3]) ∧ Below w.heap.size w w') := by
      intro w; have := select_any 1 x y x hx hy (Or.inl ⟨by decide, rfl⟩) w; rwa [ea'.out, eb'.out] at this
    have cS2 : Hid (∀ w, Calls Try.prog 31 #[.int .u64 (IntKind.u64.wrap (y0 * 2)), .agg #[.int .u64 a0, .int .u64 a1, .int .u64 a2, .int .u64 a3], .agg #[.int .u64 y0, .int .u64 y1, .int .u64 y2, .int .u64 y3]] w fun e w' => e = .returned (.agg #[.int .u64 y0, .int .u64 y1, .int .u64 y2, .int .u64 y3]) ∧ Below w.heap.size w w') := by
      intro w; have := select_any (IntKind.u64.wrap (y0 * 2)) x y y hx hy (Or.inr ⟨even_shl y0 hy0.out, rfl⟩) w; rwa [ea'.out, eb'.out] at this
    generalize nbits x = k at cB cN
    obtain ⟨l1, ca0, ca1, ca2, ca3⟩ := bA
    obtain ⟨l2, cb0, cb1, cb2, cb3⟩ := bB
    obtain ⟨⟨⟨l3, cp0, cp1, cp2, cp3⟩, -⟩, ⟨⟨l4, cq0, cq1, cq2, cq3⟩, -⟩, -⟩ := HV
    clear hX NX2 B2 bA2 bB2 ea' eb' NXV hp hq H3 hpq
    have e4 := eql4
    refine wp_region_ext (by kernel_rfl) (by kernel_rfl) ?_
    repeat (go_big_quiet_step ((first
      | with_reducible exact calls_ext (cL.out _)
      | with_reducible exact calls_ext (cR.out _)
      | with_reducible exact calls_ext (cT.out _)
      | with_reducible exact calls_ext (cB.out _)
      | with_reducible exact calls_ext (cN.out _)
      | with_reducible exact calls_ext (cS1.out _)
      | with_reducible exact calls_ext (cS2.out _))))
    refine wpQuiet_nil ?_
    intro V1' hw'
    obtain ⟨nq', hw''⟩ := hw'
    subst hw''
    go_wp2_with fail
    go_ret
    exact ⟨rfl, BV.out.trans ((ext_below _ _).mono BV.out.size)⟩
  have hNp : (0 : Int) < (N : Int) := by omega
  by_cases hbig : 256 ≤ N
  · have hbig' : ¬ (N : Int) < 256 := by omega
    have cL : Hid (∀ w, Calls Try.prog 26 #[.agg #[.int .u64 a0, .int .u64 a1, .int .u64 a2, .int .u64 a3], .int .i64 (N : Int)] w fun e w' => e = .returned (.agg #[.int .u64 0, .int .u64 0, .int .u64 0, .int .u64 0]) ∧ Below w.heap.size w w') := by
      intro w; have := left_any x N hx (by omega) w; rw [left_big x N hbig, ea'.out, four_zero] at this; exact this
    have cR : Hid (∀ w, Calls Try.prog 27 #[.agg #[.int .u64 a0, .int .u64 a1, .int .u64 a2, .int .u64 a3], .int .i64 (N : Int)] w fun e w' => e = .returned (.agg #[.int .u64 0, .int .u64 0, .int .u64 0, .int .u64 0]) ∧ Below w.heap.size w w') := by
      intro w; have := right_any x N hx (by omega) w; rw [right_big x N hx hbig, Nat.zero_mod, ea'.out, four_zero] at this; exact this
    have cT : Hid (∀ w, Calls Try.prog 28 #[.agg #[.int .u64 a0, .int .u64 a1, .int .u64 a2, .int .u64 a3], .int .i64 (N : Int)] w fun e w' => e = .returned (.int .u64 0) ∧ Below w.heap.size w w') := by
      intro w; have := bit_any x N hx (by omega) w; rw [right_big x N hx hbig, Nat.zero_mod, ea'.out] at this; exact this
    go_wp2_with fail
    refine wp_cut (Two w2 p q 0 0 0 0 0 0 0 0) (H3.out.set hpq hp hq 0 0 0 0 0 0 0 0) ?_
    clear lp cp0 cp1 cp2 cp3 fp lq cq0 cq1 cq2 cq3 fq b3
    intro V HV
    have bA : Box V w.heap.size a0 a1 a2 a3 := bA2.out.below HV.2.2
    have bB : Box V (w.heap.size + 1) y0 y1 y2 y3 := bB2.out.below HV.2.2
    have NXV : Hid (Num V (.slice xa xc xd) x) := NX2.out.below HV.2.2
    have BV : Hid (Below w.heap.size w V) := B2.out.trans (HV.2.2.mono B2.out.size)
    have cB : Hid (∀ w, Calls Try.prog 29 #[.agg #[.int .u64 a0, .int .u64 a1, .int .u64 a2, .int .u64 a3]] w fun e w' => e = .returned (.int .i64 (nbits x : Int)) ∧ Below w.heap.size w w') := by
      intro w; have := bits_any x hx w; rwa [ea'.out] at this
    have cN : Hid (∀ m, Calls Try.prog 30 #[.slice xa xc xd] (ext V m) fun e w' => e = .returned (.int .i64 (nbits x : Int)) ∧ Below (ext V m).heap.size (ext V m) w') := by
      intro m; exact bits_num x _ _ (NXV.out.below (ext_below V m)) 11 hX (by omega)
    have cS1 : Hid (∀ w, Calls Try.prog 31 #[.int .u64 1, .agg #[.int .u64 a0, .int .u64 a1, .int .u64 a2, .int .u64 a3], .agg #[.int .u64 y0, .int .u64 y1, .int .u64 y2, .int .u64 y3]] w fun e w' => e = .returned (.agg #[.int .u64 a0, .int .u64 a1, .int .u64 a2, .int .u64 a3]) ∧ Below w.heap.size w w') := by
      intro w; have := select_any 1 x y x hx hy (Or.inl ⟨by decide, rfl⟩) w; rwa [ea'.out, eb'.out] at this
    have cS2 : Hid (∀ w, Calls Try.prog 31 #[.int .u64 (IntKind.u64.wrap (y0 * 2)), .agg #[.int .u64 a0, .int .u64 a1, .int .u64 a2, .int .u64 a3], .agg #[.int .u64 y0, .int .u64 y1, .int .u64 y2, .int .u64 y3]] w fun e w' => e = .returned (.agg #[.int .u64 y0, .int .u64 y1, .int .u64 y2, .int .u64 y3]) ∧ Below w.heap.size w w') := by
      intro w; have := select_any (IntKind.u64.wrap (y0 * 2)) x y y hx hy (Or.inr ⟨even_shl y0 hy0.out, rfl⟩) w; rwa [ea'.out, eb'.out] at this
    generalize nbits x = k at cB cN
    obtain ⟨l1, ca0, ca1, ca2, ca3⟩ := bA
    obtain ⟨l2, cb0, cb1, cb2, cb3⟩ := bB
    obtain ⟨⟨⟨l3, cp0, cp1, cp2, cp3⟩, -⟩, ⟨⟨l4, cq0, cq1, cq2, cq3⟩, -⟩, -⟩ := HV
    clear hX NX2 B2 bA2 bB2 ea' eb' NXV hp hq H3 hpq
    have e4 := eql4
    refine wp_region_ext (by kernel_rfl) (by kernel_rfl) ?_
    repeat (go_big_quiet_step ((first
      | with_reducible exact calls_ext (cL.out _)
      | with_reducible exact calls_ext (cR.out _)
      | with_reducible exact calls_ext (cT.out _)
      | with_reducible exact calls_ext (cB.out _)
      | with_reducible exact calls_ext (cN.out _)
      | with_reducible exact calls_ext (cS1.out _)
      | with_reducible exact calls_ext (cS2.out _))))
    refine wpQuiet_nil ?_
    intro V1' hw'
    obtain ⟨nq', hw''⟩ := hw'
    subst hw''
    go_wp2_with fail
    go_ret
    exact ⟨rfl, BV.out.trans ((ext_below _ _).mono BV.out.size)⟩
  · have hsm : (N : Int) < 256 := by omega
    obtain ⟨t, ht⟩ : ∃ t : Nat, x / 2 ^ N % 2 = t := ⟨_, rfl⟩
    have ht1 : (t : Int) ≤ 1 := by omega
    have wt : IntKind.u64.wrap (t : Int) = (t : Int) := by rw [IntKind.wrap_u64]; omega
    obtain ⟨l0, l1, l2, l3, -, -, -, -, el, -⟩ := four_open (x * 2 ^ N % M4) (mod_M4 _)
    obtain ⟨r0, r1, r2, r3, -, -, -, -, er, -⟩ := four_open (x / 2 ^ N % M4) (mod_M4 _)
    have hXN := mul_pow_lt x N hx (by omega)
    have hXD : x / 2 ^ N < 16777216 ^ 11 := Nat.lt_of_le_of_lt (Nat.div_le_self _ _) hX
    have cL : Hid (∀ w, Calls Try.prog 26 #[.agg #[.int .u64 a0, .int .u64 a1, .int .u64 a2, .int .u64 a3], .int .i64 (N : Int)] w fun e w' => e = .returned (.agg #[.int .u64 l0, .int .u64 l1, .int .u64 l2, .int .u64 l3]) ∧ Below w.heap.size w w') := by
      intro w; have := left_any x N hx (by omega) w; rw [el, ea'.out] at this; exact this
    have cR : Hid (∀ w, Calls Try.prog 27 #[.agg #[.int .u64 a0, .int .u64 a1, .int .u64 a2, .int .u64 a3], .int .i64 (N : Int)] w fun e w' => e = .returned (.agg #[.int .u64 r0, .int .u64 r1, .int .u64 r2, .int .u64 r3]) ∧ Below w.heap.size w w') := by
      intro w; have := right_any x N hx (by omega) w; rw [er, ea'.out] at this; exact this
    have cT : Hid (∀ w, Calls Try.prog 28 #[.agg #[.int .u64 a0, .int .u64 a1, .int .u64 a2, .int .u64 a3], .int .i64 (N : Int)] w fun e w' => e = .returned (.int .u64 (t : Int)) ∧ Below w.heap.size w w') := by
      intro w; have := bit_any x N hx (by omega) w; rw [ht, ea'.out] at this; exact this
    have Hel : Hid _ := el
    have Her : Hid _ := er
    have Ht : Hid _ := ht
    clear el er ht
    go_wp2_with fail
    refine calls_cut (Two w2 p q 0 0 0 0 0 0 0 0) (H3.out.set hpq hp hq 0 0 0 0 0 0 0 0) ?_
    intro V6 H6'
    have H6 : Hid (Two w2 p q 0 0 0 0 0 0 0 0 V6) := H6'
    clear H6' H3 lp cp0 cp1 cp2 cp3 fp lq cq0 cq1 cq2 cq3 fq b3
    refine (shift_num x _ N _ (NX2.out.below H6.out.2.2) 11 hX (by omega) (by omega)).mono ?_
    rintro e w7 ⟨vs, rfl, ns, g7⟩
    obtain ⟨sa, sc, sd, rfl⟩ := ns.shape
    have c7 : Hid _ := four_num (x * 2 ^ N) _ _ ns 22 hXN (by omega)
    unfold Hid at c7
    rw [Hel.out] at c7
    have C7 : Hid (Calls Try.prog 16 #[.slice sa sc sd] w7 fun e w' => e = .returned (.agg #[.int .u64 l0, .int .u64 l1, .int .u64 l2, .int .u64 l3]) ∧ Below w7.heap.size w7 w') := c7
    have b7 : Hid (Below V6.heap.size V6 w7) := g7
    clear ns g7 c7
    go_wp2_with fail
    refine C7.out.mono ?_
    rintro e w8 ⟨rfl, g8⟩
    have b8 : Hid (Below V6.heap.size V6 w8) := b7.out.trans (g8.mono b7.out.size)
    clear C7 b7 g8
    have NX8 : Hid (Num w8 (.slice xa xc xd) x) := (NX2.out.below H6.out.2.2).below b8.out
    go_wp2_with fail
    refine (down_num x _ N _ NX8.out 11 hX (by omega) (by omega)).mono ?_
    rintro e w9 ⟨vd, rfl, nd, g9⟩
    obtain ⟨da, dc, dd, rfl⟩ := nd.shape
    have c9 := four_num (x / 2 ^ N) _ _ nd 11 hXD (by omega)
    rw [Her.out] at c9
    have C9 : Hid (Calls Try.prog 16 #[.slice da dc dd] w9 fun e w' => e = .returned (.agg #[.int .u64 r0, .int .u64 r1, .int .u64 r2, .int .u64 r3]) ∧ Below w9.heap.size w9 w') := c9
    have b9 : Hid (Below V6.heap.size V6 w9) := b8.out.trans (g9.mono b8.out.size)
    clear nd g9 c9 b8 NX8
    go_wp2_with fail
    refine C9.out.mono ?_
    rintro e w10 ⟨rfl, g10⟩
    have b10 : Below V6.heap.size V6 w10 := b9.out.trans (g10.mono b9.out.size)
    have H10 : Hid (Two w2 p q 0 0 0 0 0 0 0 0 w10) := ⟨H6.out.1.below b10, H6.out.2.1.below b10, H6.out.2.2.trans (b10.mono H6.out.2.2.size)⟩
    clear C9 b9 g10 b10 H6
    obtain ⟨⟨⟨lp, cp0, cp1, cp2, cp3⟩, fp⟩, ⟨⟨lq, cq0, cq1, cq2, cq3⟩, fq⟩, -⟩ := H10.out
    go_wp2_with fail
    refine calls_cut (Two w2 p q l0 l1 l2 l3 r0 r1 r2 r3) (H10.out.set hpq hp hq l0 l1 l2 l3 r0 r1 r2 r3) ?_
    intro V11 H11'
    have H3 : Hid (Two w2 p q l0 l1 l2 l3 r0 r1 r2 r3 V11) := H11'
    clear H11' H10 lp cp0 cp1 cp2 cp3 fp lq cq0 cq1 cq2 cq3 fq
    have cG := bit_num x _ N _ (NX2.out.below H3.out.2.2) 11 hX (by omega) (by omega)
    rw [Ht.out] at cG
    refine cG.mono ?_
    rintro e w11 ⟨rfl, g11⟩
    clear cG
    go_wp2_with fail
    refine wp_cut (Two w2 p q l0 l1 l2 l3 r0 r1 r2 r3) ⟨H3.out.1.below g11, H3.out.2.1.below g11, H3.out.2.2.trans (g11.mono H3.out.2.2.size)⟩ ?_
    clear g11
    intro V HV
    have bA : Box V w.heap.size a0 a1 a2 a3 := bA2.out.below HV.2.2
    have bB : Box V (w.heap.size + 1) y0 y1 y2 y3 := bB2.out.below HV.2.2
    have NXV : Hid (Num V (.slice xa xc xd) x) := NX2.out.below HV.2.2
    have BV : Hid (Below w.heap.size w V) := B2.out.trans (HV.2.2.mono B2.out.size)
    have cB : Hid (∀ w, Calls Try.prog 29 #[.agg #[.int .u64 a0, .int .u64 a1, .int .u64 a2, .int .u64 a3]] w fun e w' => e = .returned (.int .i64 (nbits x : Int)) ∧ Below w.heap.size w w') := by
      intro w; have := bits_any x hx w; rwa [ea'.out] at this
    have cN : Hid (∀ m, Calls Try.prog 30 #[.slice xa xc xd] (ext V m) fun e w' => e = .returned (.int .i64 (nbits x : Int)) ∧ Below (ext V m).heap.size (ext V m) w') := by
      intro m; exact bits_num x _ _ (NXV.out.below (ext_below V m)) 11 hX (by omega)
    have cS1 : Hid (∀ w, Calls Try.prog 31 #[.int .u64 1, .agg #[.int .u64 a0, .int .u64 a1, .int .u64 a2, .int .u64 a3], .agg #[.int .u64 y0, .int .u64 y1, .int .u64 y2, .int .u64 y3]] w fun e w' => e = .returned (.agg #[.int .u64 a0, .int .u64 a1, .int .u64 a2, .int .u64 a3]) ∧ Below w.heap.size w w') := by
      intro w; have := select_any 1 x y x hx hy (Or.inl ⟨by decide, rfl⟩) w; rwa [ea'.out, eb'.out] at this
    have cS2 : Hid (∀ w, Calls Try.prog 31 #[.int .u64 (IntKind.u64.wrap (y0 * 2)), .agg #[.int .u64 a0, .int .u64 a1, .int .u64 a2, .int .u64 a3], .agg #[.int .u64 y0, .int .u64 y1, .int .u64 y2, .int .u64 y3]] w fun e w' => e = .returned (.agg #[.int .u64 y0, .int .u64 y1, .int .u64 y2, .int .u64 y3]) ∧ Below w.heap.size w w') := by
      intro w; have := select_any (IntKind.u64.wrap (y0 * 2)) x y y hx hy (Or.inr ⟨even_shl y0 hy0.out, rfl⟩) w; rwa [ea'.out, eb'.out] at this
    generalize nbits x = k at cB cN
    obtain ⟨l1, ca0, ca1, ca2, ca3⟩ := bA
    obtain ⟨l2, cb0, cb1, cb2, cb3⟩ := bB
    obtain ⟨⟨⟨l3, cp0, cp1, cp2, cp3⟩, -⟩, ⟨⟨l4, cq0, cq1, cq2, cq3⟩, -⟩, -⟩ := HV
    clear hX NX2 B2 bA2 bB2 ea' eb' NXV hp hq H3 hpq
    have e4 := eql4
    refine wp_region_ext (by kernel_rfl) (by kernel_rfl) ?_
    repeat (go_big_quiet_step ((first
      | with_reducible exact calls_ext (cL.out _)
      | with_reducible exact calls_ext (cR.out _)
      | with_reducible exact calls_ext (cT.out _)
      | with_reducible exact calls_ext (cB.out _)
      | with_reducible exact calls_ext (cN.out _)
      | with_reducible exact calls_ext (cS1.out _)
      | with_reducible exact calls_ext (cS2.out _))))
    refine wpQuiet_nil ?_
    intro V1' hw'
    obtain ⟨nq', hw''⟩ := hw'
    subst hw''
    go_wp2_with fail
    go_ret
    exact ⟨rfl, BV.out.trans ((ext_below _ _).mono BV.out.size)⟩

end Go.Proofs.Ytpebinkmgkknbaa
