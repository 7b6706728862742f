/-
  The walk of the law LimbBytes: for any bytes, any number of four words and either order it returns true and changes no memory that was there. Conditions: none beyond that the bytes are bytes and the words words.
-/
import Derived.Test.YtpebinkmgkknbaaAwake
import Derived.Test.YtpebinkmgkknbaaByt3
import Derived.Test.YtpebinkmgkknbaaBytesElse
namespace Go.Proofs.Ytpebinkmgkknbaa
open Go.RowKit
set_option linter.unusedVariables false
attribute [local go_sem] ext_cell ext_frozen

theorem little_val (f : Nat → Int) : hv (fun j => f (31 - j)) 32 = vb (fun j => f (pl false j)) 32 := by
  rw [hv_vb]
  exact vb_congr _ _ 32 fun j hj => by simp only [pl]; congr 1; simp; omega
theorem big_val (f : Nat → Int) : hv f 32 = vb (fun j => f (pl true j)) 32 := by
  rw [hv_vb]
  exact vb_congr _ _ 32 fun j hj => by simp [pl]

set_option maxRecDepth 20000 in
set_option maxHeartbeats 4000000 in
theorem bytes_32_little (z : Nat) (f : Nat → Int) (hz : z < M4) (hf : ∀ j, 0 ≤ f j ∧ f j ≤ 255) (bb bo bc : Nat) (w : World) (hB : By w (.slice (some ⟨bb, bo, none⟩) 32 bc) f) :
    Calls Try.prog 6 #[.slice (some ⟨bb, bo, none⟩) 32 bc, four z, .bool false] w fun e w' => e = .returned (.bool true) ∧ Below w.heap.size w w' := by
  obtain ⟨a0, a1, a2, a3, -, -, -, -, ea, -⟩ := four_open z hz
  have hV := vb_M4 (fun j => f (pl false j)) (fun j => hf _)
  obtain ⟨V, eV⟩ : ∃ V, vb (fun j => f (pl false j)) 32 = V := ⟨_, rfl⟩
  rw [eV] at hV
  obtain ⟨x0, x1, x2, x3, -, -, -, -, ex, -⟩ := four_open V hV
  have HF : Hid (∀ j, 0 ≤ f j ∧ f j ≤ 255) := hf
  have HB : Hid (By w (.slice (some ⟨bb, bo, none⟩) 32 bc) f) := hB
  have hVX : V < 16777216 ^ 11 := Nat.lt_of_lt_of_le hV (by unfold M4; decide)
  have cO : Hid (∀ W, By W (.slice (some ⟨bb, bo, none⟩) 32 bc) f → Calls Try.prog 32 #[.slice (some ⟨bb, bo, none⟩) 32 bc, .bool false] W fun e w' => e = .returned (.tuple #[.agg #[.int .u64 x0, .int .u64 x1, .int .u64 x2, .int .u64 x3], .int .i64 0]) ∧ Below W.heap.size W w') := by
    intro W hW; have := of_by f HF.out false _ W hW; rwa [eV, ex] at this
  have EV : Hid (vb (fun j => f (pl false j)) 32 = V) := eV
  have EX : Hid (four V = .agg #[.int .u64 x0, .int .u64 x1, .int .u64 x2, .int .u64 x3]) := ex
  clear eV ex hf hB
  have hX : z < 16777216 ^ 11 := Nat.lt_of_lt_of_le hz (by unfold M4; decide)
  have cZ : Hid (∀ W, Calls Try.prog 9 #[.agg #[.int .u64 a0, .int .u64 a1, .int .u64 a2, .int .u64 a3]] W fun e w' => ∃ v, e = .returned v ∧ Num w' v z ∧ Below W.heap.size W w') := by
    intro W; have := of_ref_any z hz W; rwa [ea] at this
  have cY : Hid (∀ W, Calls Try.prog 36 #[.agg #[.int .u64 a0, .int .u64 a1, .int .u64 a2, .int .u64 a3], .bool false] W fun e w' => e = .returned (.slice (some ⟨W.heap.size + 1, 0, none⟩) 32 32) ∧ Filled false z (W.heap.size + 1) 32 w' ∧ Below W.heap.size W w') := by
    intro W; have := bytes_any z false hz W; rwa [ea] at this
  rw [ea]
  clear ea
  have e4 := eql4
  go_enter Try.func6, Try.ntmps6
  go_wp2_with fail
  refine (awake_any _).mono ?_
  rintro e w1 ⟨rfl, g1⟩
  have A1 : Hid (Box w1 w.heap.size a0 a1 a2 a3) := (Box.new w a0 a1 a2 a3 24).below g1
  have B1 : Hid (Below w.heap.size w w1) := ((Below.refl _ _).alloc (Nat.le_refl _) _).trans (g1.mono (by simp))
  clear g1
  go_wp2_with fail
  refine (cO.out _ (HB.out.below B1.out)).mono ?_
  rintro e w2 ⟨rfl, g2⟩
  have A2 : Hid (Box w2 w.heap.size a0 a1 a2 a3) := A1.out.below g2
  have B2 : Hid (Below w.heap.size w w2) := B1.out.trans (g2.mono B1.out.size)
  clear g2 A1 B1 cO
  obtain ⟨l1, ca0, ca1, ca2, ca3⟩ := A2.out
  go_wp2_with fail
  refine calls_cut (St True w w2.heap.size a0 a1 a2 a3 x0 x1 x2 x3 (.slice (some ⟨bb, bo, none⟩) 32 bc) f) ⟨A2.out.alloc _, Box.new _ _ _ _ _ _, fun _ => HB.out.below (B2.out.alloc B2.out.size _), B2.out.alloc B2.out.size _⟩ ?_
  intro W3 S3'
  have S3 : Hid (St True w w2.heap.size a0 a1 a2 a3 x0 x1 x2 x3 (.slice (some ⟨bb, bo, none⟩) 32 bc) f W3) := S3'
  clear S3' A2 B2 l1 ca0 ca1 ca2 ca3 HB
  refine (cZ.out _).mono ?_
  rintro e w4 ⟨vx, rfl, nx, g4⟩
  obtain ⟨za, zc, zd, rfl⟩ := nx.shape
  have N4 : Hid (Num w4 (.slice za zc zd) z) := nx
  have S4 : Hid (St True w w2.heap.size a0 a1 a2 a3 x0 x1 x2 x3 (.slice (some ⟨bb, bo, none⟩) 32 bc) f w4) := S3.out.below g4
  clear nx g4 S3
  go_wp2_with fail
  refine (toLittle_num z _ _ N4.out 11 hX (by omega)).mono ?_
  rintro e w5 ⟨rfl, h5, g5⟩
  have T5 : Hid (By w5 (.slice (some ⟨w4.heap.size, 0, none⟩) 32 32) (byteAt z)) := h5
  have S5 : Hid (St True w w2.heap.size a0 a1 a2 a3 x0 x1 x2 x3 (.slice (some ⟨bb, bo, none⟩) 32 bc) f w5) := S4.out.below g5
  clear h5 g5 S4 N4
  obtain ⟨l1, ca0, ca1, ca2, ca3⟩ := S5.out.ba
  go_wp2_with fail
  refine (cY.out _).mono ?_
  rintro e w8 ⟨rfl, h8, g8⟩
  have Y8 : Hid (By w8 (.slice (some ⟨w5.heap.size + 1, 0, none⟩) 32 32) (fun j => byteAt z (pl false j))) := h8.by
  have T8 : Hid (By w8 (.slice (some ⟨w4.heap.size, 0, none⟩) 32 32) (fun j => byteAt z (pl false j))) := by
    have := T5.out.below g8
    rw [byte_false z] at this
    exact this
  have S8 : Hid (St True w w2.heap.size a0 a1 a2 a3 x0 x1 x2 x3 (.slice (some ⟨bb, bo, none⟩) 32 bc) f w8) := S5.out.below g8
  clear h8 g8 S5 T5 l1 ca0 ca1 ca2 ca3 cZ cY
  go_wp2_with fail
  refine (same_any _ _ _ _ Y8.out T8.out).mono ?_
  rintro e w9 ⟨rfl, g9⟩
  have S9 : Hid (St True w w2.heap.size a0 a1 a2 a3 x0 x1 x2 x3 (.slice (some ⟨bb, bo, none⟩) 32 bc) f w9) := S8.out.below g9
  clear g9 S8 Y8 T8
  go_wp2_with fail
  refine (little_any f HF.out _ _ (S9.out.rb trivial)).mono ?_
  rintro e w10 ⟨v10, rfl, n10, g10⟩
  obtain ⟨ya, yc, yd, rfl⟩ := n10.shape
  have S10 : Hid (St True w w2.heap.size a0 a1 a2 a3 x0 x1 x2 x3 (.slice (some ⟨bb, bo, none⟩) 32 bc) f w10) := S9.out.below g10
  have N10 : Hid (Num w10 (.slice ya yc yd) (hv (fun j => f (31 - j)) 32)) := n10
  clear n10 g10 S9
  go_wp2_with fail
  have NV : Hid (Num w10 (.slice ya yc yd) V) := by
    have := N10.out
    rw [little_val f, EV.out] at this
    exact this
  have cF : Hid (∀ m, Calls Try.prog 16 #[.slice ya yc yd] (ext w10 m) fun e w' => e = .returned (.agg #[.int .u64 x0, .int .u64 x1, .int .u64 x2, .int .u64 x3]) ∧ Below (ext w10 m).heap.size (ext w10 m) w') := by
    intro m
    have := four_num V _ _ (NV.out.below (ext_below w10 m)) 11 hVX (by omega)
    rwa [Nat.mod_eq_of_lt hV, EX.out] at this
  clear N10 NV EV EX hV hVX hX hz
  obtain ⟨l2, cx0, cx1, cx2, cx3⟩ := S10.out.bx
  have BV : Hid (Below w.heap.size w w10) := S10.out.be
  refine wp_region_ext (by kernel_rfl) (by kernel_rfl) ?_
  repeat (go_big_quiet_step (with_reducible exact calls_ext (cF.out _)))
  refine wpQuiet_nil ?_
  intro V1' hw'
  obtain ⟨nq', hw''⟩ := hw'
  subst hw''
  go_wp2_with fail
  go_ret
  exact ⟨rfl, BV.out.trans ((ext_below _ _).mono BV.out.size)⟩

set_option maxRecDepth 20000 in
set_option maxHeartbeats 4000000 in
theorem bytes_32_big (z : Nat) (f : Nat → Int) (hz : z < M4) (hf : ∀ j, 0 ≤ f j ∧ f j ≤ 255) (bb bo bc : Nat) (w : World) (hB : By w (.slice (some ⟨bb, bo, none⟩) 32 bc) f) :
    Calls Try.prog 6 #[.slice (some ⟨bb, bo, none⟩) 32 bc, four z, .bool true] w fun e w' => e = .returned (.bool true) ∧ Below w.heap.size w w' := by
  obtain ⟨a0, a1, a2, a3, -, -, -, -, ea, -⟩ := four_open z hz
  have hV := vb_M4 (fun j => f (pl true j)) (fun j => hf _)
  obtain ⟨V, eV⟩ : ∃ V, vb (fun j => f (pl true j)) 32 = V := ⟨_, rfl⟩
  rw [eV] at hV
  obtain ⟨x0, x1, x2, x3, -, -, -, -, ex, -⟩ := four_open V hV
  have HF : Hid (∀ j, 0 ≤ f j ∧ f j ≤ 255) := hf
  have HB : Hid (By w (.slice (some ⟨bb, bo, none⟩) 32 bc) f) := hB
  have hVX : V < 16777216 ^ 11 := Nat.lt_of_lt_of_le hV (by unfold M4; decide)
  have cO : Hid (∀ W, By W (.slice (some ⟨bb, bo, none⟩) 32 bc) f → Calls Try.prog 32 #[.slice (some ⟨bb, bo, none⟩) 32 bc, .bool true] W fun e w' => e = .returned (.tuple #[.agg #[.int .u64 x0, .int .u64 x1, .int .u64 x2, .int .u64 x3], .int .i64 0]) ∧ Below W.heap.size W w') := by
    intro W hW; have := of_by f HF.out true _ W hW; rwa [eV, ex] at this
  have EV : Hid (vb (fun j => f (pl true j)) 32 = V) := eV
  have EX : Hid (four V = .agg #[.int .u64 x0, .int .u64 x1, .int .u64 x2, .int .u64 x3]) := ex
  clear eV ex hf hB
  have hX : z < 16777216 ^ 11 := Nat.lt_of_lt_of_le hz (by unfold M4; decide)
  have cZ : Hid (∀ W, Calls Try.prog 9 #[.agg #[.int .u64 a0, .int .u64 a1, .int .u64 a2, .int .u64 a3]] W fun e w' => ∃ v, e = .returned v ∧ Num w' v z ∧ Below W.heap.size W w') := by
    intro W; have := of_ref_any z hz W; rwa [ea] at this
  have cY : Hid (∀ W, Calls Try.prog 36 #[.agg #[.int .u64 a0, .int .u64 a1, .int .u64 a2, .int .u64 a3], .bool true] W fun e w' => e = .returned (.slice (some ⟨W.heap.size + 1, 0, none⟩) 32 32) ∧ Filled true z (W.heap.size + 1) 32 w' ∧ Below W.heap.size W w') := by
    intro W; have := bytes_any z true hz W; rwa [ea] at this
  rw [ea]
  clear ea
  have e4 := eql4
  go_enter Try.func6, Try.ntmps6
  go_wp2_with fail
  refine (awake_any _).mono ?_
  rintro e w1 ⟨rfl, g1⟩
  have A1 : Hid (Box w1 w.heap.size a0 a1 a2 a3) := (Box.new w a0 a1 a2 a3 24).below g1
  have B1 : Hid (Below w.heap.size w w1) := ((Below.refl _ _).alloc (Nat.le_refl _) _).trans (g1.mono (by simp))
  clear g1
  go_wp2_with fail
  refine (cO.out _ (HB.out.below B1.out)).mono ?_
  rintro e w2 ⟨rfl, g2⟩
  have A2 : Hid (Box w2 w.heap.size a0 a1 a2 a3) := A1.out.below g2
  have B2 : Hid (Below w.heap.size w w2) := B1.out.trans (g2.mono B1.out.size)
  clear g2 A1 B1 cO
  obtain ⟨l1, ca0, ca1, ca2, ca3⟩ := A2.out
  go_wp2_with fail
  refine calls_cut (St True w w2.heap.size a0 a1 a2 a3 x0 x1 x2 x3 (.slice (some ⟨bb, bo, none⟩) 32 bc) f) ⟨A2.out.alloc _, Box.new _ _ _ _ _ _, fun _ => HB.out.below (B2.out.alloc B2.out.size _), B2.out.alloc B2.out.size _⟩ ?_
  intro W3 S3'
  have S3 : Hid (St True w w2.heap.size a0 a1 a2 a3 x0 x1 x2 x3 (.slice (some ⟨bb, bo, none⟩) 32 bc) f W3) := S3'
  clear S3' A2 B2 l1 ca0 ca1 ca2 ca3 HB
  refine (cZ.out _).mono ?_
  rintro e w4 ⟨vx, rfl, nx, g4⟩
  obtain ⟨za, zc, zd, rfl⟩ := nx.shape
  have N4 : Hid (Num w4 (.slice za zc zd) z) := nx
  have S4 : Hid (St True w w2.heap.size a0 a1 a2 a3 x0 x1 x2 x3 (.slice (some ⟨bb, bo, none⟩) 32 bc) f w4) := S3.out.below g4
  clear nx g4 S3
  go_wp2_with fail
  refine (toLittle_num z _ _ N4.out 11 hX (by omega)).mono ?_
  rintro e w5 ⟨rfl, h5, g5⟩
  have T5 : Hid (By w5 (.slice (some ⟨w4.heap.size, 0, none⟩) 32 32) (byteAt z)) := h5
  have S5 : Hid (St True w w2.heap.size a0 a1 a2 a3 x0 x1 x2 x3 (.slice (some ⟨bb, bo, none⟩) 32 bc) f w5) := S4.out.below g5
  clear h5 g5 S4 N4
  obtain ⟨l1, ca0, ca1, ca2, ca3⟩ := S5.out.ba
  go_wp2_with fail
  refine (cZ.out _).mono ?_
  rintro e w6 ⟨vx6, rfl, nx6, g6⟩
  obtain ⟨za6, zc6, zd6, rfl⟩ := nx6.shape
  have N6 : Hid (Num w6 (.slice za6 zc6 zd6) z) := nx6
  have S6 : Hid (St True w w2.heap.size a0 a1 a2 a3 x0 x1 x2 x3 (.slice (some ⟨bb, bo, none⟩) 32 bc) f w6) := S5.out.below g6
  clear nx6 g6 S5 T5 l1 ca0 ca1 ca2 ca3
  go_wp2_with fail
  refine (toBig_num z _ _ N6.out 11 hX (by omega)).mono ?_
  rintro e w7 ⟨v7, rfl, h7, g7⟩
  have S7 : Hid (St True w w2.heap.size a0 a1 a2 a3 x0 x1 x2 x3 (.slice (some ⟨bb, bo, none⟩) 32 bc) f w7) := S6.out.below g7
  have T7' : Hid (By w7 v7 (fun j => byteAt z (31 - j))) := h7
  obtain ⟨tb, tq, tc, rfl, -, -⟩ := h7
  have T7 : Hid (By w7 (.slice (some ⟨tb, tq, none⟩) 32 tc) (fun j => byteAt z (31 - j))) := T7'
  clear T7' g7 S6 N6
  obtain ⟨l1, ca0, ca1, ca2, ca3⟩ := S7.out.ba
  go_wp2_with fail
  refine (cY.out _).mono ?_
  rintro e w8 ⟨rfl, h8, g8⟩
  have Y8 : Hid (By w8 (.slice (some ⟨w7.heap.size + 1, 0, none⟩) 32 32) (fun j => byteAt z (pl true j))) := h8.by
  have T8 : Hid (By w8 (.slice (some ⟨tb, tq, none⟩) 32 tc) (fun j => byteAt z (pl true j))) := by
    have := T7.out.below g8
    rw [byte_true z] at this
    exact this
  have S8 : Hid (St True w w2.heap.size a0 a1 a2 a3 x0 x1 x2 x3 (.slice (some ⟨bb, bo, none⟩) 32 bc) f w8) := S7.out.below g8
  clear h8 g8 S7 T7 l1 ca0 ca1 ca2 ca3 cZ cY
  go_wp2_with fail
  refine (same_any _ _ _ _ Y8.out T8.out).mono ?_
  rintro e w9 ⟨rfl, g9⟩
  have S9 : Hid (St True w w2.heap.size a0 a1 a2 a3 x0 x1 x2 x3 (.slice (some ⟨bb, bo, none⟩) 32 bc) f w9) := S8.out.below g9
  clear g9 S8 Y8 T8
  go_wp2_with fail
  refine (little_any f HF.out _ _ (S9.out.rb trivial)).mono ?_
  rintro e w10 ⟨v10, rfl, n10, g10⟩
  obtain ⟨ya, yc, yd, rfl⟩ := n10.shape
  have S10 : Hid (St True w w2.heap.size a0 a1 a2 a3 x0 x1 x2 x3 (.slice (some ⟨bb, bo, none⟩) 32 bc) f w10) := S9.out.below g10
  have N10 : Hid (Num w10 (.slice ya yc yd) (hv (fun j => f (31 - j)) 32)) := n10
  clear n10 g10 S9
  go_wp2_with fail
  refine (big_any f HF.out _ _ (S10.out.rb trivial)).mono ?_
  rintro e w11 ⟨v11, rfl, n11, g11⟩
  obtain ⟨qa, qc, qd, rfl⟩ := n11.shape
  have S11 : Hid (St True w w2.heap.size a0 a1 a2 a3 x0 x1 x2 x3 (.slice (some ⟨bb, bo, none⟩) 32 bc) f w11) := S10.out.below g11
  have N11 : Hid (Num w11 (.slice qa qc qd) (hv f 32)) := n11
  clear n11 g11 S10 N10
  go_wp2_with fail
  have NV : Hid (Num w11 (.slice qa qc qd) V) := by
    have := N11.out
    rw [big_val f, EV.out] at this
    exact this
  have cF : Hid (∀ m, Calls Try.prog 16 #[.slice qa qc qd] (ext w11 m) fun e w' => e = .returned (.agg #[.int .u64 x0, .int .u64 x1, .int .u64 x2, .int .u64 x3]) ∧ Below (ext w11 m).heap.size (ext w11 m) w') := by
    intro m
    have := four_num V _ _ (NV.out.below (ext_below w11 m)) 11 hVX (by omega)
    rwa [Nat.mod_eq_of_lt hV, EX.out] at this
  clear N11 NV EV EX hV hVX hX hz
  obtain ⟨l2, cx0, cx1, cx2, cx3⟩ := S11.out.bx
  have BV : Hid (Below w.heap.size w w11) := S11.out.be
  refine wp_region_ext (by kernel_rfl) (by kernel_rfl) ?_
  repeat (go_big_quiet_step (with_reducible exact calls_ext (cF.out _)))
  refine wpQuiet_nil ?_
  intro V1' hw'
  obtain ⟨nq', hw''⟩ := hw'
  subst hw''
  go_wp2_with fail
  go_ret
  exact ⟨rfl, BV.out.trans ((ext_below _ _).mono BV.out.size)⟩

/-- What is known of the bytes that came in: none, or a row of which the first are they. -/
def InRow (w : World) (a : Option Addr) (len : Nat) (zs : List Int) : Prop :=
  (a = none ∧ len = 0) ∨ ∃ x, a = some x ∧ len ≤ zs.length ∧ (∀ i, i < zs.length → w.cell? (x.add i) = some (.int .u8 (zs.getD i 0))) ∧ ∀ n ∈ zs, (Lit.int .u8 n).wf = true
theorem wf_u8 {n : Int} (h : (Lit.int .u8 n).wf = true) : 0 ≤ n ∧ n ≤ 255 := by
  simp [Lit.wf, IntKind.min, IntKind.max, IntKind.signed, IntKind.bits] at h
  exact ⟨by omega, by omega⟩
theorem getD_rng (zs : List Int) (h : ∀ n ∈ zs, (Lit.int .u8 n).wf = true) (j : Nat) : 0 ≤ zs.getD j 0 ∧ zs.getD j 0 ≤ 255 := by
  by_cases hj : j < zs.length
  · have : zs.getD j 0 = zs[j] := by simp [List.getD_eq_getElem?_getD, hj]
    rw [this]
    exact wf_u8 (h _ (List.getElem_mem hj))
  · have : zs.getD j 0 = 0 := by simp [List.getD_eq_getElem?_getD, List.getElem?_eq_none (show zs.length ≤ j by omega)]
    rw [this]; omega
theorem cell_plain {w : World} {b o : Nat} {sp : Option Nat} {v : Value} (h : w.cell? ⟨b, o, sp⟩ = some v) : sp = none ∧ b < w.heap.size := by
  unfold World.cell? at h
  simp only at h
  split at h
  · rename_i c _ _ hh
    refine ⟨?_, ?_⟩
    · cases sp
      · rfl
      · simp at h
    · rcases Nat.lt_or_ge b w.heap.size with h' | h'
      · exact h'
      · rw [Array.getElem?_eq_none h'] at hh; cases hh
  · cases h

theorem bytes_walk (a : Option Addr) (len cap : Nat) (zs : List Int) (z : Nat) (big : Bool) (hz : z < M4) (w : World) (hr : InRow w a len zs) :
    Calls Try.prog 6 #[.slice a len cap, four z, .bool big] w fun e w' => e = .returned (.bool true) ∧ Below w.heap.size w w' := by
  by_cases h32 : len = 32
  · subst h32
    rcases hr with ⟨_, h⟩ | ⟨⟨b, o, sp⟩, rfl, hl, hc, hw⟩
    · omega
    · have h0 := hc 0 (by omega)
      simp only [Addr.add, if_pos] at h0
      obtain ⟨rfl, hb⟩ := cell_plain h0
      have hB : By w (.slice (some ⟨b, o, none⟩) 32 cap) (fun j => zs.getD j 0) := by
        refine ⟨b, o, cap, rfl, hb, fun j hj => ?_⟩
        have := hc j (by omega)
        unfold Addr.add at this
        by_cases hj0 : j = 0
        · subst hj0; simpa using this
        · rw [if_neg hj0] at this; exact this
      cases big
      · exact bytes_32_little z _ hz (getD_rng zs hw) b o cap w hB
      · exact bytes_32_big z _ hz (getD_rng zs hw) b o cap w hB
  · cases big
    · exact bytes_else_little z (fun _ => 0) hz a len cap h32 w
    · exact bytes_else_big z (fun _ => 0) hz a len cap h32 w

end Go.Proofs.Ytpebinkmgkknbaa
