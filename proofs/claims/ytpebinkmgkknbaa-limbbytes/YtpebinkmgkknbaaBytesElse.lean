/-
  The walk of the law LimbBytes: for any bytes, any number of four words and either order it returns true and changes no memory that was there. Conditions: none beyond that the bytes are bytes and the words words.
-/
import Derived.Test.YtpebinkmgkknbaaAwake
import Derived.Test.YtpebinkmgkknbaaByt2
import Derived.Test.YtpebinkmgkknbaaBitsLaw
namespace Go.Proofs.Ytpebinkmgkknbaa
open Go.RowKit
set_option linter.unusedVariables false
attribute [local go_sem] ext_cell ext_frozen

/-- What the law keeps in hand: its two variables, the bytes that came in, and that nothing below has turned. -/
structure St (hb : Prop) (w : World) (p : Nat) (a0 a1 a2 a3 x0 x1 x2 x3 : Int) (v : Value) (f : Nat → Int) (W : World) : Prop where
  ba : Box W w.heap.size a0 a1 a2 a3
  bx : Box W p x0 x1 x2 x3
  rb : hb → By W v f
  be : Below w.heap.size w W
theorem St.below {hb : Prop} {w : World} {p : Nat} {a0 a1 a2 a3 x0 x1 x2 x3 : Int} {v : Value} {f : Nat → Int} {W W' : World} (h : St hb w p a0 a1 a2 a3 x0 x1 x2 x3 v f W) (g : Below W.heap.size W W') : St hb w p a0 a1 a2 a3 x0 x1 x2 x3 v f W' :=
  ⟨h.ba.below g, h.bx.below g, fun q => (h.rb q).below g, h.be.trans (g.mono h.be.size)⟩
theorem of_by (f : Nat → Int) (hf : ∀ j, 0 ≤ f j ∧ f j ≤ 255) (big : Bool) (va : Value) (w : World) (h : By w va f) :
    Calls Try.prog 32 #[va, .bool big] w fun e w' => e = .returned (.tuple #[four (vb (fun j => f (pl big j)) 32), .int .i64 0]) ∧ Below w.heap.size w w' := by
  obtain ⟨b, off, cap, rfl, hl, hc⟩ := h
  exact of_any f big b off cap hf w hl hc
theorem byte_false (x : Nat) : byteAt x = fun j => byteAt x (pl false j) := by funext j; simp [pl]
theorem byte_true (x : Nat) : (fun j => byteAt x (31 - j)) = fun j => byteAt x (pl true j) := by funext j; simp [pl]
theorem vb_M4 (f : Nat → Int) (hf : ∀ j, 0 ≤ f j ∧ f j ≤ 255) : vb f 32 < M4 := Nat.lt_of_lt_of_le (vb_lt f hf 32) (by unfold M4; decide)

set_option maxRecDepth 20000 in
set_option maxHeartbeats 4000000 in
theorem bytes_else_little (z : Nat) (f : Nat → Int) (hz : z < M4) (ba0 : Option Addr) (bn bc : Nat) (hn : bn ≠ 32) (w : World) :
    Calls Try.prog 6 #[.slice ba0 bn bc, four z, .bool false] w fun e w' => e = .returned (.bool true) ∧ Below w.heap.size w w' := by
  obtain ⟨a0, a1, a2, a3, -, -, -, -, ea, -⟩ := four_open z hz
  have cO : Hid (∀ W, Calls Try.prog 32 #[.slice ba0 bn bc, .bool false] W fun e w' => e = .returned (.tuple #[.agg #[.int .u64 0, .int .u64 0, .int .u64 0, .int .u64 0], .int .i64 2]) ∧ Below W.heap.size W w') := fun W => of_else ba0 bn bc false W hn
  have hb0 : ((bn : Int) == 32) = false := beq_eq_false_iff_ne.2 (by omega)
  have hb1 : ((bn : Int) != 32) = true := by simp [bne, hb0]
  have hb2 : ¬ (bn : Int) = 32 := by omega
  have hX : z < 16777216 ^ 11 := Nat.lt_of_lt_of_le hz (by unfold M4; decide)
  have cZ : Hid (∀ W, Calls Try.prog 9 #[.agg #[.int .u64 a0, .int .u64 a1, .int .u64 a2, .int .u64 a3]] W fun e w' => ∃ v, e = .returned v ∧ Num w' v z ∧ Below W.heap.size W w') := by
    intro W; have := of_ref_any z hz W; rwa [ea] at this
  have cY : Hid (∀ W, Calls Try.prog 36 #[.agg #[.int .u64 a0, .int .u64 a1, .int .u64 a2, .int .u64 a3], .bool false] W fun e w' => e = .returned (.slice (some ⟨W.heap.size + 1, 0, none⟩) 32 32) ∧ Filled false z (W.heap.size + 1) 32 w' ∧ Below W.heap.size W w') := by
    intro W; have := bytes_any z false hz W; rwa [ea] at this
  rw [ea]
  clear ea
  have e4 := eql4
  go_enter Try.func6, Try.ntmps6
  go_wp2_with fail
  refine (awake_any _).mono ?_
  rintro e w1 ⟨rfl, g1⟩
  have A1 : Hid (Box w1 w.heap.size a0 a1 a2 a3) := (Box.new w a0 a1 a2 a3 24).below g1
  have B1 : Hid (Below w.heap.size w w1) := ((Below.refl _ _).alloc (Nat.le_refl _) _).trans (g1.mono (by simp))
  clear g1
  go_wp2_with fail
  refine (cO.out _).mono ?_
  rintro e w2 ⟨rfl, g2⟩
  have A2 : Hid (Box w2 w.heap.size a0 a1 a2 a3) := A1.out.below g2
  have B2 : Hid (Below w.heap.size w w2) := B1.out.trans (g2.mono B1.out.size)
  clear g2 A1 B1 cO
  obtain ⟨l1, ca0, ca1, ca2, ca3⟩ := A2.out
  go_wp2_with fail
  refine calls_cut (St False w w2.heap.size a0 a1 a2 a3 0 0 0 0 (.slice ba0 bn bc) f) ⟨A2.out.alloc _, Box.new _ _ _ _ _ _, fun h => h.elim, B2.out.alloc B2.out.size _⟩ ?_
  intro W3 S3'
  have S3 : Hid (St False w w2.heap.size a0 a1 a2 a3 0 0 0 0 (.slice ba0 bn bc) f W3) := S3'
  clear S3' A2 B2 l1 ca0 ca1 ca2 ca3
  refine (cZ.out _).mono ?_
  rintro e w4 ⟨vx, rfl, nx, g4⟩
  obtain ⟨za, zc, zd, rfl⟩ := nx.shape
  have N4 : Hid (Num w4 (.slice za zc zd) z) := nx
  have S4 : Hid (St False w w2.heap.size a0 a1 a2 a3 0 0 0 0 (.slice ba0 bn bc) f w4) := S3.out.below g4
  clear nx g4 S3
  go_wp2_with fail
  refine (toLittle_num z _ _ N4.out 11 hX (by omega)).mono ?_
  rintro e w5 ⟨rfl, h5, g5⟩
  have T5 : Hid (By w5 (.slice (some ⟨w4.heap.size, 0, none⟩) 32 32) (byteAt z)) := h5
  have S5 : Hid (St False w w2.heap.size a0 a1 a2 a3 0 0 0 0 (.slice ba0 bn bc) f w5) := S4.out.below g5
  clear h5 g5 S4 N4
  obtain ⟨l1, ca0, ca1, ca2, ca3⟩ := S5.out.ba
  go_wp2_with fail
  refine (cY.out _).mono ?_
  rintro e w8 ⟨rfl, h8, g8⟩
  have Y8 : Hid (By w8 (.slice (some ⟨w5.heap.size + 1, 0, none⟩) 32 32) (fun j => byteAt z (pl false j))) := h8.by
  have T8 : Hid (By w8 (.slice (some ⟨w4.heap.size, 0, none⟩) 32 32) (fun j => byteAt z (pl false j))) := by
    have := T5.out.below g8
    rw [byte_false z] at this
    exact this
  have S8 : Hid (St False w w2.heap.size a0 a1 a2 a3 0 0 0 0 (.slice ba0 bn bc) f w8) := S5.out.below g8
  clear h8 g8 S5 T5 l1 ca0 ca1 ca2 ca3 cZ cY
  go_wp2_with fail
  refine (same_any _ _ _ _ Y8.out T8.out).mono ?_
  rintro e w9 ⟨rfl, g9⟩
  have S9 : Hid (St False w w2.heap.size a0 a1 a2 a3 0 0 0 0 (.slice ba0 bn bc) f w9) := S8.out.below g9
  clear g9 S8 Y8 T8
  obtain ⟨l2, cx0, cx1, cx2, cx3⟩ := S9.out.bx
  go_wp2_with fail
  go_ret
  exact ⟨rfl, S9.out.be⟩

set_option maxRecDepth 20000 in
set_option maxHeartbeats 4000000 in
theorem bytes_else_big (z : Nat) (f : Nat → Int) (hz : z < M4) (ba0 : Option Addr) (bn bc : Nat) (hn : bn ≠ 32) (w : World) :
    Calls Try.prog 6 #[.slice ba0 bn bc, four z, .bool true] w fun e w' => e = .returned (.bool true) ∧ Below w.heap.size w w' := by
  obtain ⟨a0, a1, a2, a3, -, -, -, -, ea, -⟩ := four_open z hz
  have cO : Hid (∀ W, Calls Try.prog 32 #[.slice ba0 bn bc, .bool true] W fun e w' => e = .returned (.tuple #[.agg #[.int .u64 0, .int .u64 0, .int .u64 0, .int .u64 0], .int .i64 2]) ∧ Below W.heap.size W w') := fun W => of_else ba0 bn bc true W hn
  have hb0 : ((bn : Int) == 32) = false := beq_eq_false_iff_ne.2 (by omega)
  have hb1 : ((bn : Int) != 32) = true := by simp [bne, hb0]
  have hb2 : ¬ (bn : Int) = 32 := by omega
  have hX : z < 16777216 ^ 11 := Nat.lt_of_lt_of_le hz (by unfold M4; decide)
  have cZ : Hid (∀ W, Calls Try.prog 9 #[.agg #[.int .u64 a0, .int .u64 a1, .int .u64 a2, .int .u64 a3]] W fun e w' => ∃ v, e = .returned v ∧ Num w' v z ∧ Below W.heap.size W w') := by
    intro W; have := of_ref_any z hz W; rwa [ea] at this
  have cY : Hid (∀ W, Calls Try.prog 36 #[.agg #[.int .u64 a0, .int .u64 a1, .int .u64 a2, .int .u64 a3], .bool true] W fun e w' => e = .returned (.slice (some ⟨W.heap.size + 1, 0, none⟩) 32 32) ∧ Filled true z (W.heap.size + 1) 32 w' ∧ Below W.heap.size W w') := by
    intro W; have := bytes_any z true hz W; rwa [ea] at this
  rw [ea]
  clear ea
  have e4 := eql4
  go_enter Try.func6, Try.ntmps6
  go_wp2_with fail
  refine (awake_any _).mono ?_
  rintro e w1 ⟨rfl, g1⟩
  have A1 : Hid (Box w1 w.heap.size a0 a1 a2 a3) := (Box.new w a0 a1 a2 a3 24).below g1
  have B1 : Hid (Below w.heap.size w w1) := ((Below.refl _ _).alloc (Nat.le_refl _) _).trans (g1.mono (by simp))
  clear g1
  go_wp2_with fail
  refine (cO.out _).mono ?_
  rintro e w2 ⟨rfl, g2⟩
  have A2 : Hid (Box w2 w.heap.size a0 a1 a2 a3) := A1.out.below g2
  have B2 : Hid (Below w.heap.size w w2) := B1.out.trans (g2.mono B1.out.size)
  clear g2 A1 B1 cO
  obtain ⟨l1, ca0, ca1, ca2, ca3⟩ := A2.out
  go_wp2_with fail
  refine calls_cut (St False w w2.heap.size a0 a1 a2 a3 0 0 0 0 (.slice ba0 bn bc) f) ⟨A2.out.alloc _, Box.new _ _ _ _ _ _, fun h => h.elim, B2.out.alloc B2.out.size _⟩ ?_
  intro W3 S3'
  have S3 : Hid (St False w w2.heap.size a0 a1 a2 a3 0 0 0 0 (.slice ba0 bn bc) f W3) := S3'
  clear S3' A2 B2 l1 ca0 ca1 ca2 ca3
  refine (cZ.out _).mono ?_
  rintro e w4 ⟨vx, rfl, nx, g4⟩
  obtain ⟨za, zc, zd, rfl⟩ := nx.shape
  have N4 : Hid (Num w4 (.slice za zc zd) z) := nx
  have S4 : Hid (St False w w2.heap.size a0 a1 a2 a3 0 0 0 0 (.slice ba0 bn bc) f w4) := S3.out.below g4
  clear nx g4 S3
  go_wp2_with fail
  refine (toLittle_num z _ _ N4.out 11 hX (by omega)).mono ?_
  rintro e w5 ⟨rfl, h5, g5⟩
  have T5 : Hid (By w5 (.slice (some ⟨w4.heap.size, 0, none⟩) 32 32) (byteAt z)) := h5
  have S5 : Hid (St False w w2.heap.size a0 a1 a2 a3 0 0 0 0 (.slice ba0 bn bc) f w5) := S4.out.below g5
  clear h5 g5 S4 N4
  obtain ⟨l1, ca0, ca1, ca2, ca3⟩ := S5.out.ba
  go_wp2_with fail
  refine (cZ.out _).mono ?_
  rintro e w6 ⟨vx6, rfl, nx6, g6⟩
  obtain ⟨za6, zc6, zd6, rfl⟩ := nx6.shape
  have N6 : Hid (Num w6 (.slice za6 zc6 zd6) z) := nx6
  have S6 : Hid (St False w w2.heap.size a0 a1 a2 a3 0 0 0 0 (.slice ba0 bn bc) f w6) := S5.out.below g6
  clear nx6 g6 S5 T5 l1 ca0 ca1 ca2 ca3
  go_wp2_with fail
  refine (toBig_num z _ _ N6.out 11 hX (by omega)).mono ?_
  rintro e w7 ⟨v7, rfl, h7, g7⟩
  have S7 : Hid (St False w w2.heap.size a0 a1 a2 a3 0 0 0 0 (.slice ba0 bn bc) f w7) := S6.out.below g7
  have T7' : Hid (By w7 v7 (fun j => byteAt z (31 - j))) := h7
  obtain ⟨tb, tq, tc, rfl, -, -⟩ := h7
  have T7 : Hid (By w7 (.slice (some ⟨tb, tq, none⟩) 32 tc) (fun j => byteAt z (31 - j))) := T7'
  clear T7' g7 S6 N6
  obtain ⟨l1, ca0, ca1, ca2, ca3⟩ := S7.out.ba
  go_wp2_with fail
  refine (cY.out _).mono ?_
  rintro e w8 ⟨rfl, h8, g8⟩
  have Y8 : Hid (By w8 (.slice (some ⟨w7.heap.size + 1, 0, none⟩) 32 32) (fun j => byteAt z (pl true j))) := h8.by
  have T8 : Hid (By w8 (.slice (some ⟨tb, tq, none⟩) 32 tc) (fun j => byteAt z (pl true j))) := by
    have := T7.out.below g8
    rw [byte_true z] at this
    exact this
  have S8 : Hid (St False w w2.heap.size a0 a1 a2 a3 0 0 0 0 (.slice ba0 bn bc) f w8) := S7.out.below g8
  clear h8 g8 S7 T7 l1 ca0 ca1 ca2 ca3 cZ cY
  go_wp2_with fail
  refine (same_any _ _ _ _ Y8.out T8.out).mono ?_
  rintro e w9 ⟨rfl, g9⟩
  have S9 : Hid (St False w w2.heap.size a0 a1 a2 a3 0 0 0 0 (.slice ba0 bn bc) f w9) := S8.out.below g9
  clear g9 S8 Y8 T8
  obtain ⟨l2, cx0, cx1, cx2, cx3⟩ := S9.out.bx
  go_wp2_with fail
  go_ret
  exact ⟨rfl, S9.out.be⟩

end Go.Proofs.Ytpebinkmgkknbaa
