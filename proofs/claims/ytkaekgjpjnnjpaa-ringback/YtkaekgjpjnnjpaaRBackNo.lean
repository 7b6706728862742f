/-
  The walk of the law RingBack: for any modulus, any three numbers of four words and any two exponents of 32 bits it returns true and changes no memory that was there. Conditions: as each theorem says.
-/
import Derived.Test.YtkaekgjpjnnjpaaRingBk
namespace Go.Proofs.Ytkaekgjpjnnjpaa
open Go.RowKit
set_option linter.unusedVariables false

set_option maxRecDepth 100000 in
set_option maxHeartbeats 8000000 in
theorem rback_no (m x y z u v : Nat) (hm : m < M4) (hx : x < M4) (hy : y < M4) (hz : z < M4) (hu : u < 4294967296) (hv : v < 4294967296) (h : m % 2 = 0 ∨ m = 1) (x0 x1 x2 x3 y0 y1 y2 y3 z0 z1 z2 z3 : Int) (ex : four x = .agg #[.int .u64 x0, .int .u64 x1, .int .u64 x2, .int .u64 x3]) (ey : four y = .agg #[.int .u64 y0, .int .u64 y1, .int .u64 y2, .int .u64 y3]) (ez : four z = .agg #[.int .u64 z0, .int .u64 z1, .int .u64 z2, .int .u64 z3]) (w : World) :
    Calls Try.prog 6 #[four m, .agg #[.int .u64 x0, .int .u64 x1, .int .u64 x2, .int .u64 x3, .int .u64 y0, .int .u64 y1, .int .u64 y2, .int .u64 y3, .int .u64 z0, .int .u64 z1, .int .u64 z2, .int .u64 z3], .agg #[.int .u32 (u : Int), .int .u32 (v : Int)]] w fun e w' => e = .returned (.bool true) ∧ Below w.heap.size w w' := by
  have N1 : Hid (∀ w, Calls Try.prog 11 #[.pointer none] w fun e w' => e = .returned (.agg #[.int .u64 0, .int .u64 0, .int .u64 0, .int .u64 0]) ∧ Below w.heap.size w w') := by
    intro w; have := modulus_none w; exact this
  have N2 : Hid (∀ w, Calls Try.prog 12 #[.pointer none, .agg #[.int .u64 x0, .int .u64 x1, .int .u64 x2, .int .u64 x3]] w fun e w' => e = .returned (.agg #[.int .u64 0, .int .u64 0, .int .u64 0, .int .u64 0]) ∧ Below w.heap.size w w') := by
    intro w; have := reduce_none w x hx; rwa [ex] at this
  have N3 : Hid (∀ w, Calls Try.prog 18 #[.pointer none, .agg #[.int .u64 x0, .int .u64 x1, .int .u64 x2, .int .u64 x3]] w fun e w' => e = .returned (.agg #[.int .u64 0, .int .u64 0, .int .u64 0, .int .u64 0]) ∧ Below w.heap.size w w') := by
    intro w; have := in_none w x hx; rwa [ex] at this
  have N4 : Hid (∀ w, Calls Try.prog 25 #[.pointer none, .agg #[.int .u64 x0, .int .u64 x1, .int .u64 x2, .int .u64 x3], .agg #[.int .u64 y0, .int .u64 y1, .int .u64 y2, .int .u64 y3]] w fun e w' => e = .returned (.agg #[.int .u64 0, .int .u64 0, .int .u64 0, .int .u64 0]) ∧ Below w.heap.size w w') := by
    intro w; have := times_none w x hx y hy; rwa [ex, ey] at this
  have N5 : Hid (∀ w, Calls Try.prog 29 #[.pointer none, .agg #[.int .u64 x0, .int .u64 x1, .int .u64 x2, .int .u64 x3]] w fun e w' => e = .returned (.agg #[.int .u64 0, .int .u64 0, .int .u64 0, .int .u64 0]) ∧ Below w.heap.size w w') := by
    intro w; have := inv_none w x hx; rwa [ex] at this
  have N6 : Hid (∀ w, Calls Try.prog 15 #[.pointer none, .agg #[.int .u64 1, .int .u64 0, .int .u64 0, .int .u64 0, .int .u64 0, .int .u64 0, .int .u64 0, .int .u64 0]] w fun e w' => e = .returned (.agg #[.int .u64 0, .int .u64 0, .int .u64 0, .int .u64 0]) ∧ Below w.heap.size w w') := by
    intro w; have := wide_none w 1; rwa [eight_one] at this
  have CN := fun w => new_none w m hm h
  have CO := fun w => odd_no m hm h w
  obtain ⟨m0, m1, m2, m3, -, -, -, -, em, -⟩ := four_open m hm
  rw [em] at CN CO
  rw [em]
  have n4 := neq4
  clear em ex ey ez hm hx hy hz h
  go_enter Try.func6, Try.ntmps6
  go_wp2_with fail
  refine (awake3_any _).mono ?_
  rintro e w1 ⟨rfl, g1⟩
  have G_1 : Hid (Below w.heap.size w w1) := Below.trans (by (repeat (first | exact Below.refl _ _ | refine Below.drew ?_ | refine Below.alloc ?_ (by first | omega | (simp <;> omega)) _ | refine Below.setCell ?_ (by first | omega | (simp <;> omega)) _)); done) (g1.mono (by first | omega | (simp <;> omega)))
  have M_1 : Hid (Blk w1 w.heap.size m0 m1 m2 m3) := Blk.below (by (repeat (first | exact Blk.new_at _ _ _ _ _ _ _ (by simp) | refine Blk.drew ?_ | refine Blk.alloc ?_ _)); done) g1
  have L_1 : Hid (Bx12 w1 (w.heap.size + 1) x0 x1 x2 x3 y0 y1 y2 y3 z0 z1 z2 z3) := Bx12.below (by (repeat (first | exact Bx12.new_at _ _ _ _ _ _ _ _ _ _ _ _ _ _ _ (by simp) | refine Bx12.drew ?_ | refine Bx12.alloc ?_ _)); done) g1
  have N_1 : Hid (BxV w1 (w.heap.size + 1 + 1) (.int .u32 (u : Int)) (.int .u32 (v : Int))) := BxV.below (by (repeat (first | exact BxV.new_at _ _ _ _ _ (by simp) | refine BxV.drew ?_ | refine BxV.alloc ?_ _)); done) g1
  clear g1
  go_wp2_with fail
  refine wp_cut (fun V => Below w.heap.size w V ∧ Blk V w.heap.size m0 m1 m2 m3 ∧ Bx12 V (w.heap.size + 1) x0 x1 x2 x3 y0 y1 y2 y3 z0 z1 z2 z3 ∧ BxV V (w.heap.size + 1 + 1) (.int .u32 (u : Int)) (.int .u32 (v : Int)) ∧ Blk V w1.heap.size 0 0 0 0) ⟨G_1.out.alloc G_1.out.size _, M_1.out.alloc _, L_1.out.alloc _, N_1.out.alloc _, Blk.new w1 0 0 0 0 _⟩ ?_
  rintro w2 ⟨hG, hM, hL, hN, hZ⟩
  have G_2 : Hid (Below w.heap.size w w2) := hG
  have M_2 : Hid (Blk w2 w.heap.size m0 m1 m2 m3) := hM
  have L_2 : Hid (Bx12 w2 (w.heap.size + 1) x0 x1 x2 x3 y0 y1 y2 y3 z0 z1 z2 z3) := hL
  have N_2 : Hid (BxV w2 (w.heap.size + 1 + 1) (.int .u32 (u : Int)) (.int .u32 (v : Int))) := hN
  have Z_2 : Hid (Blk w2 w1.heap.size 0 0 0 0) := hZ
  clear hG hM hL hN hZ G_1 M_1 L_1 N_1
  have K : w2.drew.cell? ⟨w1.heap.size, 0, none⟩ = some (.int .u64 0) ∧ w2.drew.cell? ⟨w1.heap.size, 1, none⟩ = some (.int .u64 0) ∧ w2.drew.cell? ⟨w1.heap.size, 2, none⟩ = some (.int .u64 0) ∧ w2.drew.cell? ⟨w1.heap.size, 3, none⟩ = some (.int .u64 0) ∧ w2.drew.cell? ⟨w.heap.size + 1, 0, none⟩ = some (.int .u64 x0) ∧ w2.drew.cell? ⟨w.heap.size + 1, 1, none⟩ = some (.int .u64 x1) ∧ w2.drew.cell? ⟨w.heap.size + 1, 2, none⟩ = some (.int .u64 x2) ∧ w2.drew.cell? ⟨w.heap.size + 1, 3, none⟩ = some (.int .u64 x3) ∧ w2.drew.cell? ⟨w.heap.size + 1, 4, none⟩ = some (.int .u64 y0) ∧ w2.drew.cell? ⟨w.heap.size + 1, 5, none⟩ = some (.int .u64 y1) ∧ w2.drew.cell? ⟨w.heap.size + 1, 6, none⟩ = some (.int .u64 y2) ∧ w2.drew.cell? ⟨w.heap.size + 1, 7, none⟩ = some (.int .u64 y3) := ⟨Z_2.out.drew.c0, Z_2.out.drew.c1, Z_2.out.drew.c2, Z_2.out.drew.c3, L_2.out.drew.c0, L_2.out.drew.c1, L_2.out.drew.c2, L_2.out.drew.c3, L_2.out.drew.c4, L_2.out.drew.c5, L_2.out.drew.c6, L_2.out.drew.c7⟩
  have D_2 : Hid (Below w2.heap.size w2 w2.drew) := (Below.refl _ _).drew
  go_wp2_with fail
  go_region_held3 (fun w' => w'.cell? ⟨w1.heap.size, 0, none⟩ = some (.int .u64 0) ∧ w'.cell? ⟨w1.heap.size, 1, none⟩ = some (.int .u64 0) ∧ w'.cell? ⟨w1.heap.size, 2, none⟩ = some (.int .u64 0) ∧ w'.cell? ⟨w1.heap.size, 3, none⟩ = some (.int .u64 0) ∧ w'.cell? ⟨w.heap.size + 1, 0, none⟩ = some (.int .u64 x0) ∧ w'.cell? ⟨w.heap.size + 1, 1, none⟩ = some (.int .u64 x1) ∧ w'.cell? ⟨w.heap.size + 1, 2, none⟩ = some (.int .u64 x2) ∧ w'.cell? ⟨w.heap.size + 1, 3, none⟩ = some (.int .u64 x3) ∧ w'.cell? ⟨w.heap.size + 1, 4, none⟩ = some (.int .u64 y0) ∧ w'.cell? ⟨w.heap.size + 1, 5, none⟩ = some (.int .u64 y1) ∧ w'.cell? ⟨w.heap.size + 1, 6, none⟩ = some (.int .u64 y2) ∧ w'.cell? ⟨w.heap.size + 1, 7, none⟩ = some (.int .u64 y3)) (assumption)
    (first
      | (go_at_call 15; have gg := G_7; clear gg; (refine (N6.out _).mono ?_); (rintro e w8 ⟨rfl, g8⟩; have M_8 : Hid (Blk w8 w.heap.size m0 m1 m2 m3) := M_7.out.below g8; have L_8 : Hid (Bx12 w8 (w.heap.size + 1) x0 x1 x2 x3 y0 y1 y2 y3 z0 z1 z2 z3) := L_7.out.below g8; have N_8 : Hid (BxV w8 (w.heap.size + 1 + 1) (.int .u32 (u : Int)) (.int .u32 (v : Int))) := N_7.out.below g8; have Z_8 : Hid (Blk w8 w1.heap.size 0 0 0 0) := Z_7.out.below g8; have G_8 : Hid (Below w.heap.size w w8) := G_7.out.trans (g8.mono G_7.out.size); clear M_7 L_7 N_7 Z_7 G_7 g8; clear K; have K : w8.cell? ⟨w1.heap.size, 0, none⟩ = some (.int .u64 0) ∧ w8.cell? ⟨w1.heap.size, 1, none⟩ = some (.int .u64 0) ∧ w8.cell? ⟨w1.heap.size, 2, none⟩ = some (.int .u64 0) ∧ w8.cell? ⟨w1.heap.size, 3, none⟩ = some (.int .u64 0) ∧ w8.cell? ⟨w.heap.size + 1, 0, none⟩ = some (.int .u64 x0) ∧ w8.cell? ⟨w.heap.size + 1, 1, none⟩ = some (.int .u64 x1) ∧ w8.cell? ⟨w.heap.size + 1, 2, none⟩ = some (.int .u64 x2) ∧ w8.cell? ⟨w.heap.size + 1, 3, none⟩ = some (.int .u64 x3) ∧ w8.cell? ⟨w.heap.size + 1, 4, none⟩ = some (.int .u64 y0) ∧ w8.cell? ⟨w.heap.size + 1, 5, none⟩ = some (.int .u64 y1) ∧ w8.cell? ⟨w.heap.size + 1, 6, none⟩ = some (.int .u64 y2) ∧ w8.cell? ⟨w.heap.size + 1, 7, none⟩ = some (.int .u64 y3) := ⟨Z_8.out.c0, Z_8.out.c1, Z_8.out.c2, Z_8.out.c3, L_8.out.c0, L_8.out.c1, L_8.out.c2, L_8.out.c3, L_8.out.c4, L_8.out.c5, L_8.out.c6, L_8.out.c7⟩))
      | (go_at_call 29; have gg := G_6; clear gg; (refine (N5.out _).mono ?_); (rintro e w7 ⟨rfl, g7⟩; have M_7 : Hid (Blk w7 w.heap.size m0 m1 m2 m3) := M_6.out.below g7; have L_7 : Hid (Bx12 w7 (w.heap.size + 1) x0 x1 x2 x3 y0 y1 y2 y3 z0 z1 z2 z3) := L_6.out.below g7; have N_7 : Hid (BxV w7 (w.heap.size + 1 + 1) (.int .u32 (u : Int)) (.int .u32 (v : Int))) := N_6.out.below g7; have Z_7 : Hid (Blk w7 w1.heap.size 0 0 0 0) := Z_6.out.below g7; have G_7 : Hid (Below w.heap.size w w7) := G_6.out.trans (g7.mono G_6.out.size); clear M_6 L_6 N_6 Z_6 G_6 g7; clear K; have K : w7.cell? ⟨w1.heap.size, 0, none⟩ = some (.int .u64 0) ∧ w7.cell? ⟨w1.heap.size, 1, none⟩ = some (.int .u64 0) ∧ w7.cell? ⟨w1.heap.size, 2, none⟩ = some (.int .u64 0) ∧ w7.cell? ⟨w1.heap.size, 3, none⟩ = some (.int .u64 0) ∧ w7.cell? ⟨w.heap.size + 1, 0, none⟩ = some (.int .u64 x0) ∧ w7.cell? ⟨w.heap.size + 1, 1, none⟩ = some (.int .u64 x1) ∧ w7.cell? ⟨w.heap.size + 1, 2, none⟩ = some (.int .u64 x2) ∧ w7.cell? ⟨w.heap.size + 1, 3, none⟩ = some (.int .u64 x3) ∧ w7.cell? ⟨w.heap.size + 1, 4, none⟩ = some (.int .u64 y0) ∧ w7.cell? ⟨w.heap.size + 1, 5, none⟩ = some (.int .u64 y1) ∧ w7.cell? ⟨w.heap.size + 1, 6, none⟩ = some (.int .u64 y2) ∧ w7.cell? ⟨w.heap.size + 1, 7, none⟩ = some (.int .u64 y3) := ⟨Z_7.out.c0, Z_7.out.c1, Z_7.out.c2, Z_7.out.c3, L_7.out.c0, L_7.out.c1, L_7.out.c2, L_7.out.c3, L_7.out.c4, L_7.out.c5, L_7.out.c6, L_7.out.c7⟩))
      | (go_at_call 25; have gg := G_5; clear gg; (refine (N4.out _).mono ?_); (rintro e w6 ⟨rfl, g6⟩; have M_6 : Hid (Blk w6 w.heap.size m0 m1 m2 m3) := M_5.out.below g6; have L_6 : Hid (Bx12 w6 (w.heap.size + 1) x0 x1 x2 x3 y0 y1 y2 y3 z0 z1 z2 z3) := L_5.out.below g6; have N_6 : Hid (BxV w6 (w.heap.size + 1 + 1) (.int .u32 (u : Int)) (.int .u32 (v : Int))) := N_5.out.below g6; have Z_6 : Hid (Blk w6 w1.heap.size 0 0 0 0) := Z_5.out.below g6; have G_6 : Hid (Below w.heap.size w w6) := G_5.out.trans (g6.mono G_5.out.size); clear M_5 L_5 N_5 Z_5 G_5 g6; clear K; have K : w6.cell? ⟨w1.heap.size, 0, none⟩ = some (.int .u64 0) ∧ w6.cell? ⟨w1.heap.size, 1, none⟩ = some (.int .u64 0) ∧ w6.cell? ⟨w1.heap.size, 2, none⟩ = some (.int .u64 0) ∧ w6.cell? ⟨w1.heap.size, 3, none⟩ = some (.int .u64 0) ∧ w6.cell? ⟨w.heap.size + 1, 0, none⟩ = some (.int .u64 x0) ∧ w6.cell? ⟨w.heap.size + 1, 1, none⟩ = some (.int .u64 x1) ∧ w6.cell? ⟨w.heap.size + 1, 2, none⟩ = some (.int .u64 x2) ∧ w6.cell? ⟨w.heap.size + 1, 3, none⟩ = some (.int .u64 x3) ∧ w6.cell? ⟨w.heap.size + 1, 4, none⟩ = some (.int .u64 y0) ∧ w6.cell? ⟨w.heap.size + 1, 5, none⟩ = some (.int .u64 y1) ∧ w6.cell? ⟨w.heap.size + 1, 6, none⟩ = some (.int .u64 y2) ∧ w6.cell? ⟨w.heap.size + 1, 7, none⟩ = some (.int .u64 y3) := ⟨Z_6.out.c0, Z_6.out.c1, Z_6.out.c2, Z_6.out.c3, L_6.out.c0, L_6.out.c1, L_6.out.c2, L_6.out.c3, L_6.out.c4, L_6.out.c5, L_6.out.c6, L_6.out.c7⟩))
      | (go_at_call 18; have gg := G_4; clear gg; (refine (N3.out _).mono ?_); (rintro e w5 ⟨rfl, g5⟩; have M_5 : Hid (Blk w5 w.heap.size m0 m1 m2 m3) := M_4.out.below g5; have L_5 : Hid (Bx12 w5 (w.heap.size + 1) x0 x1 x2 x3 y0 y1 y2 y3 z0 z1 z2 z3) := L_4.out.below g5; have N_5 : Hid (BxV w5 (w.heap.size + 1 + 1) (.int .u32 (u : Int)) (.int .u32 (v : Int))) := N_4.out.below g5; have Z_5 : Hid (Blk w5 w1.heap.size 0 0 0 0) := Z_4.out.below g5; have G_5 : Hid (Below w.heap.size w w5) := G_4.out.trans (g5.mono G_4.out.size); clear M_4 L_4 N_4 Z_4 G_4 g5; clear K; have K : w5.cell? ⟨w1.heap.size, 0, none⟩ = some (.int .u64 0) ∧ w5.cell? ⟨w1.heap.size, 1, none⟩ = some (.int .u64 0) ∧ w5.cell? ⟨w1.heap.size, 2, none⟩ = some (.int .u64 0) ∧ w5.cell? ⟨w1.heap.size, 3, none⟩ = some (.int .u64 0) ∧ w5.cell? ⟨w.heap.size + 1, 0, none⟩ = some (.int .u64 x0) ∧ w5.cell? ⟨w.heap.size + 1, 1, none⟩ = some (.int .u64 x1) ∧ w5.cell? ⟨w.heap.size + 1, 2, none⟩ = some (.int .u64 x2) ∧ w5.cell? ⟨w.heap.size + 1, 3, none⟩ = some (.int .u64 x3) ∧ w5.cell? ⟨w.heap.size + 1, 4, none⟩ = some (.int .u64 y0) ∧ w5.cell? ⟨w.heap.size + 1, 5, none⟩ = some (.int .u64 y1) ∧ w5.cell? ⟨w.heap.size + 1, 6, none⟩ = some (.int .u64 y2) ∧ w5.cell? ⟨w.heap.size + 1, 7, none⟩ = some (.int .u64 y3) := ⟨Z_5.out.c0, Z_5.out.c1, Z_5.out.c2, Z_5.out.c3, L_5.out.c0, L_5.out.c1, L_5.out.c2, L_5.out.c3, L_5.out.c4, L_5.out.c5, L_5.out.c6, L_5.out.c7⟩))
      | (go_at_call 12; have gg := G_3; clear gg; (refine (N2.out _).mono ?_); (rintro e w4 ⟨rfl, g4⟩; have M_4 : Hid (Blk w4 w.heap.size m0 m1 m2 m3) := M_3.out.below g4; have L_4 : Hid (Bx12 w4 (w.heap.size + 1) x0 x1 x2 x3 y0 y1 y2 y3 z0 z1 z2 z3) := L_3.out.below g4; have N_4 : Hid (BxV w4 (w.heap.size + 1 + 1) (.int .u32 (u : Int)) (.int .u32 (v : Int))) := N_3.out.below g4; have Z_4 : Hid (Blk w4 w1.heap.size 0 0 0 0) := Z_3.out.below g4; have G_4 : Hid (Below w.heap.size w w4) := G_3.out.trans (g4.mono G_3.out.size); clear M_3 L_3 N_3 Z_3 G_3 g4; clear K; have K : w4.cell? ⟨w1.heap.size, 0, none⟩ = some (.int .u64 0) ∧ w4.cell? ⟨w1.heap.size, 1, none⟩ = some (.int .u64 0) ∧ w4.cell? ⟨w1.heap.size, 2, none⟩ = some (.int .u64 0) ∧ w4.cell? ⟨w1.heap.size, 3, none⟩ = some (.int .u64 0) ∧ w4.cell? ⟨w.heap.size + 1, 0, none⟩ = some (.int .u64 x0) ∧ w4.cell? ⟨w.heap.size + 1, 1, none⟩ = some (.int .u64 x1) ∧ w4.cell? ⟨w.heap.size + 1, 2, none⟩ = some (.int .u64 x2) ∧ w4.cell? ⟨w.heap.size + 1, 3, none⟩ = some (.int .u64 x3) ∧ w4.cell? ⟨w.heap.size + 1, 4, none⟩ = some (.int .u64 y0) ∧ w4.cell? ⟨w.heap.size + 1, 5, none⟩ = some (.int .u64 y1) ∧ w4.cell? ⟨w.heap.size + 1, 6, none⟩ = some (.int .u64 y2) ∧ w4.cell? ⟨w.heap.size + 1, 7, none⟩ = some (.int .u64 y3) := ⟨Z_4.out.c0, Z_4.out.c1, Z_4.out.c2, Z_4.out.c3, L_4.out.c0, L_4.out.c1, L_4.out.c2, L_4.out.c3, L_4.out.c4, L_4.out.c5, L_4.out.c6, L_4.out.c7⟩))
      | (go_at_call 11; have gg := G_2; clear gg; (refine (N1.out _).mono ?_); (rintro e w3 ⟨rfl, g3⟩; have M_3 : Hid (Blk w3 w.heap.size m0 m1 m2 m3) := (M_2.out.below D_2.out).below g3; have L_3 : Hid (Bx12 w3 (w.heap.size + 1) x0 x1 x2 x3 y0 y1 y2 y3 z0 z1 z2 z3) := (L_2.out.below D_2.out).below g3; have N_3 : Hid (BxV w3 (w.heap.size + 1 + 1) (.int .u32 (u : Int)) (.int .u32 (v : Int))) := (N_2.out.below D_2.out).below g3; have Z_3 : Hid (Blk w3 w1.heap.size 0 0 0 0) := (Z_2.out.below D_2.out).below g3; have G_3 : Hid (Below w.heap.size w w3) := (G_2.out.trans (D_2.out.mono G_2.out.size)).trans (g3.mono G_2.out.size); clear M_2 L_2 N_2 Z_2 G_2 g3 D_2; clear K; have K : w3.cell? ⟨w1.heap.size, 0, none⟩ = some (.int .u64 0) ∧ w3.cell? ⟨w1.heap.size, 1, none⟩ = some (.int .u64 0) ∧ w3.cell? ⟨w1.heap.size, 2, none⟩ = some (.int .u64 0) ∧ w3.cell? ⟨w1.heap.size, 3, none⟩ = some (.int .u64 0) ∧ w3.cell? ⟨w.heap.size + 1, 0, none⟩ = some (.int .u64 x0) ∧ w3.cell? ⟨w.heap.size + 1, 1, none⟩ = some (.int .u64 x1) ∧ w3.cell? ⟨w.heap.size + 1, 2, none⟩ = some (.int .u64 x2) ∧ w3.cell? ⟨w.heap.size + 1, 3, none⟩ = some (.int .u64 x3) ∧ w3.cell? ⟨w.heap.size + 1, 4, none⟩ = some (.int .u64 y0) ∧ w3.cell? ⟨w.heap.size + 1, 5, none⟩ = some (.int .u64 y1) ∧ w3.cell? ⟨w.heap.size + 1, 6, none⟩ = some (.int .u64 y2) ∧ w3.cell? ⟨w.heap.size + 1, 7, none⟩ = some (.int .u64 y3) := ⟨Z_3.out.c0, Z_3.out.c1, Z_3.out.c2, Z_3.out.c3, L_3.out.c0, L_3.out.c1, L_3.out.c2, L_3.out.c3, L_3.out.c4, L_3.out.c5, L_3.out.c6, L_3.out.c7⟩)))
  clear K
  obtain ⟨ce0, ce1, ce2, ce3, ce4, ce5⟩ := M_8.out
  go_wp2_with fail
  refine (CN _).mono ?_
  rintro e w9 ⟨rfl, g9⟩
  have M_9 : Hid (Blk w9 w.heap.size m0 m1 m2 m3) := M_8.out.below g9
  have L_9 : Hid (Bx12 w9 (w.heap.size + 1) x0 x1 x2 x3 y0 y1 y2 y3 z0 z1 z2 z3) := L_8.out.below g9
  have N_9 : Hid (BxV w9 (w.heap.size + 1 + 1) (.int .u32 (u : Int)) (.int .u32 (v : Int))) := N_8.out.below g9
  have Z_9 : Hid (Blk w9 w1.heap.size 0 0 0 0) := Z_8.out.below g9
  have G_9 : Hid (Below w.heap.size w w9) := G_8.out.trans (g9.mono G_8.out.size)
  clear M_8 L_8 N_8 Z_8 G_8 g9
  clear ce0 ce1 ce2 ce3 ce4 ce5
  obtain ⟨ce0, ce1, ce2, ce3, ce4, ce5⟩ := M_9.out
  go_wp2_with fail
  refine (CO _).mono ?_
  rintro e w10 ⟨rfl, g10⟩
  have M_10 : Hid (Blk w10 w.heap.size m0 m1 m2 m3) := M_9.out.below g10
  have L_10 : Hid (Bx12 w10 (w.heap.size + 1) x0 x1 x2 x3 y0 y1 y2 y3 z0 z1 z2 z3) := L_9.out.below g10
  have N_10 : Hid (BxV w10 (w.heap.size + 1 + 1) (.int .u32 (u : Int)) (.int .u32 (v : Int))) := N_9.out.below g10
  have Z_10 : Hid (Blk w10 w1.heap.size 0 0 0 0) := Z_9.out.below g10
  have G_10 : Hid (Below w.heap.size w w10) := G_9.out.trans (g10.mono G_9.out.size)
  clear M_9 L_9 N_9 Z_9 G_9 g10
  clear ce0 ce1 ce2 ce3 ce4 ce5
  go_wp2_with fail
  go_ret
  exact ⟨rfl, G_10.out⟩

end Go.Proofs.Ytkaekgjpjnnjpaa
