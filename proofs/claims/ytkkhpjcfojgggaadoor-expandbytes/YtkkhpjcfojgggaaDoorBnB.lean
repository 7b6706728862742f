/-
  The contract of the document's own block: the words behind one block more. Conditions: as the theorem says.
-/
import Derived.Test.YtkkhpjcfojgggaaDoorBnA
import Derived.Deep.RegionHeld3
import Derived.Deep.RegionLaw
namespace Go.Proofs.YtkkhpjcfojgggaaDoor.Br
open Go.RowKit
set_option linter.unusedVariables false
set_option linter.unusedSimpArgs false

/-- Block b holds these words. -/
structure Rwk (W : World) (b : Nat) (l : List Nat) : Prop where
  lt : b < W.heap.size
  at' : ∀ j, j < l.length → W.cell? ⟨b, j, none⟩ = some (.int .u64 (l.getD j 0 : Int))
theorem Rwk.under {n : Nat} {W W' : World} {b : Nat} {l : List Nat} (h : Rwk W b l) (hb : Below n W W') (hn : b < n) : Rwk W' b l :=
  ⟨Nat.lt_of_lt_of_le h.lt hb.size, fun j hj => (hb.cell (p := ⟨b, j, none⟩) hn).trans (h.at' j hj)⟩
theorem Rwk.below {W W' : World} {b : Nat} {l : List Nat} (h : Rwk W b l) (hb : Below W.heap.size W W') : Rwk W' b l := h.under hb h.lt
theorem Rwk.new (W : World) (l : List Nat) (t : TypeId) : Rwk (W.alloc (.cells (uv l).toArray t)) W.heap.size l := by
  have h := at_new t W (uv l)
  exact ⟨h.lt, fun j hj => by rw [h.cell j, uv_get _ _ hj]⟩
theorem sk_new64 (W : World) (l : List Nat) (cs : Array Value) (h : cs = (uv l).toArray) (n : Nat) (hn : l.length = n) : SK .u64 (W.alloc (.cells cs 45)) (.slice (some ⟨W.heap.size, 0, none⟩) n n) l := by
  subst hn
  exact (Row.newA (k := .u64) W cs l 45 h).sk

theorem w64_4 (a b c d : Nat) : IntKind.u64.wrap (IntKind.u64.wrap (IntKind.u64.wrap ((a : Int) + (b : Int)) + (c : Int)) + (d : Int)) = (((d + c + b + a) % 18446744073709551616 : Nat) : Int) := by
  simp [IntKind.wrap, IntKind.bits, IntKind.signed]; omega
theorem step_cells (a0 a1 a2 a3 a4 a5 a6 a7 k x z1 c1 z2 m1 o4 t1 u1 v1 : Nat) (E1 : bs1 a4 = z1) (E2 : bs0 a0 = z2) (E3 : cho a4 a5 a6 = c1) (E4 : maj a0 a1 a2 = m1)
    (h1 : (a7 + z1 + c1 + k + x) % 18446744073709551616 = o4) (h2 : (z2 + m1) % 18446744073709551616 = t1) (h3 : (o4 + t1) % 18446744073709551616 = u1) (h4 : (a3 + o4) % 18446744073709551616 = v1) :
    #[Value.int .u64 (u1 : Int), .int .u64 (a0 : Int), .int .u64 (a1 : Int), .int .u64 (a2 : Int), .int .u64 (v1 : Int), .int .u64 (a4 : Int), .int .u64 (a5 : Int), .int .u64 (a6 : Int)] = (uv ((⟨a0, a1, a2, a3, a4, a5, a6, a7⟩ : S8).step k x).list).toArray := by
  unfold S8.step S8.one S8.two S8.list uv
  dsimp only
  rw [E1, E2, E3, E4, h1, h2, h3, h4]
  rfl
set_option maxRecDepth 100000 in
set_option maxHeartbeats 8000000 in
theorem block_any (s : S8) (hs : s.ok) (l : List Nat) (hl : l.length = 128) (hb : Bb l) (vh vb : Value) (w : World) (hh : SK .u64 w vh s.list) (ha : SK .u8 w vb l) :
    Calls Tryd.prog 31 #[vh, vb] w fun e w' => ∃ v, e = .returned v ∧ SK .u64 w' v (tk s l).list ∧ Below w.heap.size w w' := by
  have kC : Hid (∀ w : World, Calls Tryd.prog 36 #[] w fun e w' => e = .returned (.slice (some ⟨w.heap.size, 0, none⟩) 80 80) ∧ w' = w.alloc (.cells (uv kk).toArray 45)) := constants_any
  have HHs : Hid (SK .u64 w vh s.list) := hh
  obtain ⟨hB, hO, hC, rfl, hBl, hC8, hcells⟩ := hh.words (S8.list_length s) (by omega)
  obtain ⟨ba, bc, e⟩ := ha.shape
  rw [hl] at e
  subst e
  obtain ⟨bB, bO, rfl, bBl, bC, bcells⟩ := ha.at (by omega)
  have HC : Hid (∀ j, j < 8 → w.cell? ⟨hB, hO + j, none⟩ = some (.int .u64 (s.list.getD j 0 : Int))) := hcells
  have BC : Hid (∀ j, j < 128 → w.cell? ⟨bB, bO + j, none⟩ = some (.int .u8 (l.getD j 0 : Int))) := bcells
  have HBb : Hid (Bb l) := hb
  have HS : Hid s.ok := hs
  clear hh ha hcells bcells hb hs
  go_enter Tryd.func31, Tryd.ntmps31
  go_wp2_with fail
  refine (kC.out _).mono ?_
  rintro e W1 ⟨rfl, hW1⟩
  have K1 : Hid (Rwk W1 w.heap.size kk) := by unfold Hid; rw [hW1]; exact Rwk.new w kk _
  have B1 : Hid (Below w.heap.size w W1) := by unfold Hid; rw [hW1]; exact (Below.refl _ _).alloc (Nat.le_refl _) _
  obtain ⟨bk, hbk⟩ : ∃ b, Hid (w.heap.size = b) := ⟨_, rfl⟩
  obtain ⟨base, hbase⟩ : ∃ b, Hid (W1.heap.size = b) := ⟨_, rfl⟩
  have hkb : Hid (bk < base) := by unfold Hid; rw [← hbk.out, ← hbase.out]; exact K1.out.lt
  have hwb : Hid (w.heap.size ≤ base) := by unfold Hid; rw [← hbase.out]; exact B1.out.size
  have S1 : Hid (base ≤ W1.heap.size) := by unfold Hid; rw [hbase.out]; exact Nat.le_refl _
  have hbkw : Hid (.slice (some ⟨w.heap.size, 0, none⟩) 80 80 = Value.slice (some ⟨bk, 0, none⟩) 80 80) := by unfold Hid; rw [hbk.out]
  rw [hbkw.out]
  rw [hbk.out] at K1
  clear hW1 kC hbkw
  go_wp2_with fail
  go_loopw [6, 7] (fun u y W => ∃ i : Nat, i ≤ 16 ∧ y = .int .i64 i ∧ OwnW base W u (ws l i) ∧ Rwk W bk kk ∧ Below w.heap.size w W ∧ base ≤ W.heap.size) (fun _ y _ => 16 - (intOf y).toNat)
  case atStart => exact ⟨0, by omega, rfl, OwnW.nil _ _, K1.out, B1.out, S1.out⟩
  case round =>
    clear K1 B1 S1
    obtain ⟨i, hi, rfl, hown, hK, hB', hS⟩ := hrel
    have OW : Hid (OwnW base wr u6 (ws l i)) := hown
    have KW : Hid (Rwk wr bk kk) := hK
    have BW : Hid (Below w.heap.size w wr) := hB'
    have SW : Hid (base ≤ wr.heap.size) := hS
    clear hown hK hB' hS
    by_cases hlt : i < 16
    · have hlt' : (i : Int) < 16 := by omega
      go_wp2_with fail
      go_loopw [8, 9] (fun x y W => ∃ j : Nat, j ≤ 8 ∧ x = .int .u64 (px l i j : Int) ∧ y = .int .i64 j ∧ W = wr) (fun _ y _ => 8 - (intOf y).toNat)
      case atStart => exact ⟨0, by omega, rfl, rfl, rfl⟩
      case round =>
        rename World => wi
        obtain ⟨j, hj, rfl, rfl, hwi⟩ := hrel
        rw [hwi]
        clear hwi wi
        by_cases hltj : j < 8
        · have hltj' : (j : Int) < 8 := by omega
          have c0 := (BW.out.cell (p := ⟨bB, bO + (8 * i + j), none⟩) bBl).trans (BC.out (8 * i + j) (by omega))
          have q1 := px_lt l HBb.out i j
          have q2 := HBb.out (8 * i + j)
          have q3 : Hid (px l i (j + 1) = px l i j * 256 + l.getD (8 * i + j) 0) := rfl
          have q4 : px l i j < 72057594037927936 := by
            have : 256 ^ j ≤ 256 ^ 7 := Nat.pow_le_pow_right (by omega) (by omega)
            omega
          clear q1
          obtain ⟨x, hx⟩ : ∃ x, px l i j = x := ⟨_, rfl⟩
          obtain ⟨y, hy⟩ : ∃ y, l.getD (8 * i + j) 0 = y := ⟨_, rfl⟩
          rw [hx] at q3 q4 ⊢
          rw [hy] at c0 q2 q3
          have q4' : (x : Int) < 72057594037927936 := by omega
          have q2' : (y : Int) < 256 := by omega
          clear hx hy
          go_wp2_with fail
          go_roundw
          case rel => exact ⟨j + 1, by omega, by rw [q3.out]; go_num, by go_num, trivial⟩
          case measure => simp [intOf] <;> omega
        · obtain rfl : j = 8 := by omega
          rw [px_eight]
          have hln : Hid ((ws l i).length ≤ 1000000) := by unfold Hid; rw [ws_length]; omega
          have hstep : Hid (ws l (i + 1) = ws l i ++ [w8 l i]) := by unfold Hid; rw [show ws l (i + 1) = ws l i ++ [_] from rfl, if_pos hlt]
          obtain ⟨x, hx⟩ : ∃ x, w8 l i = x := ⟨_, rfl⟩
          rw [hx] at hstep ⊢
          go_wp2_with (at_builtin; refine wpList_app64 rfl _ _ rfl base u6 (ws l i) x _ rfl rfl OW.out rfl hln.out SW.out ?_; intro v' V1 hown' hb')
          go_roundw
          case rel => exact ⟨i + 1, by omega, by go_num, by rw [hstep.out]; exact hown', KW.out.under hb' hkb.out, BW.out.trans (hb'.mono hwb.out), Nat.le_trans SW.out hb'.size⟩
          case measure => simp [intOf] <;> omega
    · obtain rfl : i = 16 := by omega
      rw [show ((16 : Nat) : Int) = 16 from rfl]
      go_wp2_with fail
      go_loopw [6, 10] (fun u y W => ∃ t : Nat, 16 ≤ t ∧ t ≤ 80 ∧ y = .int .i64 t ∧ OwnW base W u (ws l t) ∧ Rwk W bk kk ∧ Below w.heap.size w W ∧ base ≤ W.heap.size) (fun _ y _ => 80 - (intOf y).toNat)
      case atStart => exact ⟨16, by omega, by omega, rfl, OW.out, KW.out, BW.out, SW.out⟩
      case round =>
      rename World => wr3
      clear OW KW BW SW
      obtain ⟨t, ht16, ht, rfl, hown, hK, hB', hS⟩ := hrel
      have O_wr3 : Hid (OwnW base wr3 u6 (ws l t)) := hown
      have K_wr3 : Hid (Rwk wr3 bk kk) := hK
      have B_wr3 : Hid (Below w.heap.size w wr3) := hB'
      have S_wr3 : Hid (base ≤ wr3.heap.size) := hS
      clear hown hK hB' hS
      obtain ⟨wB, wO, wC, rfl, wBl, wCt, wcells⟩ := O_wr3.out.sk.words (ws_length l t) (by omega)
      by_cases hlt : t < 80
      · have hlt' : (t : Int) < 80 := by omega
        obtain ⟨i16, j16⟩ : ∃ i : Nat, (t : Int) - 16 = (i : Int) := ⟨t - 16, by omega⟩
        obtain ⟨i15, j15⟩ : ∃ i : Nat, (t : Int) - 15 = (i : Int) := ⟨t - 15, by omega⟩
        obtain ⟨i7, j7⟩ : ∃ i : Nat, (t : Int) - 7 = (i : Int) := ⟨t - 7, by omega⟩
        obtain ⟨i2, j2⟩ : ∃ i : Nat, (t : Int) - 2 = (i : Int) := ⟨t - 2, by omega⟩
        have b16 : (i16 : Int) < t := by omega
        have b15 : (i15 : Int) < t := by omega
        have b7 : (i7 : Int) < t := by omega
        have b2 : (i2 : Int) < t := by omega
        have Ls : ws l (t + 1) = ws l t ++ [((ws l t).getD (t - 16) 0 + sg0 ((ws l t).getD (t - 15) 0) + (ws l t).getD (t - 7) 0 + sg1 ((ws l t).getD (t - 2) 0)) % 18446744073709551616] := by
          rw [show ws l (t + 1) = ws l t ++ [_] from rfl, if_neg (by omega)]
        rw [show t - 16 = i16 by omega, show t - 15 = i15 by omega, show t - 7 = i7 by omega, show t - 2 = i2 by omega] at Ls
        have l16 := ws_lt l HBb.out t i16
        have l15 := ws_lt l HBb.out t i15
        have l7 := ws_lt l HBb.out t i7
        have l2 := ws_lt l HBb.out t i2
        have WC : Hid (∀ j, j < t → wr3.cell? ⟨wB, wO + j, none⟩ = some (.int .u64 ((ws l t).getD j 0 : Int))) := wcells
        have c15 := cells_ext wBl wcells i15 (by omega)
        obtain ⟨x16, hx16⟩ : ∃ x, Hid ((ws l t).getD i16 0 = x) := ⟨_, rfl⟩
        obtain ⟨x15, hx15⟩ : ∃ x, Hid ((ws l t).getD i15 0 = x) := ⟨_, rfl⟩
        obtain ⟨x7, hx7⟩ : ∃ x, Hid ((ws l t).getD i7 0 = x) := ⟨_, rfl⟩
        obtain ⟨x2, hx2⟩ : ∃ x, Hid ((ws l t).getD i2 0 = x) := ⟨_, rfl⟩
        rw [hx16.out] at l16 Ls
        rw [hx15.out] at l15 Ls c15
        rw [hx7.out] at l7 Ls
        rw [hx2.out] at l2 Ls
        have T1 : Hid (∀ W, Calls Tryd.prog 37 #[.int .u64 (x15 : Int), .int .i64 1] W fun e w' => e = .returned (.int .u64 (rotr x15 1 : Int)) ∧ Below W.heap.size W w') := turn_below x15 1 l15 (by omega) (by omega)
        have T2 : Hid (∀ W, Calls Tryd.prog 37 #[.int .u64 (x15 : Int), .int .i64 8] W fun e w' => e = .returned (.int .u64 (rotr x15 8 : Int)) ∧ Below W.heap.size W w') := turn_below x15 8 l15 (by omega) (by omega)
        have T3 : Hid (∀ W, Calls Tryd.prog 37 #[.int .u64 (x2 : Int), .int .i64 19] W fun e w' => e = .returned (.int .u64 (rotr x2 19 : Int)) ∧ Below W.heap.size W w') := turn_below x2 19 l2 (by omega) (by omega)
        have T4 : Hid (∀ W, Calls Tryd.prog 37 #[.int .u64 (x2 : Int), .int .i64 61] W fun e w' => e = .returned (.int .u64 (rotr x2 61 : Int)) ∧ Below W.heap.size W w') := turn_below x2 61 l2 (by omega) (by omega)
        have X1 := u64_xor_nat (rotr x15 1) (rotr x15 8) (rotr_lt _ l15) (rotr_lt _ l15)
        have X2 := u64_xor_nat (rotr x15 1 ^^^ rotr x15 8) (x15 / 128) (xor64 (rotr_lt _ l15) (rotr_lt _ l15)) (div64 l15 _)
        have X3 := u64_xor_nat (rotr x2 19) (rotr x2 61) (rotr_lt _ l2) (rotr_lt _ l2)
        have X4 := u64_xor_nat (rotr x2 19 ^^^ rotr x2 61) (x2 / 64) (xor64 (rotr_lt _ l2) (rotr_lt _ l2)) (div64 l2 _)
        have e8 : ((x15 / 128 : Nat) : Int) = (x15 : Int) / 128 := by simp
        have e10 : ((x2 / 64 : Nat) : Int) = (x2 : Int) / 64 := by simp
        rw [e8] at X2
        rw [e10] at X4
        have s1 := sg0_lt l15
        have s2 := sg1_lt l2
        rw [show rotr x15 1 ^^^ rotr x15 8 ^^^ x15 / 128 = sg0 x15 from rfl] at X2
        rw [show rotr x2 19 ^^^ rotr x2 61 ^^^ x2 / 64 = sg1 x2 from rfl] at X4
        obtain ⟨r1, hr1⟩ : ∃ x, rotr x15 1 = x := ⟨_, rfl⟩
        obtain ⟨r2, hr2⟩ : ∃ x, rotr x15 8 = x := ⟨_, rfl⟩
        obtain ⟨r3, hr3⟩ : ∃ x, rotr x2 19 = x := ⟨_, rfl⟩
        obtain ⟨r4, hr4⟩ : ∃ x, rotr x2 61 = x := ⟨_, rfl⟩
        rw [hr1] at T1 X1 X2; rw [hr2] at T2 X1 X2; rw [hr3] at T3 X3 X4; rw [hr4] at T4 X3 X4
        obtain ⟨y1, hy1⟩ : ∃ x, r1 ^^^ r2 = x := ⟨_, rfl⟩
        obtain ⟨y2, hy2⟩ : ∃ x, r3 ^^^ r4 = x := ⟨_, rfl⟩
        obtain ⟨z1, hz1⟩ : ∃ x, sg0 x15 = x := ⟨_, rfl⟩
        obtain ⟨z2, hz2⟩ : ∃ x, sg1 x2 = x := ⟨_, rfl⟩
        rw [hy1] at X1 X2; rw [hy2] at X3 X4; rw [hz1] at X2 Ls s1; rw [hz2] at X4 Ls s2
        clear hr1 hr2 hr3 hr4 hy1 hy2 hz1 hz2 e8 e10
        have s1' : (z1 : Int) < 18446744073709551616 := by omega
        have s2' : (z2 : Int) < 18446744073709551616 := by omega
        have l16' : (x16 : Int) < 18446744073709551616 := by omega
        have l7' : (x7 : Int) < 18446744073709551616 := by omega
        have LS : Hid (ws l (t + 1) = ws l t ++ [(x16 + z1 + x7 + z2) % 18446744073709551616]) := Ls
        clear Ls wcells
        go_wp2_with fail
        refine wp_region_ext (by kernel_rfl) (by kernel_rfl) ?_
        repeat (go_big_quiet_step ((first
          | with_reducible exact calls_ext (T1.out _)
          | with_reducible exact calls_ext (T2.out _)
          | fail)))
        refine wpQuiet_nil ?_
        intro Vv hw
        obtain ⟨m, rfl⟩ := hw
        have g := ext_below wr3 m
        obtain ⟨V1, hVv⟩ : ∃ V, ext wr3 m = V := ⟨_, rfl⟩
        rw [hVv] at g ⊢
        clear hVv c15
        have K_V1 : Hid (Rwk V1 bk kk) := K_wr3.out.below g
        have B_V1 : Hid (Below w.heap.size w V1) := B_wr3.out.trans (g.mono B_wr3.out.size)
        have S_V1 : Hid (base ≤ V1.heap.size) := Nat.le_trans S_wr3.out g.size
        have O_V1 : Hid (OwnW base V1 (.slice (some ⟨wB, wO, none⟩) t wC) (ws l t)) := O_wr3.out.grown g
        clear g
        go_wp2_with fail
        have WL1 : Hid (wB < V1.heap.size) := O_V1.out.sk.blk (ws_length l t) (by omega)
        have WC1 := O_V1.out.sk.cells (ws_length l t) (by omega)
        have c2 := cells_ext WL1.out WC1 i2 (by omega)
        rw [hx2.out] at c2
        clear WC1
        refine wp_region_ext (by kernel_rfl) (by kernel_rfl) ?_
        repeat (go_big_quiet_step ((first
          | with_reducible exact calls_ext (T3.out _)
          | with_reducible exact calls_ext (T4.out _)
          | fail)))
        refine wpQuiet_nil ?_
        intro Vv hw
        obtain ⟨m, rfl⟩ := hw
        have g := ext_below V1 m
        obtain ⟨V2, hVv⟩ : ∃ V, ext V1 m = V := ⟨_, rfl⟩
        rw [hVv] at g ⊢
        clear hVv c2
        have K_V2 : Hid (Rwk V2 bk kk) := K_V1.out.below g
        have B_V2 : Hid (Below w.heap.size w V2) := B_V1.out.trans (g.mono B_V1.out.size)
        have S_V2 : Hid (base ≤ V2.heap.size) := Nat.le_trans S_V1.out g.size
        have O_V2 : Hid (OwnW base V2 (.slice (some ⟨wB, wO, none⟩) t wC) (ws l t)) := O_V1.out.grown g
        clear g
        go_wp2_with fail
        have WC2 := O_V2.out.sk.cells (ws_length l t) (by omega)
        have c7 := WC2 i7 (by omega)
        have c16 := WC2 i16 (by omega)
        rw [hx7.out] at c7
        rw [hx16.out] at c16
        clear WC2 T1 T2 T3 T4 X1 X2 X3 X4
        have hln : Hid ((ws l t).length ≤ 1000000) := by unfold Hid; rw [ws_length]; omega
        have m7 : IntKind.i64.wrap (i7 : Int) = i7 := wrapI _ (by omega) (by omega)
        have m16 : IntKind.i64.wrap (i16 : Int) = i16 := wrapI _ (by omega) (by omega)
        go_region_law (refine step_app64 (by rfl) _ _ (by rfl) base _ (ws l t) ((x16 + z1 + x7 + z2) % 18446744073709551616) _ (w64_4 z2 x7 z1 x16) (by rfl) O_V2.out (by rfl) hln.out S_V2.out ?_; intro v' V3 hown' hb')
        all_goals
          have OV3 : Hid (OwnW base V3 v' (ws l (t + 1))) := by rw [LS.out]; exact hown'
          have BV3 : Hid (Below base V2 V3) := hb'
          clear hown' hb'
          go_wp2_with fail
          go_roundw
          case rel => exact ⟨t + 1, by omega, by omega, by go_num, OV3.out, K_V2.out.under BV3.out hkb.out, B_V2.out.trans (BV3.out.mono hwb.out), Nat.le_trans S_V2.out BV3.out.size⟩
          case measure => simp [intOf] <;> omega
      · obtain rfl : t = 80 := by omega
        rw [show ((80 : Nat) : Int) = 80 from rfl]
        clear wcells
        have HHr : Hid (SK .u64 wr3 (.slice (some ⟨hB, hO, none⟩) 8 hC) s.list) := HHs.out.below B_wr3.out
        have Q_wr3 : Hid (SK .u64 wr3 (.slice (some ⟨wB, wO, none⟩) 80 wC) (ws l 80)) := O_wr3.out.sk
        go_wp2_with (at_builtin; refine wpList_app64S rfl _ _ rfl wr3.heap.size (.slice none 0 0) [] s.list (.slice (some ⟨hB, hO, none⟩) 8 hC) rfl (OwnW.nil _ _) rfl HHr.out (by simp) (by rw [S8.list_length]; omega) (Nat.le_refl _) ?_; intro v0 V0 hown0 g)
        have R_V0 : Hid (SK .u64 V0 v0 s.list) := by have := hown0.sk; rw [List.nil_append] at this; exact this
        have K_V0 : Hid (Rwk V0 bk kk) := K_wr3.out.below g
        have B_V0 : Hid (Below w.heap.size w V0) := B_wr3.out.trans (g.mono B_wr3.out.size)
        have Q_V0 : Hid (SK .u64 V0 (.slice (some ⟨wB, wO, none⟩) 80 wC) (ws l 80)) := Q_wr3.out.below g
        clear hown0 g HHr K_wr3 B_wr3 S_wr3 Q_wr3 O_wr3 wBl
        go_loopw [13, 14] (fun u y W => ∃ t : Nat, t ≤ 80 ∧ y = .int .i64 t ∧ SK .u64 W u (rnd l s t).list ∧ Rwk W bk kk ∧ Below w.heap.size w W ∧ SK .u64 W (.slice (some ⟨wB, wO, none⟩) 80 wC) (ws l 80)) (fun _ y _ => 80 - (intOf y).toNat)
        case atStart => exact ⟨0, by omega, rfl, R_V0.out, K_V0.out, B_V0.out, Q_V0.out⟩
        case round =>
          rename World => wr4
          clear R_V0 K_V0 B_V0 Q_V0
          obtain ⟨t, ht, rfl, hR, hK, hB', hQ⟩ := hrel
          have R_wr4 : Hid (SK .u64 wr4 u13 (rnd l s t).list) := hR
          have K_wr4 : Hid (Rwk wr4 bk kk) := hK
          have B_wr4 : Hid (Below w.heap.size w wr4) := hB'
          have Q_wr4 : Hid (SK .u64 wr4 (.slice (some ⟨wB, wO, none⟩) 80 wC) (ws l 80)) := hQ
          clear hR hK hB' hQ
          obtain ⟨r, hr⟩ : ∃ r, Hid (rnd l s t = r) := ⟨_, rfl⟩
          rw [hr.out] at R_wr4
          have hok := rnd_ok l s HS.out t
          rw [hr.out] at hok
          obtain ⟨vB, vO, vC, rfl, vBl, vC8, vcells⟩ := R_wr4.out.words (S8.list_length r) (by omega)
          clear vcells
          by_cases hlt : t < 80
          · have hlt' : (t : Int) < 80 := by omega
            obtain ⟨k, hkk⟩ : ∃ k, Hid (kk.getD t 0 = k) := ⟨_, rfl⟩
            have hk1 := kk_lt t
            rw [hkk.out] at hk1
            obtain ⟨x, hx⟩ : ∃ x, Hid ((ws l 80).getD t 0 = x) := ⟨_, rfl⟩
            have hx1 := ws_lt l HBb.out 80 t
            rw [hx.out] at hx1
            have RR : Hid (rnd l s (t + 1) = r.step k x) := by unfold Hid; rw [rnd, hr.out, hkk.out, hx.out]
            obtain ⟨a0, a1, a2, a3, a4, a5, a6, a7⟩ := r
            obtain ⟨q0, q1, q2, q3, q4, q5, q6, q7⟩ := hok
            dsimp only at q0 q1 q2 q3 q4 q5 q6 q7
            obtain ⟨r1, hr1⟩ : ∃ r, Hid (rotr a4 14 = r) := ⟨_, rfl⟩
            have T1 : Hid (∀ W, Calls Tryd.prog 37 #[.int .u64 (a4 : Int), .int .i64 14] W fun e w' => e = .returned (.int .u64 (r1 : Int)) ∧ Below W.heap.size W w') := by rw [← hr1.out]; exact turn_below a4 14 q4 (by omega) (by omega)
            have lr1 : r1 < 18446744073709551616 := by rw [← hr1.out]; exact rotr_lt _ q4
            obtain ⟨r2, hr2⟩ : ∃ r, Hid (rotr a4 18 = r) := ⟨_, rfl⟩
            have T2 : Hid (∀ W, Calls Tryd.prog 37 #[.int .u64 (a4 : Int), .int .i64 18] W fun e w' => e = .returned (.int .u64 (r2 : Int)) ∧ Below W.heap.size W w') := by rw [← hr2.out]; exact turn_below a4 18 q4 (by omega) (by omega)
            have lr2 : r2 < 18446744073709551616 := by rw [← hr2.out]; exact rotr_lt _ q4
            obtain ⟨r3, hr3⟩ : ∃ r, Hid (rotr a4 41 = r) := ⟨_, rfl⟩
            have T3 : Hid (∀ W, Calls Tryd.prog 37 #[.int .u64 (a4 : Int), .int .i64 41] W fun e w' => e = .returned (.int .u64 (r3 : Int)) ∧ Below W.heap.size W w') := by rw [← hr3.out]; exact turn_below a4 41 q4 (by omega) (by omega)
            have lr3 : r3 < 18446744073709551616 := by rw [← hr3.out]; exact rotr_lt _ q4
            obtain ⟨r4, hr4⟩ : ∃ r, Hid (rotr a0 28 = r) := ⟨_, rfl⟩
            have T4 : Hid (∀ W, Calls Tryd.prog 37 #[.int .u64 (a0 : Int), .int .i64 28] W fun e w' => e = .returned (.int .u64 (r4 : Int)) ∧ Below W.heap.size W w') := by rw [← hr4.out]; exact turn_below a0 28 q0 (by omega) (by omega)
            have lr4 : r4 < 18446744073709551616 := by rw [← hr4.out]; exact rotr_lt _ q0
            obtain ⟨r5, hr5⟩ : ∃ r, Hid (rotr a0 34 = r) := ⟨_, rfl⟩
            have T5 : Hid (∀ W, Calls Tryd.prog 37 #[.int .u64 (a0 : Int), .int .i64 34] W fun e w' => e = .returned (.int .u64 (r5 : Int)) ∧ Below W.heap.size W w') := by rw [← hr5.out]; exact turn_below a0 34 q0 (by omega) (by omega)
            have lr5 : r5 < 18446744073709551616 := by rw [← hr5.out]; exact rotr_lt _ q0
            obtain ⟨r6, hr6⟩ : ∃ r, Hid (rotr a0 39 = r) := ⟨_, rfl⟩
            have T6 : Hid (∀ W, Calls Tryd.prog 37 #[.int .u64 (a0 : Int), .int .i64 39] W fun e w' => e = .returned (.int .u64 (r6 : Int)) ∧ Below W.heap.size W w') := by rw [← hr6.out]; exact turn_below a0 39 q0 (by omega) (by omega)
            have lr6 : r6 < 18446744073709551616 := by rw [← hr6.out]; exact rotr_lt _ q0
            obtain ⟨y1, hy1⟩ : ∃ z, Hid (r1 ^^^ r2 = z) := ⟨_, rfl⟩
            have Xy1 : bits .xor .u64 (r1 : Int) (r2 : Int) = (y1 : Int) := by rw [← hy1.out]; exact u64_xor_nat r1 r2 lr1 lr2
            have ly1 : y1 < 18446744073709551616 := by rw [← hy1.out]; exact xor64 lr1 lr2
            obtain ⟨z1, hz1⟩ : ∃ z, Hid (y1 ^^^ r3 = z) := ⟨_, rfl⟩
            have Xz1 : bits .xor .u64 (y1 : Int) (r3 : Int) = (z1 : Int) := by rw [← hz1.out]; exact u64_xor_nat y1 r3 ly1 lr3
            have lz1 : z1 < 18446744073709551616 := by rw [← hz1.out]; exact xor64 ly1 lr3
            obtain ⟨p1, hp1⟩ : ∃ z, Hid (a4 &&& a5 = z) := ⟨_, rfl⟩
            have Xp1 : bits .and .u64 (a4 : Int) (a5 : Int) = (p1 : Int) := by rw [← hp1.out]; exact u64_and_nat a4 a5 q4 q5
            have lp1 : p1 < 18446744073709551616 := by rw [← hp1.out]; exact and64 q5
            obtain ⟨n4, hn4⟩ : ∃ z, Hid (18446744073709551615 - a4 = z) := ⟨_, rfl⟩
            have N1 : bits .xor .u64 (if IntKind.u64.signed = true then -1 else IntKind.u64.max) (a4 : Int) = (n4 : Int) := by rw [← hn4.out]; exact not64 a4 q4
            have ln4 : n4 < 18446744073709551616 := by have := hn4.out; omega
            obtain ⟨p2, hp2⟩ : ∃ z, Hid (n4 &&& a6 = z) := ⟨_, rfl⟩
            have Xp2 : bits .and .u64 (n4 : Int) (a6 : Int) = (p2 : Int) := by rw [← hp2.out]; exact u64_and_nat n4 a6 ln4 q6
            have lp2 : p2 < 18446744073709551616 := by rw [← hp2.out]; exact and64 q6
            obtain ⟨c1, hc1⟩ : ∃ z, Hid (p1 ^^^ p2 = z) := ⟨_, rfl⟩
            have Xc1 : bits .xor .u64 (p1 : Int) (p2 : Int) = (c1 : Int) := by rw [← hc1.out]; exact u64_xor_nat p1 p2 lp1 lp2
            have lc1 : c1 < 18446744073709551616 := by rw [← hc1.out]; exact xor64 lp1 lp2
            obtain ⟨y2, hy2⟩ : ∃ z, Hid (r4 ^^^ r5 = z) := ⟨_, rfl⟩
            have Xy2 : bits .xor .u64 (r4 : Int) (r5 : Int) = (y2 : Int) := by rw [← hy2.out]; exact u64_xor_nat r4 r5 lr4 lr5
            have ly2 : y2 < 18446744073709551616 := by rw [← hy2.out]; exact xor64 lr4 lr5
            obtain ⟨z2, hz2⟩ : ∃ z, Hid (y2 ^^^ r6 = z) := ⟨_, rfl⟩
            have Xz2 : bits .xor .u64 (y2 : Int) (r6 : Int) = (z2 : Int) := by rw [← hz2.out]; exact u64_xor_nat y2 r6 ly2 lr6
            have lz2 : z2 < 18446744073709551616 := by rw [← hz2.out]; exact xor64 ly2 lr6
            obtain ⟨p3, hp3⟩ : ∃ z, Hid (a0 &&& a1 = z) := ⟨_, rfl⟩
            have Xp3 : bits .and .u64 (a0 : Int) (a1 : Int) = (p3 : Int) := by rw [← hp3.out]; exact u64_and_nat a0 a1 q0 q1
            have lp3 : p3 < 18446744073709551616 := by rw [← hp3.out]; exact and64 q1
            obtain ⟨p4, hp4⟩ : ∃ z, Hid (a0 &&& a2 = z) := ⟨_, rfl⟩
            have Xp4 : bits .and .u64 (a0 : Int) (a2 : Int) = (p4 : Int) := by rw [← hp4.out]; exact u64_and_nat a0 a2 q0 q2
            have lp4 : p4 < 18446744073709551616 := by rw [← hp4.out]; exact and64 q2
            obtain ⟨p5, hp5⟩ : ∃ z, Hid (a1 &&& a2 = z) := ⟨_, rfl⟩
            have Xp5 : bits .and .u64 (a1 : Int) (a2 : Int) = (p5 : Int) := by rw [← hp5.out]; exact u64_and_nat a1 a2 q1 q2
            have lp5 : p5 < 18446744073709551616 := by rw [← hp5.out]; exact and64 q2
            obtain ⟨p6, hp6⟩ : ∃ z, Hid (p3 ^^^ p4 = z) := ⟨_, rfl⟩
            have Xp6 : bits .xor .u64 (p3 : Int) (p4 : Int) = (p6 : Int) := by rw [← hp6.out]; exact u64_xor_nat p3 p4 lp3 lp4
            have lp6 : p6 < 18446744073709551616 := by rw [← hp6.out]; exact xor64 lp3 lp4
            obtain ⟨m1, hm1⟩ : ∃ z, Hid (p6 ^^^ p5 = z) := ⟨_, rfl⟩
            have Xm1 : bits .xor .u64 (p6 : Int) (p5 : Int) = (m1 : Int) := by rw [← hm1.out]; exact u64_xor_nat p6 p5 lp6 lp5
            have lm1 : m1 < 18446744073709551616 := by rw [← hm1.out]; exact xor64 lp6 lp5
            have E1 : Hid (bs1 a4 = z1) := by unfold Hid bs1; rw [hr1.out, hr2.out, hr3.out, hy1.out, hz1.out]
            have E2 : Hid (bs0 a0 = z2) := by unfold Hid bs0; rw [hr4.out, hr5.out, hr6.out, hy2.out, hz2.out]
            have E3 : Hid (cho a4 a5 a6 = c1) := by unfold Hid; rw [← cho_xor a4 a5 a6 q4, hp1.out, hn4.out, hp2.out, hc1.out]
            have E4 : Hid (maj a0 a1 a2 = m1) := by unfold Hid; rw [← maj_xor, hp3.out, hp4.out, hp5.out, hp6.out, hm1.out]
            clear hr1 hr2 hr3 hr4 hr5 hr6 hy1 hz1 hy2 hz2 hp1 hn4 hp2 hc1 hp3 hp4 hp5 hp6 hm1 lr1 lr2 lr3 lr4 lr5 lr6 ly1 ly2 lp1 ln4 lp2 lp3 lp4 lp5 lp6
            have lz1' : (z1 : Int) < 18446744073709551616 := by omega
            have lz2' : (z2 : Int) < 18446744073709551616 := by omega
            have lc1' : (c1 : Int) < 18446744073709551616 := by omega
            have lm1' : (m1 : Int) < 18446744073709551616 := by omega
            have lk' : (k : Int) < 18446744073709551616 := by omega
            have lx' : (x : Int) < 18446744073709551616 := by omega
            obtain ⟨o1, ho1⟩ : ∃ y, Hid ((a7 + z1) % 18446744073709551616 = y) := ⟨_, rfl⟩
            have Wo1 : IntKind.u64.wrap ((a7 : Int) + (z1 : Int)) = (o1 : Int) := by rw [wrap64_nat, ho1.out]
            obtain ⟨o2, ho2⟩ : ∃ y, Hid ((o1 + c1) % 18446744073709551616 = y) := ⟨_, rfl⟩
            have Wo2 : IntKind.u64.wrap ((o1 : Int) + (c1 : Int)) = (o2 : Int) := by rw [wrap64_nat, ho2.out]
            obtain ⟨o3, ho3⟩ : ∃ y, Hid ((o2 + k) % 18446744073709551616 = y) := ⟨_, rfl⟩
            have Wo3 : IntKind.u64.wrap ((o2 : Int) + (k : Int)) = (o3 : Int) := by rw [wrap64_nat, ho3.out]
            obtain ⟨o4, ho4⟩ : ∃ y, Hid ((o3 + x) % 18446744073709551616 = y) := ⟨_, rfl⟩
            have Wo4 : IntKind.u64.wrap ((o3 : Int) + (x : Int)) = (o4 : Int) := by rw [wrap64_nat, ho4.out]
            obtain ⟨t1, ht1⟩ : ∃ y, Hid ((z2 + m1) % 18446744073709551616 = y) := ⟨_, rfl⟩
            have Wt1 : IntKind.u64.wrap ((z2 : Int) + (m1 : Int)) = (t1 : Int) := by rw [wrap64_nat, ht1.out]
            obtain ⟨u1, hu1⟩ : ∃ y, Hid ((o4 + t1) % 18446744073709551616 = y) := ⟨_, rfl⟩
            have Wu1 : IntKind.u64.wrap ((o4 : Int) + (t1 : Int)) = (u1 : Int) := by rw [wrap64_nat, hu1.out]
            obtain ⟨v1, hv1⟩ : ∃ y, Hid ((a3 + o4) % 18446744073709551616 = y) := ⟨_, rfl⟩
            have Wv1 : IntKind.u64.wrap ((a3 : Int) + (o4 : Int)) = (v1 : Int) := by rw [wrap64_nat, hv1.out]
            have hone : Hid ((a7 + z1 + c1 + k + x) % 18446744073709551616 = o4) := by unfold Hid; have := ho1.out; have := ho2.out; have := ho3.out; have := ho4.out; omega
            go_wp2_with fail
            have d4 : ∀ n, (ext wr4 n).cell? ⟨vB, vO + 4, none⟩ = some (.int .u64 (a4 : Int)) := fun n => cells_ext (R_wr4.out.blk (S8.list_length _) (by omega)) (R_wr4.out.cells (S8.list_length _) (by omega)) 4 (by omega) n
            refine wp_region_ext (by kernel_rfl) (by kernel_rfl) ?_
            repeat (go_big_quiet_step ((first
              | with_reducible exact calls_ext (T1.out _)
              | with_reducible exact calls_ext (T2.out _)
              | with_reducible exact calls_ext (T3.out _)
              | fail)))
            refine wpQuiet_nil ?_
            intro Vv hw
            obtain ⟨m, rfl⟩ := hw
            have g := ext_below wr4 m
            obtain ⟨V1, hVv⟩ : ∃ V, ext wr4 m = V := ⟨_, rfl⟩
            rw [hVv] at g ⊢
            clear hVv d4
            have K_V1 : Hid (Rwk V1 bk kk) := K_wr4.out.below g
            have B_V1 : Hid (Below w.heap.size w V1) := B_wr4.out.trans (g.mono B_wr4.out.size)
            have Q_V1 : Hid (SK .u64 V1 (.slice (some ⟨wB, wO, none⟩) 80 wC) (ws l 80)) := Q_wr4.out.below g
            have R_V1 : Hid (SK .u64 V1 (.slice (some ⟨vB, vO, none⟩) 8 vC) (⟨a0, a1, a2, a3, a4, a5, a6, a7⟩ : S8).list) := R_wr4.out.below g
            clear g
            go_wp2_with fail
            have d4 : ∀ n, (ext V1 n).cell? ⟨vB, vO + 4, none⟩ = some (.int .u64 (a4 : Int)) := fun n => cells_ext (R_V1.out.blk (S8.list_length _) (by omega)) (R_V1.out.cells (S8.list_length _) (by omega)) 4 (by omega) n
            have d5 : ∀ n, (ext V1 n).cell? ⟨vB, vO + 5, none⟩ = some (.int .u64 (a5 : Int)) := fun n => cells_ext (R_V1.out.blk (S8.list_length _) (by omega)) (R_V1.out.cells (S8.list_length _) (by omega)) 5 (by omega) n
            have d6 : ∀ n, (ext V1 n).cell? ⟨vB, vO + 6, none⟩ = some (.int .u64 (a6 : Int)) := fun n => cells_ext (R_V1.out.blk (S8.list_length _) (by omega)) (R_V1.out.cells (S8.list_length _) (by omega)) 6 (by omega) n
            refine wp_region_ext (by kernel_rfl) (by kernel_rfl) ?_
            repeat (go_big_quiet_step ((first
              | fail)))
            refine wpQuiet_nil ?_
            intro Vv hw
            obtain ⟨m, rfl⟩ := hw
            have g := ext_below V1 m
            obtain ⟨V2, hVv⟩ : ∃ V, ext V1 m = V := ⟨_, rfl⟩
            rw [hVv] at g ⊢
            clear hVv d4 d5 d6
            have K_V2 : Hid (Rwk V2 bk kk) := K_V1.out.below g
            have B_V2 : Hid (Below w.heap.size w V2) := B_V1.out.trans (g.mono B_V1.out.size)
            have Q_V2 : Hid (SK .u64 V2 (.slice (some ⟨wB, wO, none⟩) 80 wC) (ws l 80)) := Q_V1.out.below g
            have R_V2 : Hid (SK .u64 V2 (.slice (some ⟨vB, vO, none⟩) 8 vC) (⟨a0, a1, a2, a3, a4, a5, a6, a7⟩ : S8).list) := R_V1.out.below g
            clear g
            go_wp2_with fail
            have d7 : ∀ n, (ext V2 n).cell? ⟨vB, vO + 7, none⟩ = some (.int .u64 (a7 : Int)) := fun n => cells_ext (R_V2.out.blk (S8.list_length _) (by omega)) (R_V2.out.cells (S8.list_length _) (by omega)) 7 (by omega) n
            have dk : ∀ n, (ext V2 n).cell? ⟨bk, t, none⟩ = some (.int .u64 (k : Int)) := fun n => by rw [← hkk.out]; exact (K_V2.out.below (ext_below V2 n)).at' t (by rw [kk_length]; exact hlt)
            have dw : ∀ n, (ext V2 n).cell? ⟨wB, wO + t, none⟩ = some (.int .u64 (x : Int)) := fun n => by rw [← hx.out]; exact cells_ext (Q_V2.out.blk (ws_length l 80) (by omega)) (Q_V2.out.cells (ws_length l 80) (by omega)) t hlt n
            refine wp_region_ext (by kernel_rfl) (by kernel_rfl) ?_
            repeat (go_big_quiet_step ((first
              | fail)))
            refine wpQuiet_nil ?_
            intro Vv hw
            obtain ⟨m, rfl⟩ := hw
            have g := ext_below V2 m
            obtain ⟨V3, hVv⟩ : ∃ V, ext V2 m = V := ⟨_, rfl⟩
            rw [hVv] at g ⊢
            clear hVv d7 dk dw
            have K_V3 : Hid (Rwk V3 bk kk) := K_V2.out.below g
            have B_V3 : Hid (Below w.heap.size w V3) := B_V2.out.trans (g.mono B_V2.out.size)
            have Q_V3 : Hid (SK .u64 V3 (.slice (some ⟨wB, wO, none⟩) 80 wC) (ws l 80)) := Q_V2.out.below g
            have R_V3 : Hid (SK .u64 V3 (.slice (some ⟨vB, vO, none⟩) 8 vC) (⟨a0, a1, a2, a3, a4, a5, a6, a7⟩ : S8).list) := R_V2.out.below g
            clear g
            go_wp2_with fail
            have d0 : ∀ n, (ext V3 n).cell? ⟨vB, vO, none⟩ = some (.int .u64 (a0 : Int)) := fun n => cells_ext (R_V3.out.blk (S8.list_length _) (by omega)) (R_V3.out.cells (S8.list_length _) (by omega)) 0 (by omega) n
            refine wp_region_ext (by kernel_rfl) (by kernel_rfl) ?_
            repeat (go_big_quiet_step ((first
              | with_reducible exact calls_ext (T4.out _)
              | with_reducible exact calls_ext (T5.out _)
              | with_reducible exact calls_ext (T6.out _)
              | fail)))
            refine wpQuiet_nil ?_
            intro Vv hw
            obtain ⟨m, rfl⟩ := hw
            have g := ext_below V3 m
            obtain ⟨V4, hVv⟩ : ∃ V, ext V3 m = V := ⟨_, rfl⟩
            rw [hVv] at g ⊢
            clear hVv d0
            have K_V4 : Hid (Rwk V4 bk kk) := K_V3.out.below g
            have B_V4 : Hid (Below w.heap.size w V4) := B_V3.out.trans (g.mono B_V3.out.size)
            have Q_V4 : Hid (SK .u64 V4 (.slice (some ⟨wB, wO, none⟩) 80 wC) (ws l 80)) := Q_V3.out.below g
            have R_V4 : Hid (SK .u64 V4 (.slice (some ⟨vB, vO, none⟩) 8 vC) (⟨a0, a1, a2, a3, a4, a5, a6, a7⟩ : S8).list) := R_V3.out.below g
            clear g
            go_wp2_with fail
            have d0 : ∀ n, (ext V4 n).cell? ⟨vB, vO, none⟩ = some (.int .u64 (a0 : Int)) := fun n => cells_ext (R_V4.out.blk (S8.list_length _) (by omega)) (R_V4.out.cells (S8.list_length _) (by omega)) 0 (by omega) n
            have d1 : ∀ n, (ext V4 n).cell? ⟨vB, vO + 1, none⟩ = some (.int .u64 (a1 : Int)) := fun n => cells_ext (R_V4.out.blk (S8.list_length _) (by omega)) (R_V4.out.cells (S8.list_length _) (by omega)) 1 (by omega) n
            have d2 : ∀ n, (ext V4 n).cell? ⟨vB, vO + 2, none⟩ = some (.int .u64 (a2 : Int)) := fun n => cells_ext (R_V4.out.blk (S8.list_length _) (by omega)) (R_V4.out.cells (S8.list_length _) (by omega)) 2 (by omega) n
            refine wp_region_ext (by kernel_rfl) (by kernel_rfl) ?_
            repeat (go_big_quiet_step ((first
              | fail)))
            refine wpQuiet_nil ?_
            intro Vv hw
            obtain ⟨m, rfl⟩ := hw
            have g := ext_below V4 m
            obtain ⟨V5, hVv⟩ : ∃ V, ext V4 m = V := ⟨_, rfl⟩
            rw [hVv] at g ⊢
            clear hVv d0 d1 d2
            have K_V5 : Hid (Rwk V5 bk kk) := K_V4.out.below g
            have B_V5 : Hid (Below w.heap.size w V5) := B_V4.out.trans (g.mono B_V4.out.size)
            have Q_V5 : Hid (SK .u64 V5 (.slice (some ⟨wB, wO, none⟩) 80 wC) (ws l 80)) := Q_V4.out.below g
            have R_V5 : Hid (SK .u64 V5 (.slice (some ⟨vB, vO, none⟩) 8 vC) (⟨a0, a1, a2, a3, a4, a5, a6, a7⟩ : S8).list) := R_V4.out.below g
            clear g
            go_wp2_with fail
            have d0 : V5.cell? ⟨vB, vO, none⟩ = some (.int .u64 (a0 : Int)) := R_V5.out.cells (S8.list_length _) (by omega) 0 (by omega)
            have d1 : V5.cell? ⟨vB, vO + 1, none⟩ = some (.int .u64 (a1 : Int)) := R_V5.out.cells (S8.list_length _) (by omega) 1 (by omega)
            have d2 : V5.cell? ⟨vB, vO + 2, none⟩ = some (.int .u64 (a2 : Int)) := R_V5.out.cells (S8.list_length _) (by omega) 2 (by omega)
            have d3 : V5.cell? ⟨vB, vO + 3, none⟩ = some (.int .u64 (a3 : Int)) := R_V5.out.cells (S8.list_length _) (by omega) 3 (by omega)
            have d4 : V5.cell? ⟨vB, vO + 4, none⟩ = some (.int .u64 (a4 : Int)) := R_V5.out.cells (S8.list_length _) (by omega) 4 (by omega)
            have d5 : V5.cell? ⟨vB, vO + 5, none⟩ = some (.int .u64 (a5 : Int)) := R_V5.out.cells (S8.list_length _) (by omega) 5 (by omega)
            have d6 : V5.cell? ⟨vB, vO + 6, none⟩ = some (.int .u64 (a6 : Int)) := R_V5.out.cells (S8.list_length _) (by omega) 6 (by omega)
            have hne : ¬ (vB = V5.heap.size) := by have := R_V5.out.blk (S8.list_length _) (by omega); omega
            go_region_held3 (fun w' => w'.cell? ⟨vB, vO, none⟩ = some (.int .u64 (a0 : Int)) ∧ w'.cell? ⟨vB, vO + 1, none⟩ = some (.int .u64 (a1 : Int)) ∧ w'.cell? ⟨vB, vO + 2, none⟩ = some (.int .u64 (a2 : Int)) ∧ w'.cell? ⟨vB, vO + 3, none⟩ = some (.int .u64 (a3 : Int)) ∧ w'.cell? ⟨vB, vO + 4, none⟩ = some (.int .u64 (a4 : Int)) ∧ w'.cell? ⟨vB, vO + 5, none⟩ = some (.int .u64 (a5 : Int)) ∧ w'.cell? ⟨vB, vO + 6, none⟩ = some (.int .u64 (a6 : Int)))
              (first | go_keep)
              (fail)
            clear d0 d1 d2 d3 d4 d5 d6 hne
            go_wp2_with fail
            go_roundw
            case rel =>
              have G : Below V5.heap.size V5 (V5.alloc (.cells (uv ((⟨a0, a1, a2, a3, a4, a5, a6, a7⟩ : S8).step k x).list).toArray 45)).drew := ((Below.refl _ _).alloc (Nat.le_refl _) _).drew
              rw [step_cells a0 a1 a2 a3 a4 a5 a6 a7 k x z1 c1 z2 m1 o4 t1 u1 v1 E1.out E2.out E3.out E4.out hone.out ht1.out hu1.out hv1.out]
              exact ⟨t + 1, by omega, by go_num, by rw [RR.out]; exact (sk_new64 V5 _ _ rfl 8 rfl).below (Below.refl _ _).drew, K_V5.out.below G, B_V5.out.trans (G.mono B_V5.out.size), Q_V5.out.below G⟩
            case measure => simp [intOf] <;> omega
          · obtain rfl : t = 80 := by omega
            rw [show ((80 : Nat) : Int) = 80 from rfl]
            have hE : Hid (tk s l = s.plus r) := by unfold Hid tk; rw [hr.out]
            clear K_wr4 Q_wr4 hkb hwb
            obtain ⟨b5, hb5⟩ : ∃ b, Hid (wr4.heap.size = b) := ⟨_, rfl⟩
            have hw5 : Hid (w.heap.size ≤ b5) := by unfold Hid; rw [← hb5.out]; exact B_wr4.out.size
            have hv5 : Hid (vB < b5) := by unfold Hid; rw [← hb5.out]; exact vBl
            have S_wr4 : Hid (b5 ≤ wr4.heap.size) := by unfold Hid; rw [hb5.out]; exact Nat.le_refl _
            have VC : Hid (∀ j, j < 8 → wr4.cell? ⟨vB, vO + j, none⟩ = some (.int .u64 (r.list.getD j 0 : Int))) := R_wr4.out.cells (S8.list_length r) (by omega)
            have hrok : Hid r.ok := hok
            clear R_wr4 vBl hok
            go_wp2_with fail
            go_loopw [21, 22] (fun u y W => ∃ i : Nat, i ≤ 8 ∧ y = .int .i64 i ∧ OwnW b5 W u ((tk s l).list.take i) ∧ Below w.heap.size w W ∧ b5 ≤ W.heap.size ∧ Below b5 wr4 W) (fun _ y _ => 8 - (intOf y).toNat)
            case atStart => exact ⟨0, by omega, rfl, OwnW.nil _ _, B_wr4.out, S_wr4.out, Below.refl _ _⟩
            case round =>
              rename World => wr5
              clear S_wr4
              obtain ⟨i, hi, rfl, hown, hB', hS, h45⟩ := hrel
              have OW : Hid (OwnW b5 wr5 u21 ((tk s l).list.take i)) := hown
              have BW : Hid (Below w.heap.size w wr5) := hB'
              have SW : Hid (b5 ≤ wr5.heap.size) := hS
              have FW : Hid (Below b5 wr4 wr5) := h45
              clear hown hB' hS h45
              by_cases hlt : i < 8
              · have hlt' : (i : Int) < 8 := by omega
                have ch := (BW.out.cell (p := ⟨hB, hO + i, none⟩) hBl).trans (HC.out i hlt)
                have cv := (FW.out.cell (p := ⟨vB, vO + i, none⟩) hv5.out).trans (VC.out i hlt)
                have hp := S8.plus_get s r i hlt
                have hx1 := S8.ok_get HS.out i
                have hy1 := S8.ok_get hrok.out i
                have hst : Hid ((tk s l).list.take (i + 1) = (tk s l).list.take i ++ [(s.list.getD i 0 + r.list.getD i 0) % 18446744073709551616]) := by unfold Hid; rw [take_more _ _ (by rw [S8.list_length]; exact hlt), hE.out, hp]
                obtain ⟨x, hx⟩ : ∃ x, s.list.getD i 0 = x := ⟨_, rfl⟩
                obtain ⟨y, hy⟩ : ∃ y, r.list.getD i 0 = y := ⟨_, rfl⟩
                rw [hx] at ch hx1 hst
                rw [hy] at cv hy1 hst
                clear hp hx hy
                have hln : Hid (((tk s l).list.take i).length ≤ 1000000) := by unfold Hid; rw [List.length_take, S8.list_length]; omega
                have hshape := OW.out.sk.shape
                go_wp2_with fail
                go_region_law (refine step_app64 (by rfl) _ _ (by rfl) b5 _ ((tk s l).list.take i) ((x + y) % 18446744073709551616) _ (wrap64_nat x y) (by rfl) OW.out (by rfl) hln.out SW.out ?_; intro v' V3 hown' hb')
                all_goals
                  have OV3 : Hid (OwnW b5 V3 v' ((tk s l).list.take (i + 1))) := by rw [hst.out]; exact hown'
                  have BV3 : Hid (Below b5 wr5 V3) := hb'
                  clear hown' hb'
                  go_wp2_with fail
                  go_roundw
                  case rel => exact ⟨i + 1, by omega, by go_num, OV3.out, BW.out.trans (BV3.out.mono hw5.out), Nat.le_trans SW.out BV3.out.size, FW.out.trans BV3.out⟩
                  case measure => simp [intOf] <;> omega
              · obtain rfl : i = 8 := by omega
                have hsk : Hid (SK .u64 wr5 u21 (tk s l).list) := by
                  have := OW.out.sk
                  rw [List.take_of_length_le (by rw [S8.list_length]; omega)] at this
                  exact this
                obtain ⟨ra, rc, hre⟩ := hsk.out.shape
                subst hre
                go_wp2_with fail
                go_ret
                exact ⟨_, rfl, hsk.out, BW.out⟩
end Go.Proofs.YtkkhpjcfojgggaaDoor.Br
