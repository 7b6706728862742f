/-
  The program's sixteen and multiples of layer 11: the walk, given what each call answers. Conditions: as each theorem says.
-/
import Derived.Test.YtedhfimjcpbcpaaDoorKboh
import Derived.Test.YtedhfimjcpbcpaaDoorKbof
import Derived.Test.YtedhfimjcpbcpaaDoorKbob
import Derived.Test.YtedhfimjcpbcpaaDoorKboc
import Derived.Test.YtedhfimjcpbcpaaDoorKboe
namespace Go.Proofs.YtedhfimjcpbcpaaDoor.Ed
open Go.RowKit
set_option linter.unusedVariables false
set_option linter.unusedSimpArgs false

set_option maxRecDepth 100000 in
set_option maxHeartbeats 16000000 in
theorem sixteen_w (p q8 q16 : List Value) (p_h : Pl p) (q8_h : Pl q8) (q16_h : Pl q16) 
    (Q1 : Hid (∀ w : World, Gf w → Calls Tryd.prog 29 #[.agg p.toArray] w fun e w' => e = .returned (.agg q8.toArray) ∧ Below w.heap.size w w'))
    (Q2 : Hid (∀ w : World, Gf w → Calls Tryd.prog 34 #[.agg q8.toArray] w fun e w' => e = .returned (.agg q16.toArray) ∧ Below w.heap.size w w'))
    (w : World) (Z_0 : Hid (Gf w)) :
    Calls Tryd.prog 53 #[.agg p.toArray] w fun e w' => e = .returned (.agg q16.toArray) ∧ Below w.heap.size w w' := by
  go_enter Tryd.func53, Tryd.ntmps53
  go_upto_region 1 with fail
  have HZ := Z_0.out.lt
  refine wp_cut (fun V => At 32 V w.heap.size p ∧ At 32 V (w.heap.size + 1) [.int .u64 0, .int .u64 0, .int .u64 0, .int .u64 0, .int .u64 0, .int .u64 0, .int .u64 0, .int .u64 0, .int .u64 0, .int .u64 0, .int .u64 0, .int .u64 0, .int .u64 0, .int .u64 0, .int .u64 0, .int .u64 0, .int .u64 0, .int .u64 0, .int .u64 0, .int .u64 0] ∧ Gf V ∧ Below w.heap.size w V) ⟨?_, ?_, ?_, ?_⟩ ?_
  · (repeat (first | refine At.drew ?_ | refine At.drewN ?_ _ | (refine at_new2 _ _ _ _ ?_; simp; done) | refine at_alloc ?_ _))
  · (repeat (first | refine At.drew ?_ | refine At.drewN ?_ _ | (refine at_new2 _ _ _ _ ?_; simp; done) | refine at_alloc ?_ _))
  · refine Z_0.out.grown ?_
    (repeat (first | exact Below.refl _ _ | refine Below.drew ?_ | refine below_drewN ?_ _ | refine Below.alloc ?_ (by simp <;> omega) _))
  · (repeat (first | exact Below.refl _ _ | refine Below.drew ?_ | refine below_drewN ?_ _ | refine Below.alloc ?_ (by simp <;> omega) _))
  rintro w1 ⟨k0, k1, k2, k3⟩
  have B1_1 := hid k0
  have B2_1 := hid k1
  have Z_1 := hid k2
  have G_1 := hid k3
  clear k0 k1 k2 k3 Z_0
  go_wp2_with (first | (refine wpList_load_mid rfl 32 _ rfl w.heap.size 0 rfl p _ (at_mid B1_1.out 0 _ (by simp)) Tryd.underlying32 rfl p_h.il ?_) | fail)
  refine (Q1.out _ Z_1.out).mono ?_
  rintro e w2 ⟨rfl, g0⟩
  have g := g0
  clear g0
  have B1_2 := hid (B1_1.out.below g)
  have B2_2 := hid (B2_1.out.below g)
  have Z_2 := hid (Z_1.out.grown g)
  have G_2 := hid (G_1.out.trans (g.mono G_1.out.size))
  clear g B1_1 B2_1 Z_1 G_1
  go_wp2_with (fail)
  refine (Q2.out _ Z_2.out).mono ?_
  rintro e w3 ⟨rfl, g0⟩
  have g := g0
  clear g0
  have B1_3 := hid (B1_2.out.below g)
  have B2_3 := hid (B2_2.out.below g)
  have Z_3 := hid (Z_2.out.grown g)
  have G_3 := hid (G_2.out.trans (g.mono G_2.out.size))
  clear g B1_2 B2_2 Z_2 G_2
  go_wp2_with (first | (refine list_store_whole rfl 32 _ _ rfl (w.heap.size + 1) q16 _ rfl rfl B2_3.out q16_h.len q16_h.is q16_h.one w.heap.size w G_3.out (by omega) (fun F hC hB => ?_)) | fail)
  exact bodyPost_ret (v := .agg q16.toArray) (results_mid (Tryd.results53) _ F (w.heap.size + 1) 0 q16 _ rfl hC.range Tryd.underlying32 rfl q16_h.il) rfl ⟨rfl, hB⟩
theorem sixteen_p (p : P4) (P : Pt) (hp : p.Is P) : ∃ c : P4, c.Is (Pt.mul 16 P) ∧ ∀ w : World, Gf w → Calls Tryd.prog 53 #[.agg p.l.toArray] w fun e w' => e = .returned (.agg c.l.toArray) ∧ Below w.heap.size w w' := by
  obtain ⟨e, he, qe⟩ := eight_p p P hp
  obtain ⟨d, hd, qd⟩ := double_p e _ he
  refine ⟨d, ?_, fun w hz => sixteen_w p.l e.l d.l p.pl e.pl d.pl qe qd w hz⟩
  rw [show (16 : Nat) = 8 + 8 from rfl, Pt.mul_two, mul_eight]
  exact hd
/-- A point's multiples, one by one. -/
theorem chain_p (p : P4) (P : Pt) (hp : p.Is P) : ∃ f : Nat → P4, (∀ k, (f k).Is (Pt.mul k P)) ∧ (∀ w : World, Calls Tryd.prog 33 #[] w fun e w' => e = .returned (.agg (f 0).l.toArray) ∧ Below w.heap.size w w') ∧
    ∀ (k : Nat) (w : World), GtwiceD w → Gf w → Calls Tryd.prog 28 #[.agg (f k).l.toArray, .agg p.l.toArray] w fun e w' => e = .returned (.agg (f (k + 1)).l.toArray) ∧ Below w.heap.size w w' := by
  obtain ⟨c0, h0, q0⟩ := zero_p
  have st : ∀ (k : Nat) (c : P4), c.Is (Pt.mul k P) → ∃ d : P4, d.Is (Pt.mul (k + 1) P) ∧ ∀ w : World, GtwiceD w → Gf w → Calls Tryd.prog 28 #[.agg c.l.toArray, .agg p.l.toArray] w fun e w' => e = .returned (.agg d.l.toArray) ∧ Below w.heap.size w w' := fun k c hc => by
    obtain ⟨d, hd, q⟩ := add_p c p _ _ hc hp
    exact ⟨d, by rw [Pt.mul_next]; exact hd, q⟩
  have h0' : c0.Is (Pt.mul 0 P) := h0
  let F : (k : Nat) → { c : P4 // c.Is (Pt.mul k P) } := fun k => Nat.rec (motive := fun k => { c : P4 // c.Is (Pt.mul k P) }) ⟨c0, h0'⟩ (fun k x => ⟨Classical.choose (st k x.1 x.2), (Classical.choose_spec (st k x.1 x.2)).1⟩) k
  exact ⟨fun k => (F k).1, fun k => (F k).2, q0, fun k => (Classical.choose_spec (st k (F k).1 (F k).2)).2⟩
/-- The first i + 1 of sixteen. -/
def rowAt (f : Nat → P4) (i : Nat) : List P4 := (List.range 16).map fun j => if j ≤ i then f j else nilP
theorem row_len (f : Nat → P4) (i : Nat) : (rowAt f i).length = 16 := by simp [rowAt]
theorem row_get (f : Nat → P4) (i j : Nat) (h : j ≤ i) (h2 : j < 16) : (rowAt f i)[j]? = some (f j) := by
  simp [rowAt, List.getElem?_map, List.getElem?_range h2, h]
theorem row_zero (f : Nat → P4) : rowAt f 0 = f 0 :: List.replicate 15 nilP := rfl
theorem row_set (f : Nat → P4) (i : Nat) (h : i + 1 < 16) : (rowAt f i).set (i + 1) (f (i + 1)) = rowAt f (i + 1) := by
  refine List.ext_getElem? fun j => ?_
  rw [List.getElem?_set, row_len]
  by_cases e : i + 1 = j
  · subst e
    rw [if_pos rfl, if_pos h, row_get f _ _ (Nat.le_refl _) h]
  · rw [if_neg e]
    by_cases hj : j < 16
    · simp only [rowAt, List.getElem?_map, List.getElem?_range hj, Option.map_some]
      by_cases q : j ≤ i
      · rw [if_pos q, if_pos (by omega)]
      · rw [if_neg q, if_neg (by omega)]
    · rw [List.getElem?_eq_none (by rw [row_len]; omega), List.getElem?_eq_none (by rw [row_len]; omega)]
theorem at_newz (T : TypeId) (w : World) (L : List Value) (zc : Array Value) (hz : zc = L.toArray) (b : Nat) (hb : b = w.heap.size) : At T (w.alloc (.cells zc T)) b L := by
  subst hz
  exact at_new2 T w L b hb
set_option maxRecDepth 100000 in
set_option maxHeartbeats 16000000 in
theorem multiples_w (f : Nat → P4) (p : List Value) (p_h : Pl p)
    (Q1 : Hid (∀ w : World, Calls Tryd.prog 33 #[] w fun e w' => e = .returned (.agg (f 0).l.toArray) ∧ Below w.heap.size w w'))
    (Q2 : Hid (∀ (k : Nat) (w : World), GtwiceD w → Gf w → Calls Tryd.prog 28 #[.agg (f k).l.toArray, .agg p.toArray] w fun e w' => e = .returned (.agg (f (k + 1)).l.toArray) ∧ Below w.heap.size w w'))
    (w : World) (T_0 : Hid (GtwiceD w)) (Z_0 : Hid (Gf w)) :
    Calls Tryd.prog 51 #[.agg p.toArray] w fun e w' => e = .returned (.agg (fm (rowAt f 15)).toArray) ∧ Below w.heap.size w w' := by
  go_enter Tryd.func51, Tryd.ntmps51
  go_upto_region 1 with fail
  have g01 : Below w.heap.size w ((w.alloc (.cells p.toArray 32)).alloc (.cells Tryd.zeroCells82 82)) := ((Below.refl _ _).alloc (Nat.le_refl _) _).alloc (by simp) _
  refine wp_cut (fun V => At 32 V w.heap.size p ∧ At 82 V (w.heap.size + 1) (fm (List.replicate 16 nilP)) ∧ Below w.heap.size w V) ⟨at_alloc (at_new2 _ _ _ _ rfl) _, at_newz _ _ _ _ zero_16 _ (by simp), g01⟩ ?_
  clear g01
  rintro w1 ⟨k0, k1, k2⟩
  have A_1 := hid k0
  have B_1 := hid k1
  have G_1 := hid k2
  clear k0 k1 k2
  go_wp2_with fail
  refine (Q1.out _).mono ?_
  rintro e w2 ⟨rfl, g⟩
  have A_2 := hid (A_1.out.below g)
  have B_2 := hid (B_1.out.below g)
  have G_2 := hid (G_1.out.trans (g.mono G_1.out.size))
  clear g A_1 B_1 G_1
  obtain ⟨R0, hR0⟩ : ∃ R, Hid (fm (f 0 :: List.replicate 15 nilP) = R) := ⟨_, rfl⟩
  obtain ⟨Z0, hZ0⟩ : ∃ R, Hid (fm (List.replicate 16 nilP) = R) := ⟨_, rfl⟩
  have hb16 : ∀ w, (Instr.build 82 #[(0, .agg (f 0).l.toArray)]).run Tryd.prog w = .ok (.agg R0.toArray) w := fun w => by rw [← hR0.out]; exact build_16 (f 0) w
  have hz16 : Tryd.zeroCells82 = Z0.toArray := by rw [← hZ0.out]; exact zero_16
  have R0_h : Hid (R0.length = Z0.length) := by unfold Hid; rw [← hR0.out, ← hZ0.out, fm_len, fm_len]; rfl
  have R0_s : Hid ((Tryd.prog.info? 82).map (·.size) = some R0.toArray.size) := by unfold Hid; rw [← hR0.out]; exact fm_is _ rfl
  have R0_o : Hid (R0.toArray.all (·.oneCell') = true) := by unfold Hid; rw [← hR0.out]; exact fm_one _
  rw [hZ0.out] at B_2
  obtain ⟨c0, hc0⟩ : ∃ c, (f 0).l = c := ⟨_, rfl⟩
  rw [hc0] at hb16 ⊢
  go_wp2_with (first | refine wpList_build rfl 82 _ rfl (.agg R0.toArray) #[(0, .agg c0.toArray)] (by simp [Act.eval, Act.put]) hb16 ?_ | refine list_store_new rfl 82 _ _ rfl w2 R0 Z0 rfl rfl R0_h.out R0_s.out R0_o.out (fun w3 hC g => ?_) | fail)
  have A_3 := hid (A_2.out.below g)
  have B_3 := hid (B_2.out.below g)
  have C_3 : Hid (At 82 w3 w2.heap.size (fm (rowAt f 0))) := by unfold Hid; rw [row_zero, hR0.out]; exact hC
  have G_3 := hid (G_2.out.trans (g.mono G_2.out.size))
  have T_3 := hid (T_0.out.grown G_3.out)
  have Z_3 := hid (Z_0.out.grown G_3.out)
  have lB : w.heap.size + 1 < w2.heap.size := B_2.out.lt
  have hZl : Hid (Z0.length = 320) := by unfold Hid; rw [← hZ0.out, fm_len]; rfl
  have HT := hid T_0.out.lt
  have HZ := hid Z_0.out.lt
  obtain ⟨o, ho⟩ : ∃ o, w2.heap.size = o := ⟨_, rfl⟩
  rw [ho] at lB C_3 ⊢
  clear g hC A_2 B_2 G_2 T_0 Z_0 hb16 hc0 hz16 R0_h R0_s R0_o hR0 hZ0 ho
  go_loopw [4] (fun y wr => ∃ i : Nat, i ≤ 15 ∧ y = .int .i64 ((i : Int) + 1) ∧ Hid (At 82 wr o (fm (rowAt f i))) ∧ Hid (At 32 wr w.heap.size p) ∧ Hid (At 82 wr (w.heap.size + 1) Z0) ∧ Hid (GtwiceD wr) ∧ Hid (Gf wr) ∧ Hid (Below w.heap.size w wr))
    (fun y _ => (16 - intOf y).toNat)
  case atStart => exact ⟨0, by omega, by go_num, C_3, A_3, B_3, T_3, Z_3, G_3⟩
  case round =>
    obtain ⟨i, hi, rfl, hC, hA, hB, hT, hZ, hG⟩ := hrel
    clear C_3 A_3 B_3 T_3 Z_3 G_3
    by_cases hlt : i < 15
    · have hi1 : (i : Int) < 15 := by omega
      have hs1 : IntKind.i64.wrap ((i : Int) + 1 - 1) = (i : Int) := wrapI _ (by omega) (by omega) |>.trans (by omega)
      have hs2 : (i : Int) + 1 - 1 = (i : Int) := by omega
      have hs3 : IntKind.i64.wrap (i : Int) = (i : Int) := wrapI _ (by omega) (by omega)
      have hi2 : (i : Int) < 16 := by omega
      have hi3 : (i : Int) + 1 < 16 := by omega
      have hi0 : (0 : Int) ≤ (i : Int) + 1 := by omega
      have hmid : Hid (((fm (rowAt f i)).drop (i * 20)).take 20 = (f i).l) := fm_mid _ i _ (row_get f i i (Nat.le_refl _) (by omega))
      have hset : Hid ((fm (rowAt f i)).take ((i + 1) * 20) ++ (f (i + 1)).l ++ (fm (rowAt f i)).drop ((i + 1) * 20 + 20) = fm (rowAt f (i + 1))) := by unfold Hid; rw [fm_set _ _ _ (by rw [row_len]; omega), row_set f i (by omega)]
      have hRl : Hid ((fm (rowAt f i)).length = 320) := by unfold Hid; rw [fm_len, row_len]
      have Q2i : Hid (∀ w : World, GtwiceD w → Gf w → Calls Tryd.prog 28 #[.agg (f i).l.toArray, .agg p.toArray] w fun e w' => e = .returned (.agg (f (i + 1)).l.toArray) ∧ Below w.heap.size w w') := Q2.out i
      have c_h : Pl (f i).l := (f i).pl
      have d_h : Pl (f (i + 1)).l := (f (i + 1)).pl
      obtain ⟨R, hR⟩ : ∃ R, fm (rowAt f i) = R := ⟨_, rfl⟩
      obtain ⟨c, hc⟩ : ∃ c, (f i).l = c := ⟨_, rfl⟩
      obtain ⟨d, hd⟩ : ∃ d, (f (i + 1)).l = d := ⟨_, rfl⟩
      rw [hR] at hC hmid hset hRl
      rw [hc] at hmid Q2i c_h
      rw [hd] at hset Q2i d_h
      have hT' := hid (hT.out.grown (Below.refl _ wr).drew)
      have hZ' := hid (hZ.out.grown (Below.refl _ wr).drew)
      have K0 : At 82 wr.drew o R ∧ At 32 wr.drew w.heap.size p := ⟨hC.out.drew, hA.out.drew⟩
      clear hR hc hd Q2
      go_wp2_with fail
      refine wp_region_late (L := 8) (S := fun w' => At 82 w' o R ∧ At 32 w' w.heap.size p) (by kernel_rfl) K0 (fun hHeld => ?_)
      clear K0
      refine l_take 0 (v := .int .i64 ((i : Int) + 1)) rfl (by kernel_rfl) (by kernel_rfl) (by kernel_rfl) (by kernel_rfl) (fun _ _ _ h => h) (by rfl) ?hy0 (by assumption) ?_
      case hy0 =>
        intro w' hSw
        clear hSw
        go_simp
      try simp only [Act.put, List.setIfInBounds_toArray, List.set_cons_zero, List.set_cons_succ]
      refine l_take 1 (v := .int .i64 ((i : Int) + 1)) rfl (by kernel_rfl) (by kernel_rfl) (by kernel_rfl) (by kernel_rfl) (fun _ _ _ h => h) (by rfl) ?hy1 (by assumption) ?_
      case hy1 =>
        intro w' hSw
        clear hSw
        go_simp
      try simp only [Act.put, List.setIfInBounds_toArray, List.set_cons_zero, List.set_cons_succ]
      refine l_take 2 (v := .int .i64 (i : Int)) rfl (by kernel_rfl) (by kernel_rfl) (by kernel_rfl) (by kernel_rfl) (fun _ _ _ h => h) (by rfl) ?hy2 (by assumption) ?_
      case hy2 =>
        intro w' hSw
        clear hSw
        go_simp
      try simp only [Act.put, List.setIfInBounds_toArray, List.set_cons_zero, List.set_cons_succ]
      refine l_take 3 (v := .pointer (some ⟨o, i * 20, none⟩)) rfl (by kernel_rfl) (by kernel_rfl) (by kernel_rfl) (by kernel_rfl) (fun _ _ _ h => h) (by rfl) ?hy3 (by assumption) ?_
      case hy3 =>
        intro w' hSw
        clear hSw
        go_simp
      try simp only [Act.put, List.setIfInBounds_toArray, List.set_cons_zero, List.set_cons_succ]
      refine l_take 4 (v := .agg c.toArray) rfl (by kernel_rfl) (by kernel_rfl) (by kernel_rfl) (by kernel_rfl) (fun _ _ _ h => h) (by rfl) ?hy4 (by assumption) ?_
      case hy4 =>
        intro w' hSw
        exact load_run 32 _ rfl o (i * 20) rfl c _ (at_mid hSw.1 (i * 20) _ (by rw [c_h.len]; exact hmid.out)) Tryd.underlying32 rfl c_h.il
      try simp only [Act.put, List.setIfInBounds_toArray, List.set_cons_zero, List.set_cons_succ]
      refine l_take 5 (v := .agg p.toArray) rfl (by kernel_rfl) (by kernel_rfl) (by kernel_rfl) (by kernel_rfl) (fun _ _ _ h => h) (by rfl) ?hy5 (by assumption) ?_
      case hy5 =>
        intro w' hSw
        exact load_run 32 _ rfl _ 0 rfl p _ (at_mid hSw.2 0 _ (by simp)) Tryd.underlying32 rfl p_h.il
      try simp only [Act.put, List.setIfInBounds_toArray, List.set_cons_zero, List.set_cons_succ]
      refine l_call 6 rfl (by kernel_rfl) (by rfl) (fun Kk hK => ?_)
      go_simp
      refine (Q2i.out _ hT'.out hZ'.out).mono ?_
      rintro e w5 ⟨rfl, g0⟩
      have g : Below wr.heap.size wr w5 := (Below.refl _ wr).drew.trans g0
      have C_5 := hid (hC.out.below g)
      have A_5 := hid (hA.out.below g)
      have B_5 := hid (hB.out.below g)
      have T_5 := hid (hT.out.grown g)
      have Z_5 := hid (hZ.out.grown g)
      have G_5 := hid (hG.out.trans (g.mono hG.out.size))
      clear g0 g hC hA hB hT hZ hG hT' hZ'
      have K5 := And.intro C_5.out A_5.out
      clear hHeld
      refine hK.out _ _ (Or.inr K5) ?_
      have hHeld := K5
      clear hK Kk K5
      try simp only [Act.put, List.setIfInBounds_toArray, List.set_cons_zero, List.set_cons_succ]
      refine l_take 7 (v := .pointer (some ⟨o, (i + 1) * 20, none⟩)) rfl (by kernel_rfl) (by kernel_rfl) (by kernel_rfl) (by kernel_rfl) (fun _ _ _ h => h) (by rfl) ?hy7 (by assumption) ?_
      case hy7 =>
        intro w' hSw
        clear hSw
        go_simp
      try simp only [Act.put, List.setIfInBounds_toArray, List.set_cons_zero, List.set_cons_succ]
      refine l_call 8 rfl (by kernel_rfl) (by rfl) (fun Kk hK => ?_)
      refine store_mid 32 82 _ _ rfl o ((i + 1) * 20) d R rfl rfl C_5.out (by rw [d_h.len, hRl.out]; omega) d_h.is d_h.one (fun F hF hO => ?_)
      refine hK.out _ _ (Or.inl rfl) ?_
      clear hK Kk hHeld
      try simp only [Act.put, List.setIfInBounds_toArray, List.set_cons_zero, List.set_cons_succ]
      refine l_done (by kernel_rfl) ?_ _
      have C_6 : Hid (At 82 F o (fm (rowAt f (i + 1)))) := by unfold Hid; rw [← hset.out]; rw [d_h.len] at hF; exact hF
      have A_6 := hid (hO.at A_5.out (by omega))
      have B_6 := hid (hO.at B_5.out (by omega))
      have T_6 := hid (T_5.out.below (below_oth hO (show w.heap.size ≤ o by omega) G_5.out.size) HT.out)
      have Z_6 := hid (Z_5.out.below (below_oth hO (show w.heap.size ≤ o by omega) G_5.out.size) HZ.out)
      have G_6 := hid (Oth.bel G_5.out hO (by omega))
      clear hF hO A_5 B_5 C_5 T_5 Z_5 G_5 hset hmid Q2i
      go_wp2_with fail
      go_roundw
      case rel => exact ⟨i + 1, by omega, by go_num, C_6, A_6, B_6, T_6, Z_6, G_6⟩
      case measure => simp [intOf]; omega
    · obtain rfl : i = 15 := by omega
      have hRl : Hid ((fm (rowAt f 15)).length = 320) := by unfold Hid; rw [fm_len, row_len]
      have hRo := hid (fm_one (rowAt f 15))
      have hRi := hid (fm_il (rowAt f 15) (row_len _ _))
      have hRs := hid (fm_is (rowAt f 15) (row_len _ _))
      obtain ⟨R, hR⟩ : ∃ R, Hid (fm (rowAt f 15) = R) := ⟨_, rfl⟩
      rw [hR.out] at hC hRl hRo hRi hRs
      have e16 : ¬ (((15 : Nat) : Int) + 1 < 16) := by omega
      clear Q2 Q1 hlt hi
      go_wp2_with (first | refine wpList_load_mid rfl 82 _ rfl o 0 rfl R _ (at_mid hC.out 0 _ (by simp)) Tryd.underlying82 rfl hRi.out ?_ | refine list_store_whole rfl 82 _ _ rfl (w.heap.size + 1) R _ rfl rfl hB.out (hRl.out.trans hZl.out.symm) hRs.out hRo.out w.heap.size w hG.out (by omega) (fun F hF hBF => ?_) | fail)
      exact bodyPost_ret (v := .agg R.toArray) (results_mid (Tryd.results51) _ F (w.heap.size + 1) 0 R _ rfl hF.range Tryd.underlying82 rfl hRi.out) rfl ⟨by rw [hR.out], hBF⟩
/-- What multiples answers: sixteen points, each so many times the point. -/
theorem multiples_p (p : P4) (P : Pt) (hp : p.Is P) : ∃ f : Nat → P4, (∀ j, (f j).Is (Pt.mul j P)) ∧
    ∀ w : World, GtwiceD w → Gf w → Calls Tryd.prog 51 #[.agg p.l.toArray] w fun e w' => e = .returned (.agg (fm (rowAt f 15)).toArray) ∧ Below w.heap.size w w' := by
  obtain ⟨f, h1, h2, h3⟩ := chain_p p P hp
  exact ⟨f, h1, fun w hT hZ => multiples_w f p.l p.pl h2 h3 w hT hZ⟩
end Go.Proofs.YtedhfimjcpbcpaaDoor.Ed

/-
  What combo's Mul and Both need beside their walks: the sums step by step as points, words in memory, what abides. Conditions: as each theorem says.
-/
namespace Go.Proofs.YtedhfimjcpbcpaaDoor.Ed
open Go.RowKit
set_option linter.unusedVariables false
set_option linter.unusedSimpArgs false

theorem mul_more16 (v d : Nat) (P : Pt) : (Pt.mul 16 (Pt.mul v P)).add (Pt.mul d P) = Pt.mul (16 * v + d) P := by rw [Pt.mul_sum, Pt.mul_mul]
theorem both_more (v u d e : Nat) (P Q : Pt) : ((Pt.mul 16 ((Pt.mul v P).add (Pt.mul u Q))).add (Pt.mul d P)).add (Pt.mul e Q) = (Pt.mul (16 * v + d) P).add (Pt.mul (16 * u + e) Q) := by
  rw [Pt.mul_pts, ← mul_more16, ← mul_more16]
  generalize Pt.mul 16 (Pt.mul v P) = A
  generalize Pt.mul 16 (Pt.mul u Q) = B
  generalize Pt.mul d P = C
  generalize Pt.mul e Q = D
  rw [Pt.add_assoc A B C, Pt.add_comm B C, ← Pt.add_assoc A C B, Pt.add_assoc (A.add C) B D]
/-- The sums of Mul, digit by digit: of digits turned round. -/
theorem sums_r (P : Pt) (f : Nat → P4) (hf : ∀ j, (f j).Is (Pt.mul j P)) : ∃ F G : List (Nat × Nat) → P4, (∀ ys, (F ys).Is (Pt.mul (va ys.reverse) P)) ∧
    (∀ w : World, Calls Tryd.prog 33 #[] w fun e w' => e = .returned (.agg (F []).l.toArray) ∧ Below w.heap.size w w') ∧
    (∀ ys (w : World), Gf w → Calls Tryd.prog 53 #[.agg (F ys).l.toArray] w fun e w' => e = .returned (.agg (G ys).l.toArray) ∧ Below w.heap.size w w') ∧
    (∀ ys (d : Nat × Nat) (w : World), GtwiceD w → Gf w → Calls Tryd.prog 28 #[.agg (G ys).l.toArray, .agg (f d.1).l.toArray] w fun e w' => e = .returned (.agg (F (d :: ys)).l.toArray) ∧ Below w.heap.size w w') := by
  obtain ⟨c0, h0, q0⟩ := zero_p
  have st : ∀ (v : Nat) (c : P4), c.Is (Pt.mul v P) → ∃ g : P4, ∀ d : Nat, ∃ n : P4, n.Is (Pt.mul (16 * v + d) P) ∧ (∀ w : World, Gf w → Calls Tryd.prog 53 #[.agg c.l.toArray] w fun e w' => e = .returned (.agg g.l.toArray) ∧ Below w.heap.size w w') ∧
      (∀ w : World, GtwiceD w → Gf w → Calls Tryd.prog 28 #[.agg g.l.toArray, .agg (f d).l.toArray] w fun e w' => e = .returned (.agg n.l.toArray) ∧ Below w.heap.size w w') := fun v c hc => by
    obtain ⟨g, hg, q⟩ := sixteen_p c _ hc
    refine ⟨g, fun d => ?_⟩
    obtain ⟨n, hn, q2⟩ := add_p g (f d) _ _ hg (hf d)
    exact ⟨n, by rw [← mul_more16]; exact hn, q, q2⟩
  let H : (r : List (Nat × Nat)) → { c : P4 // c.Is (Pt.mul (va r.reverse) P) } := fun r => List.rec (motive := fun r => { c : P4 // c.Is (Pt.mul (va r.reverse) P) }) ⟨c0, h0⟩
    (fun d r x => ⟨Classical.choose (Classical.choose_spec (st _ x.1 x.2) d.1), by rw [List.reverse_cons, va_more]; exact (Classical.choose_spec (Classical.choose_spec (st _ x.1 x.2) d.1)).1⟩) r
  exact ⟨fun ys => (H ys).1, fun ys => Classical.choose (st _ (H ys).1 (H ys).2), fun ys => (H ys).2, q0, fun ys => (Classical.choose_spec (Classical.choose_spec (st _ (H ys).1 (H ys).2) 0)).2.1, fun ys d => (Classical.choose_spec (Classical.choose_spec (st _ (H ys).1 (H ys).2) d.1)).2.2⟩
/-- The sums of Mul, digit by digit. -/
theorem sums_p (P : Pt) (f : Nat → P4) (hf : ∀ j, (f j).Is (Pt.mul j P)) : ∃ F G : List (Nat × Nat) → P4, (∀ ys, (F ys).Is (Pt.mul (va ys) P)) ∧
    (∀ w : World, Calls Tryd.prog 33 #[] w fun e w' => e = .returned (.agg (F []).l.toArray) ∧ Below w.heap.size w w') ∧
    (∀ ys (w : World), Gf w → Calls Tryd.prog 53 #[.agg (F ys).l.toArray] w fun e w' => e = .returned (.agg (G ys).l.toArray) ∧ Below w.heap.size w w') ∧
    (∀ ys (d : Nat × Nat) (w : World), GtwiceD w → Gf w → Calls Tryd.prog 28 #[.agg (G ys).l.toArray, .agg (f d.1).l.toArray] w fun e w' => e = .returned (.agg (F (ys ++ [d])).l.toArray) ∧ Below w.heap.size w w') := by
  obtain ⟨F, G, h1, h2, h3, h4⟩ := sums_r P f hf
  refine ⟨fun ys => F ys.reverse, fun ys => G ys.reverse, fun ys => ?_, h2, fun ys => h3 _, fun ys d => ?_⟩
  · have h := h1 ys.reverse
    rwa [List.reverse_reverse] at h
  · have h := h4 ys.reverse d
    rwa [← show (ys ++ [d]).reverse = d :: ys.reverse by simp] at h
/-- The sums of Both, two digits at a time: of digits turned round. -/
theorem both_r (P Q : Pt) (f g : Nat → P4) (hf : ∀ j, (f j).Is (Pt.mul j P)) (hg : ∀ j, (g j).Is (Pt.mul j Q)) : ∃ F G : List (Nat × Nat) → P4, ∃ A : List (Nat × Nat) → Nat × Nat → P4, (∀ ys, (F ys).Is ((Pt.mul (va ys.reverse) P).add (Pt.mul (vb ys.reverse) Q))) ∧
    (∀ w : World, Calls Tryd.prog 33 #[] w fun e w' => e = .returned (.agg (F []).l.toArray) ∧ Below w.heap.size w w') ∧
    (∀ ys (w : World), Gf w → Calls Tryd.prog 53 #[.agg (F ys).l.toArray] w fun e w' => e = .returned (.agg (G ys).l.toArray) ∧ Below w.heap.size w w') ∧
    (∀ ys (d : Nat × Nat) (w : World), GtwiceD w → Gf w → Calls Tryd.prog 28 #[.agg (G ys).l.toArray, .agg (f d.1).l.toArray] w fun e w' => e = .returned (.agg (A ys d).l.toArray) ∧ Below w.heap.size w w') ∧
    (∀ ys (d : Nat × Nat) (w : World), GtwiceD w → Gf w → Calls Tryd.prog 28 #[.agg (A ys d).l.toArray, .agg (g d.2).l.toArray] w fun e w' => e = .returned (.agg (F (d :: ys)).l.toArray) ∧ Below w.heap.size w w') := by
  obtain ⟨c0, h0, q0⟩ := zero_p
  have st : ∀ (v u : Nat) (c : P4), c.Is ((Pt.mul v P).add (Pt.mul u Q)) → ∃ x : P4, ∀ d : Nat × Nat, ∃ y n : P4, n.Is ((Pt.mul (16 * v + d.1) P).add (Pt.mul (16 * u + d.2) Q)) ∧ (∀ w : World, Gf w → Calls Tryd.prog 53 #[.agg c.l.toArray] w fun e w' => e = .returned (.agg x.l.toArray) ∧ Below w.heap.size w w') ∧
      (∀ w : World, GtwiceD w → Gf w → Calls Tryd.prog 28 #[.agg x.l.toArray, .agg (f d.1).l.toArray] w fun e w' => e = .returned (.agg y.l.toArray) ∧ Below w.heap.size w w') ∧
      (∀ w : World, GtwiceD w → Gf w → Calls Tryd.prog 28 #[.agg y.l.toArray, .agg (g d.2).l.toArray] w fun e w' => e = .returned (.agg n.l.toArray) ∧ Below w.heap.size w w') := fun v u c hc => by
    obtain ⟨x, hx, q⟩ := sixteen_p c _ hc
    refine ⟨x, fun d => ?_⟩
    obtain ⟨y, hy, q2⟩ := add_p x (f d.1) _ _ hx (hf d.1)
    obtain ⟨n, hn, q3⟩ := add_p y (g d.2) _ _ hy (hg d.2)
    exact ⟨y, n, by rw [← both_more]; exact hn, q, q2, q3⟩
  have h0' : c0.Is ((Pt.mul (va []) P).add (Pt.mul (vb []) Q)) := by
    show c0.Is (Pt.zero.add Pt.zero)
    rw [Pt.add_zero]
    exact h0
  let H : (r : List (Nat × Nat)) → { c : P4 // c.Is ((Pt.mul (va r.reverse) P).add (Pt.mul (vb r.reverse) Q)) } := fun r => List.rec (motive := fun r => { c : P4 // c.Is ((Pt.mul (va r.reverse) P).add (Pt.mul (vb r.reverse) Q)) }) ⟨c0, h0'⟩
    (fun d r x => ⟨Classical.choose (Classical.choose_spec (Classical.choose_spec (st _ _ x.1 x.2) d)), by rw [List.reverse_cons, va_more, vb_more]; exact (Classical.choose_spec (Classical.choose_spec (Classical.choose_spec (st _ _ x.1 x.2) d))).1⟩) r
  exact ⟨fun ys => (H ys).1, fun ys => Classical.choose (st _ _ (H ys).1 (H ys).2), fun ys d => Classical.choose (Classical.choose_spec (st _ _ (H ys).1 (H ys).2) d), fun ys => (H ys).2, q0, fun ys => (Classical.choose_spec (Classical.choose_spec (Classical.choose_spec (st _ _ (H ys).1 (H ys).2) (0, 0)))).2.1, fun ys d => (Classical.choose_spec (Classical.choose_spec (Classical.choose_spec (st _ _ (H ys).1 (H ys).2) d))).2.2.1, fun ys d => (Classical.choose_spec (Classical.choose_spec (Classical.choose_spec (st _ _ (H ys).1 (H ys).2) d))).2.2.2⟩
/-- The sums of Both, two digits at a time. -/
theorem both_p (P Q : Pt) (f g : Nat → P4) (hf : ∀ j, (f j).Is (Pt.mul j P)) (hg : ∀ j, (g j).Is (Pt.mul j Q)) : ∃ F G : List (Nat × Nat) → P4, ∃ A : List (Nat × Nat) → Nat × Nat → P4, (∀ ys, (F ys).Is ((Pt.mul (va ys) P).add (Pt.mul (vb ys) Q))) ∧
    (∀ w : World, Calls Tryd.prog 33 #[] w fun e w' => e = .returned (.agg (F []).l.toArray) ∧ Below w.heap.size w w') ∧
    (∀ ys (w : World), Gf w → Calls Tryd.prog 53 #[.agg (F ys).l.toArray] w fun e w' => e = .returned (.agg (G ys).l.toArray) ∧ Below w.heap.size w w') ∧
    (∀ ys (d : Nat × Nat) (w : World), GtwiceD w → Gf w → Calls Tryd.prog 28 #[.agg (G ys).l.toArray, .agg (f d.1).l.toArray] w fun e w' => e = .returned (.agg (A ys d).l.toArray) ∧ Below w.heap.size w w') ∧
    (∀ ys (d : Nat × Nat) (w : World), GtwiceD w → Gf w → Calls Tryd.prog 28 #[.agg (A ys d).l.toArray, .agg (g d.2).l.toArray] w fun e w' => e = .returned (.agg (F (ys ++ [d])).l.toArray) ∧ Below w.heap.size w w') := by
  obtain ⟨F, G, A, h1, h2, h3, h4, h5⟩ := both_r P Q f g hf hg
  refine ⟨fun ys => F ys.reverse, fun ys => G ys.reverse, fun ys d => A ys.reverse d, fun ys => ?_, h2, fun ys => h3 _, fun ys d => h4 _ _, fun ys d => ?_⟩
  · have h := h1 ys.reverse
    rwa [List.reverse_reverse] at h
  · have h := h5 ys.reverse d
    rwa [← show (ys ++ [d]).reverse = d :: ys.reverse by simp] at h
/-- The four words of a number. -/
def ws (x : Nat) : List Nat := [x / 2 ^ (64 * 0) % 2 ^ 64, x / 2 ^ (64 * 1) % 2 ^ 64, x / 2 ^ (64 * 2) % 2 ^ 64, x / 2 ^ (64 * 3) % 2 ^ 64]
theorem ws_len (x : Nat) : (ws x).length = 4 := rfl
theorem ws_get (x i : Nat) (h : i < 4) : (ws x).getD i 0 = x / 2 ^ (64 * i) % 2 ^ 64 := by
  match i, h with
  | 0, _ => rfl
  | 1, _ => rfl
  | 2, _ => rfl
  | 3, _ => rfl
theorem ws_ww (x : Nat) : Ww (ws x) := by
  intro i
  by_cases h : i < 4
  · rw [ws_get x i h]; exact Nat.mod_lt _ (by decide)
  · rw [List.getD_eq_getElem?_getD, List.getElem?_eq_none (by rw [ws_len]; omega)]; decide
theorem four_ws (x : Nat) (hx : x < M4) : four x = .agg (wv (ws x)).toArray := by
  obtain ⟨a0, a1, a2, a3, -, -, -, -, e, -⟩ := four_open x hx
  unfold four ws wv
  simp only [List.map_cons, List.map_nil, Nat.mul_zero, Nat.pow_zero, Nat.div_one]
/-- A list of cells that fills four words. -/
structure Wl (L : List Value) : Prop where
  len : L.length = 4
  one : L.toArray.all (·.oneCell') = true
theorem Wl.il {L : List Value} (h : Wl L) : (Tryd.prog.info? 25).map (·.size) = some L.length := by rw [h.len]; kernel_rfl
theorem Wl.is {L : List Value} (h : Wl L) : (Tryd.prog.info? 25).map (·.size) = some L.toArray.size := by rw [List.size_toArray]; exact h.il
theorem ws_wl (x : Nat) : Wl (wv (ws x)) := ⟨rfl, by kernel_rfl⟩
/-- What fours answers, of words that nobody looks into. -/
theorem fours_l (n x y : Nat) (w : World) :
    CallsIn Fence.wide n Tryd.prog 52 #[.agg (wv (ws x)).toArray, .agg (wv (ws y)).toArray] w fun e w' => e = .returned (.func (.func 92) #[] #[.pointer (some ⟨w.heap.size, 0, none⟩), .pointer (some ⟨w.heap.size + 1, 0, none⟩)]) ∧
      At 25 w' w.heap.size (wv (ws x)) ∧ At 25 w' (w.heap.size + 1) (wv (ws y)) ∧ w'.heap.size = w.heap.size + 2 ∧ Below w.heap.size w w' := by
  refine (fours_in n _ _ _ _ _ _ _ _ w).mono ?_
  rintro e w' ⟨rfl, rfl⟩
  exact ⟨rfl, at_alloc (at_new2 _ _ _ _ rfl) _, at_new2 _ _ _ _ (by simp), by simp, ((Below.refl _ _).alloc (Nat.le_refl _) _).alloc (by simp) _⟩
/-- What abides by whatever turns from block B on. -/
theorem own_below {β : Type} {B : Nat} {I : β → World → Prop} (hs : ∀ s W, I s W → B ≤ W.heap.size) (h : ∀ s W W', I s W → Below B W W' → I s W') : OwnUp B I := fun s W W' row hi hg hr =>
  h s W W' hi ⟨hg.os, hg.tape, hg.output, hg.size, fun k hk => hg.block k (Nat.lt_of_lt_of_le hk (hs s W hi)) (fun e => by have := hr k e.symm; omega)⟩
theorem at_low {T : TypeId} {W W' : World} {b B : Nat} {L : List Value} (h : At T W b L) (hb : Below B W W') (hB : b < B) : At T W' b L := (hb.block b hB).trans h
end Go.Proofs.YtedhfimjcpbcpaaDoor.Ed

/-
  The program's Mul of layer 11: the walk, given what each call answers. Conditions: as each theorem says.
-/
namespace Go.Proofs.YtedhfimjcpbcpaaDoor.Ed
open Go.RowKit
set_option linter.unusedVariables false
set_option linter.unusedSimpArgs false

attribute [local go_sem] Oper.semAt_some
set_option maxRecDepth 100000 in
set_option maxHeartbeats 16000000 in
theorem mul_w (f : Nat → P4) (F G : List (Nat × Nat) → P4) (p : List Value) (p_h : Pl p) (x : Nat)
    (Q1 : Hid (∀ w : World, GtwiceD w → Gf w → Calls Tryd.prog 51 #[.agg p.toArray] w fun e w' => e = .returned (.agg (fm (rowAt f 15)).toArray) ∧ Below w.heap.size w w'))
    (Q2 : Hid (∀ w : World, Calls Tryd.prog 33 #[] w fun e w' => e = .returned (.agg (F []).l.toArray) ∧ Below w.heap.size w w'))
    (Q3 : Hid (∀ ys (w : World), Gf w → Calls Tryd.prog 53 #[.agg (F ys).l.toArray] w fun e w' => e = .returned (.agg (G ys).l.toArray) ∧ Below w.heap.size w w'))
    (Q4 : Hid (∀ ys (d : Nat × Nat) (w : World), GtwiceD w → Gf w → Calls Tryd.prog 28 #[.agg (G ys).l.toArray, .agg (f d.1).l.toArray] w fun e w' => e = .returned (.agg (F (ys ++ [d])).l.toArray) ∧ Below w.heap.size w w'))
    (w : World) (T_0 : Hid (GtwiceD w)) (Z_0 : Hid (Gf w)) :
    Calls Tryd.prog 9 #[.agg (wv (ws x)).toArray, .agg p.toArray] w fun e w' => e = .returned (.agg (F (tk x 0 64)).l.toArray) ∧ Below w.heap.size w w' := by
  have k_h := ws_wl x
  have hws0 : Hid (∀ n (w : World), CallsIn Fence.wide n Tryd.prog 52 #[.agg (wv (ws x)).toArray, .agg (wv (ws 0)).toArray] w fun e w' => e = .returned (.func (.func 92) #[] #[.pointer (some ⟨w.heap.size, 0, none⟩), .pointer (some ⟨w.heap.size + 1, 0, none⟩)]) ∧
      At 25 w' w.heap.size (wv (ws x)) ∧ At 25 w' (w.heap.size + 1) (wv (ws 0)) ∧ w'.heap.size = w.heap.size + 2 ∧ Below w.heap.size w w') := fun n w => fours_l n x 0 w
  have hTl : Hid (∀ (s p : Nat) (w0 : World), s < p → p + 1 < w0.heap.size → At 25 w0 p (wv (ws x)) → At 25 w0 (p + 1) (wv (ws 0)) → Telling2 Tryd.prog 92 #[.pointer (some ⟨p, 0, none⟩), .pointer (some ⟨p + 1, 0, none⟩)] (fun x : Nat × Nat => #[.int .u64 (x.1 : Int), .int .u64 (x.2 : Int)]) (fun _ x => x.1 < 16 ∧ x.2 < 16) (KpS s (w0.heap.size + 1)) (fun xs => xs = tk x 0 64) w0) :=
    fun s p w0 h1 h2 h3 h4 => fours_tells x 0 (ws x) (ws 0) (ws_len _) (ws_len _) (ws_ww _) (ws_ww _) (ws_get x) (ws_get 0) s p w0 h1 h2 h3 h4
  obtain ⟨K, hK⟩ : ∃ K, wv (ws x) = K := ⟨_, rfl⟩
  have hz4 : wv (ws 0) = [.int .u64 0, .int .u64 0, .int .u64 0, .int .u64 0] := by unfold wv ws; simp only [Nat.zero_div, Nat.zero_mod, List.map_cons, List.map_nil]; rfl
  rw [hK] at k_h hws0 hTl ⊢
  rw [hz4] at hws0 hTl
  clear hK hz4
  obtain ⟨R, hR⟩ : ∃ R, Hid (fm (rowAt f 15) = R) := ⟨_, rfl⟩
  have R_l : Hid (R.length = 320) := by unfold Hid; rw [← hR.out, fm_len, row_len]
  have R_s : Hid ((Tryd.prog.info? 82).map (·.size) = some R.toArray.size) := by unfold Hid; rw [← hR.out]; exact fm_is _ (row_len _ _)
  have R_o : Hid (R.toArray.all (·.oneCell') = true) := by unfold Hid; rw [← hR.out]; exact fm_one _
  have R_m : Hid (∀ d, d < 16 → (R.drop (d * 20)).take 20 = (f d).l) := by unfold Hid; rw [← hR.out]; exact fun d hd => fm_mid _ d _ (row_get f 15 d (by omega) hd)
  rw [hR.out] at Q1
  obtain ⟨Z0, hZ0⟩ : ∃ R, Hid (fm (List.replicate 16 nilP) = R) := ⟨_, rfl⟩
  have hz16 : Tryd.zeroCells82 = Z0.toArray := by rw [← hZ0.out]; exact zero_16
  have Z_l : Hid (R.length = Z0.length) := by unfold Hid; rw [R_l.out, ← hZ0.out, fm_len]; rfl
  obtain ⟨c, hc⟩ : ∃ c, Hid ((F []).l = c) := ⟨_, rfl⟩
  have c_h : Pl c := by rw [← hc.out]; exact (F []).pl
  rw [hc.out] at Q2
  refine calls_marks Tryd.func9 rfl ?_
  simp only [Tryd.ntmps9, List.size_toArray, List.length_cons, List.length_nil, Nat.reduceAdd, Nat.reduceSub, Array.replicate_succ, Array.replicate_zero, List.push_toArray, List.append_toArray, List.nil_append, List.cons_append]
  go_upto_region 1 with fail
  have hT := hid T_0.out.lt
  have hZ := hid Z_0.out.lt
  have g01 : Below w.heap.size w (((w.alloc (.cells K.toArray 25)).alloc (.cells p.toArray 32)).alloc (.cells #[.int .u64 0, .int .u64 0, .int .u64 0, .int .u64 0, .int .u64 0, .int .u64 0, .int .u64 0, .int .u64 0, .int .u64 0, .int .u64 0, .int .u64 0, .int .u64 0, .int .u64 0, .int .u64 0, .int .u64 0, .int .u64 0, .int .u64 0, .int .u64 0, .int .u64 0, .int .u64 0] 32)) := (((Below.refl _ _).alloc (Nat.le_refl _) _).alloc (by simp) _).alloc (by simp; omega) _
  refine wp_cut (fun V => At 25 V w.heap.size K ∧ At 32 V (w.heap.size + 1) p ∧ At 32 V (w.heap.size + 1 + 1) [.int .u64 0, .int .u64 0, .int .u64 0, .int .u64 0, .int .u64 0, .int .u64 0, .int .u64 0, .int .u64 0, .int .u64 0, .int .u64 0, .int .u64 0, .int .u64 0, .int .u64 0, .int .u64 0, .int .u64 0, .int .u64 0, .int .u64 0, .int .u64 0, .int .u64 0, .int .u64 0] ∧ Below w.heap.size w V) ⟨at_alloc (at_alloc (at_new2 _ _ _ _ rfl) _) _, at_alloc (at_new2 _ _ _ _ (by simp)) _, at_new2 _ _ _ _ (by simp), g01⟩ ?_
  clear g01
  rintro w1 ⟨k0, k1, k2, k3⟩
  have A_1 := hid k0
  have B_1 := hid k1
  have C_1 := hid k2
  have G_1 := hid k3
  clear k0 k1 k2 k3
  go_wp2_with (first | refine wpList_load_mid rfl 32 _ rfl (w.heap.size + 1) 0 rfl p _ (at_mid B_1.out 0 _ (by simp)) Tryd.underlying32 rfl p_h.il ?_ | fail)
  refine (Q1.out _ (T_0.out.grown G_1.out) (Z_0.out.grown G_1.out)).mono ?_
  rintro e w2 ⟨rfl, g⟩
  have A_2 := hid (A_1.out.below g)
  have C_2 := hid (C_1.out.below g)
  have G_2 := hid (G_1.out.trans (g.mono G_1.out.size))
  clear g A_1 B_1 C_1 G_1
  go_wp2_with fail
  refine (Q2.out _).mono ?_
  rintro e w3 ⟨rfl, g⟩
  have A_3 := hid (A_2.out.below g)
  have C_3 := hid (C_2.out.below g)
  have G_3 := hid (G_2.out.trans (g.mono G_2.out.size))
  have lC : w.heap.size + 1 + 1 < w3.heap.size := C_3.out.lt
  clear g A_2 C_2 G_2
  go_wp2_with (first | (refine list_store_oth rfl 82 _ _ rfl w3.heap.size R Z0 rfl rfl (at_alloc (at_new2 _ _ _ _ rfl) _) Z_l.out R_s.out R_o.out (fun wq hC hO => ?_)) | (refine list_store_oth rfl 32 _ _ rfl (w3.heap.size + 1) c [.int .u64 0, .int .u64 0, .int .u64 0, .int .u64 0, .int .u64 0, .int .u64 0, .int .u64 0, .int .u64 0, .int .u64 0, .int .u64 0, .int .u64 0, .int .u64 0, .int .u64 0, .int .u64 0, .int .u64 0, .int .u64 0, .int .u64 0, .int .u64 0, .int .u64 0, .int .u64 0] rfl rfl (hO.at (at_new2 _ _ _ _ (by simp)) (by omega)) c_h.len c_h.is c_h.one (fun w4 hC2 hO2 => ?_)) | (refine wpList_load_mid rfl 25 _ rfl w.heap.size 0 rfl K _ (at_mid (hO2.at (hO.at (at_alloc (at_alloc A_3.out _) _) (by omega)) (by omega)) 0 _ (by simp)) Tryd.underlying25 rfl k_h.il ?_) | fail)
  have g : Below w3.heap.size w3 w4 := Oth.bel (Oth.bel (((Below.refl _ _).alloc (Nat.le_refl _) _).alloc (by simp) _) hO (Nat.le_refl _)) hO2 (by omega)
  have A_4 := hid (A_3.out.below g)
  have C_4 := hid (C_3.out.below g)
  have G_4 := hid (G_3.out.trans (g.mono G_3.out.size))
  have R_4 := hid (hO2.at hC (by omega))
  have S_4 := hid hC2
  obtain ⟨a, ha⟩ : ∃ a, w3.heap.size = a := ⟨_, rfl⟩
  rw [ha] at lC R_4 S_4 ⊢
  clear g hC hC2 hO hO2 A_3 C_3 G_3 ha
  refine (callsIn_wide.1 (hws0.out 5 w4)).mono ?_
  rintro e w5 ⟨rfl, hx, hy, hs, g⟩
  have lS : a + 1 < w4.heap.size := S_4.out.lt
  have H5 := hTl.out (a + 1) w4.heap.size w5 lS (by omega) hx hy
  have C_5 := hid (C_4.out.below g)
  have G_5 := hid (G_4.out.trans (g.mono G_4.out.size))
  have R_5 := hid (R_4.out.below g)
  have S_5 := hid (S_4.out.below g)
  clear g hx hy A_4 C_4 G_4 R_4 S_4 Q1 Q2 hws0 hTl
  go_wp2_with fail
  have hmx : Tryd.prog.follows .mixedOrders = true := by kernel_rfl
  obtain ⟨q, hq⟩ : ∃ q, w4.heap.size = q := ⟨_, rfl⟩
  rw [hq] at hs lS H5 ⊢
  refine (wpIn_wide (n := 5)).1 ?_
  refine wpIn_telling2 (w := w5) (gf := 92) (lb := #[.pointer (some ⟨q, 0, none⟩), .pointer (some ⟨q + 1, 0, none⟩)]) rfl (enters_of Tryd.func92 (by kernel_rfl) rfl)
    H5 (fun _ => rfl) (fun h h' => h.trans h') (fun W o' => KpS.put (by omega) W o')
    (fun pre W => w5.heap.size ≤ W.heap.size ∧ At 32 W (a + 1) (F pre).l ∧ At 82 W a R ∧ At 32 W (w.heap.size + 1 + 1) [.int .u64 0, .int .u64 0, .int .u64 0, .int .u64 0, .int .u64 0, .int .u64 0, .int .u64 0, .int .u64 0, .int .u64 0, .int .u64 0, .int .u64 0, .int .u64 0, .int .u64 0, .int .u64 0, .int .u64 0, .int .u64 0, .int .u64 0, .int .u64 0, .int .u64 0, .int .u64 0] ∧ Below w.heap.size w W)
    (own_below (fun s W h => h.1) (fun s W W' h hb => ⟨Nat.le_trans h.1 hb.size, at_low h.2.1 hb (by omega), at_low h.2.2.1 hb (by omega), at_low h.2.2.2.1 hb (by omega), h.2.2.2.2.trans (hb.mono (by omega))⟩))
    ⟨Nat.le_refl _, by rw [hc.out]; exact S_5.out, R_5.out, C_5.out, G_5.out⟩
    (fun x => { tmps := #[.agg K.toArray, .agg p.toArray, .pointer (some ⟨w.heap.size, 0, none⟩), .pointer (some ⟨w.heap.size + 1, 0, none⟩), .pointer (some ⟨w.heap.size + 1 + 1, 0, none⟩), .pointer (some ⟨a, 0, none⟩), .pointer (some ⟨a + 1, 0, none⟩), .int .u64 (x.1 : Int), .agg p.toArray, .agg R.toArray, .agg c.toArray, .agg K.toArray, .agg #[.int .u64 0, .int .u64 0, .int .u64 0, .int .u64 0], .func (.func 92) #[] #[.pointer (some ⟨q, 0, none⟩), .pointer (some ⟨q + 1, 0, none⟩)], .int .u64 (x.1 : Int), .int .u64 (x.2 : Int), undef, undef, undef, undef, undef, undef, undef], defers := [] }) ?assign ?body ?done
  case assign =>
    intro n l x W K hK
    gi_wp2
    exact hK
  case body =>
    rintro n pre d W hW ⟨hW2, hS, hR2, hC, hG⟩ ⟨hd, -⟩
    have Q4d : Hid (∀ w : World, GtwiceD w → Gf w → Calls Tryd.prog 28 #[.agg (G pre).l.toArray, .agg (f d.1).l.toArray] w fun e w' => e = .returned (.agg (F (pre ++ [d])).l.toArray) ∧ Below w.heap.size w w') := fun w => Q4.out pre d w
    have Q3d : Hid (∀ w : World, Gf w → Calls Tryd.prog 53 #[.agg (F pre).l.toArray] w fun e w' => e = .returned (.agg (G pre).l.toArray) ∧ Below w.heap.size w w') := fun w => Q3.out pre w
    have hmid : Hid ((R.drop (d.1 * 20)).take 20 = (f d.1).l) := R_m.out d.1 hd
    have hn : Hid (F (pre ++ [d]) = F (pre ++ [d])) := rfl
    have s_h : Pl (F pre).l := (F pre).pl
    have m_h : Pl (f d.1).l := (f d.1).pl
    have n_h : Pl (F (pre ++ [d])).l := (F (pre ++ [d])).pl
    obtain ⟨s, hs1⟩ : ∃ s, (F pre).l = s := ⟨_, rfl⟩
    obtain ⟨g, hg1⟩ : ∃ g, (G pre).l = g := ⟨_, rfl⟩
    obtain ⟨m, hm1⟩ : ∃ m, (f d.1).l = m := ⟨_, rfl⟩
    obtain ⟨t, ht1⟩ : ∃ t, Hid ((F (pre ++ [d])).l = t) := ⟨_, rfl⟩
    rw [hs1] at hS Q3d s_h
    rw [hg1] at Q3d Q4d
    rw [hm1] at hmid Q4d m_h
    rw [ht1.out] at Q4d n_h
    obtain ⟨dn, hdn⟩ : ∃ n, d.1 = n := ⟨_, rfl⟩
    rw [hdn] at hd hmid
    rw [hdn]
    have hd' : (dn : Int) < 16 := by omega
    have S_6 := hid hS
    have R_6 := hid hR2
    have C_6 := hid hC
    have G_6 := hid hG
    have T_6 := hid (T_0.out.grown hG)
    have Z_6 := hid (Z_0.out.grown hG)
    have T_7 := hid (T_6.out.grown (Below.refl _ W).drew)
    have Z_7 := hid (Z_6.out.grown (Below.refl _ W).drew)
    have HW := hid hW
    have K0 : At 32 W.drew (a + 1) s ∧ At 82 W.drew a R := ⟨hS.drew, hR2.drew⟩
    clear hW hW2 hS hR2 hC hG hs1 hg1 hm1 hdn Q3 Q4 hn S_5 R_5 C_5 G_5 H5
    gi_wp2
    refine wpIn_region_late (L := 6) (S := fun w' => At 32 w' (a + 1) s ∧ At 82 w' a R) hmx (nodefer_of (by simp)) (by rintro ⟨a, w, h⟩; exact h) K0 (fun hHeld => ?_)
    clear K0
    refine l_take 0 (v := .agg s.toArray) rfl (by kernel_rfl) (by kernel_rfl) (by kernel_rfl) (by kernel_rfl) (fun _ _ _ h => h) (by rfl) ?hy0 (by assumption) ?_
    case hy0 =>
      intro w' hSw
      exact load_run 32 _ rfl _ 0 rfl s _ (at_mid hSw.1 0 _ (by simp)) Tryd.underlying32 rfl s_h.il
    try simp only [Act.put, List.setIfInBounds_toArray, List.set_cons_zero, List.set_cons_succ]
    refine l_take 2 (v := .int .u64 (dn : Int)) rfl (by kernel_rfl) (by kernel_rfl) (by kernel_rfl) (by kernel_rfl) (fun _ _ _ h => h) (by rfl) ?hy2 (by assumption) ?_
    case hy2 =>
      intro w' hSw
      clear hSw
      go_simp
    try simp only [Act.put, List.setIfInBounds_toArray, List.set_cons_zero, List.set_cons_succ]
    refine l_take 3 (v := .pointer (some ⟨a, dn * 20, none⟩)) rfl (by kernel_rfl) (by kernel_rfl) (by kernel_rfl) (by kernel_rfl) (fun _ _ _ h => h) (by rfl) ?hy3 (by assumption) ?_
    case hy3 =>
      intro w' hSw
      clear hSw
      go_simp
    try simp only [Act.put, List.setIfInBounds_toArray, List.set_cons_zero, List.set_cons_succ]
    refine l_take 4 (v := .agg m.toArray) rfl (by kernel_rfl) (by kernel_rfl) (by kernel_rfl) (by kernel_rfl) (fun _ _ _ h => h) (by rfl) ?hy4 (by assumption) ?_
    case hy4 =>
      intro w' hSw
      exact load_run 32 _ rfl a (dn * 20) rfl m _ (at_mid hSw.2 (dn * 20) _ (by rw [m_h.len]; exact hmid.out)) Tryd.underlying32 rfl m_h.il
    try simp only [Act.put, List.setIfInBounds_toArray, List.set_cons_zero, List.set_cons_succ]
    refine l_call 1 rfl (by kernel_rfl) (by rfl) (fun Kk hK => ?_)
    go_simp
    refine (Q3d.out _ Z_7.out).mono ?_
    rintro e w8 ⟨rfl, g0⟩
    have gg : Below W.heap.size W w8 := (Below.refl _ W).drew.trans g0
    have S_8 := hid (S_6.out.below gg)
    have R_8 := hid (R_6.out.below gg)
    have C_8 := hid (C_6.out.below gg)
    have G_8 := hid (G_6.out.trans (gg.mono G_6.out.size))
    have T_8 := hid (T_6.out.grown gg)
    have Z_8 := hid (Z_6.out.grown gg)
    have B_8 := hid gg
    clear g0 gg T_7 Z_7
    have K8 := And.intro S_8.out R_8.out
    clear hHeld
    refine hK.out _ _ (Or.inr K8) ?_
    have hHeld := K8
    clear hK Kk K8
    try simp only [Act.put, List.setIfInBounds_toArray, List.set_cons_zero, List.set_cons_succ]
    refine l_call 5 rfl (by kernel_rfl) (by rfl) (fun Kk hK => ?_)
    go_simp
    refine (Q4d.out _ T_8.out Z_8.out).mono ?_
    rintro e w9 ⟨rfl, gg⟩
    have S_9 := hid (S_8.out.below gg)
    have R_9 := hid (R_8.out.below gg)
    have C_9 := hid (C_8.out.below gg)
    have G_9 := hid (G_8.out.trans (gg.mono G_8.out.size))
    have B_9 := hid (B_8.out.trans (gg.mono B_8.out.size))
    clear gg S_8 R_8 C_8 G_8 B_8 T_8 Z_8
    have K8 := And.intro S_9.out R_9.out
    clear hHeld
    refine hK.out _ _ (Or.inr K8) ?_
    have hHeld := K8
    clear hK Kk K8
    try simp only [Act.put, List.setIfInBounds_toArray, List.set_cons_zero, List.set_cons_succ]
    refine l_call 6 rfl (by kernel_rfl) (by rfl) (fun Kk hK => ?_)
    refine store_oth 32 _ _ rfl (a + 1) t s rfl rfl S_9.out (n_h.len.trans s_h.len.symm) n_h.is n_h.one (fun V hV hO => ?_)
    refine hK.out _ _ (Or.inl rfl) ?_
    clear hK Kk hHeld
    try simp only [Act.put, List.setIfInBounds_toArray, List.set_cons_zero, List.set_cons_succ]
    refine l_done (by kernel_rfl) ?_ _
    have hsz := HW.out
    have hlt := R_9.out.lt
    have hb9 := B_9.out.size
    have E1 : Hid (V.heap[w5.heap.size]? = W.heap[w5.heap.size]?) := (hO.other _ (by omega) (by omega)).trans (B_9.out.block _ (by omega))
    have E2 : Hid (V.heap[w5.heap.size + 1]? = W.heap[w5.heap.size + 1]?) := (hO.other _ (by omega) (by omega)).trans (B_9.out.block _ (by omega))
    have E3 : Hid (KpS (a + 1) (w5.heap.size + 1) W V) := ⟨(B_9.out.mono (by omega)).trans (below_oth hO (Nat.le_refl _) (by omega)), fun j o h1 h2 h3 => by
      have hj := (Array.getElem?_eq_some_iff.1 h3).1
      exact (hO.other j (by omega) (by omega)).trans ((B_9.out.block j hj).trans h3)⟩
    have E4 : Hid (w5.heap.size ≤ V.heap.size ∧ At 32 V (a + 1) (F (pre ++ [d])).l ∧ At 82 V a R ∧ At 32 V (w.heap.size + 1 + 1) [.int .u64 0, .int .u64 0, .int .u64 0, .int .u64 0, .int .u64 0, .int .u64 0, .int .u64 0, .int .u64 0, .int .u64 0, .int .u64 0, .int .u64 0, .int .u64 0, .int .u64 0, .int .u64 0, .int .u64 0, .int .u64 0, .int .u64 0, .int .u64 0, .int .u64 0, .int .u64 0] ∧ Below w.heap.size w V) :=
      ⟨by have := hO.size; omega, by rw [ht1.out]; exact hV, hO.at R_9.out (by omega), hO.at C_9.out (by omega), Oth.bel G_9.out hO (by omega)⟩
    clear hsz hlt hb9 S_6 R_6 C_6 G_6 T_6 Z_6 S_9 R_9 C_9 G_9 B_9 hV hO hmid
    simp only [noPanic]
    gi_wp2
    exact ⟨⟨E1.out, E2.out⟩, E3.out, E4.out⟩
  case done =>
    rintro xs W rfl ⟨hW2, hS, hR2, hC, hG⟩ hD
    have s_h : Pl (F (tk x 0 64)).l := (F (tk x 0 64)).pl
    obtain ⟨s, hs1⟩ : ∃ s, Hid ((F (tk x 0 64)).l = s) := ⟨_, rfl⟩
    rw [hs1.out] at hS s_h
    have S_6 := hid hS
    have C_6 := hid hC
    have G_6 := hid hG
    have D_6 := hid hD
    clear hW2 hS hR2 hC hG hD Q3 Q4 S_5 R_5 C_5 G_5 H5
    go_wp2_with (first | refine wpList_load_mid rfl 32 _ rfl (a + 1) 0 rfl s _ (at_mid S_6.out 0 _ (by simp)) Tryd.underlying32 rfl s_h.il ?_ | refine list_store_oth rfl 32 _ _ rfl (w.heap.size + 1 + 1) s [.int .u64 0, .int .u64 0, .int .u64 0, .int .u64 0, .int .u64 0, .int .u64 0, .int .u64 0, .int .u64 0, .int .u64 0, .int .u64 0, .int .u64 0, .int .u64 0, .int .u64 0, .int .u64 0, .int .u64 0, .int .u64 0, .int .u64 0, .int .u64 0, .int .u64 0, .int .u64 0] rfl rfl C_6.out s_h.len s_h.is s_h.one (fun V hC hO => ?_) | fail)
    have hlt := (Array.getElem?_eq_some_iff.1 D_6.out).1
    have h5 : a + 1 + 1 ≤ w5.heap.size := by omega
    have HDV : V.heap[w5.heap.size]? = some (.deferred (some [])) := (hO.other _ hlt (by omega)).trans D_6.out
    have HC2 : ∀ o', At 32 (V.putObj w5.heap.size o') (w.heap.size + 1 + 1) s := fun o' => (World.putObj_heap_other (by omega)).trans hC
    refine ⟨by simp, .inl ⟨_, _, rfl, run_takeDeferred HDV, ?_⟩⟩
    exact ⟨.agg s.toArray, results_mid (Tryd.results9) _ _ (w.heap.size + 1 + 1) 0 s _ rfl (HC2 _).range Tryd.underlying32 rfl s_h.il, by rw [hs1.out], (Oth.bel G_6.out hO (by omega)).trans (belowK_b (w := w) (Nat.le_refl _) _ w5.heap.size _ _ (by omega) HDV rfl rfl)⟩
theorem mul_p (p : P4) (P : Pt) (hp : p.Is P) (x : Nat) (hx : x < M4) : ∃ c : P4, c.Is (Pt.mul x P) ∧ ∀ w : World, GtwiceD w → Gf w → Calls Tryd.prog 9 #[.agg (wv (ws x)).toArray, .agg p.l.toArray] w fun e w' => e = .returned (.agg c.l.toArray) ∧ Below w.heap.size w w' := by
  obtain ⟨f, hf, q1⟩ := multiples_p p P hp
  obtain ⟨F, G, hF, q2, q3, q4⟩ := sums_p P f hf
  have hx2 : x < 16 ^ 64 := Nat.lt_of_lt_of_le hx (by decide +kernel)
  refine ⟨F (tk x 0 64), ?_, fun w hT hZ => mul_w f F G p.l p.pl x q1 q2 q3 q4 w hT hZ⟩
  have h := hF (tk x 0 64)
  rwa [(va_tk x 0 hx2 (by decide)).1] at h
end Go.Proofs.YtedhfimjcpbcpaaDoor.Ed

/-
  The program's Both of layer 11: the walk, given what each call answers. Conditions: as each theorem says.
-/
namespace Go.Proofs.YtedhfimjcpbcpaaDoor.Ed
open Go.RowKit
set_option linter.unusedVariables false
set_option linter.unusedSimpArgs false

attribute [local go_sem] Oper.semAt_some
/-- A list of cells that fills sixteen points. -/
structure Al (L : List Value) : Prop where
  len : L.length = 320
  one : L.toArray.all (·.oneCell') = true
theorem Al.il {L : List Value} (h : Al L) : (Tryd.prog.info? 82).map (·.size) = some L.length := by rw [h.len]; kernel_rfl
theorem Al.is {L : List Value} (h : Al L) : (Tryd.prog.info? 82).map (·.size) = some L.toArray.size := by rw [List.size_toArray]; exact h.il
theorem row_al (f : Nat → P4) : Al (fm (rowAt f 15)) := ⟨by rw [fm_len, row_len], fm_one _⟩
theorem at_ne {T T' : TypeId} {W : World} {b b' : Nat} {L L' : List Value} (h : At T W b L) (h' : At T' W b' L') (hne : T ≠ T') : b ≠ b' := by
  rintro rfl
  unfold At at h h'
  rw [h] at h'
  injection h' with h'
  injection h' with _ h'
  exact hne h'
set_option maxRecDepth 100000 in
set_option maxHeartbeats 16000000 in
theorem both_w (f f2 : Nat → P4) (F G : List (Nat × Nat) → P4) (A : List (Nat × Nat) → Nat × Nat → P4) (p pq : List Value) (p_h : Pl p) (pq_h : Pl pq) (x y : Nat)
    (Q1 : Hid (∀ w : World, GtwiceD w → Gf w → Calls Tryd.prog 51 #[.agg p.toArray] w fun e w' => e = .returned (.agg (fm (rowAt f 15)).toArray) ∧ Below w.heap.size w w'))
    (Q2 : Hid (∀ w : World, GtwiceD w → Gf w → Calls Tryd.prog 51 #[.agg pq.toArray] w fun e w' => e = .returned (.agg (fm (rowAt f2 15)).toArray) ∧ Below w.heap.size w w'))
    (Q3 : Hid (∀ w : World, Calls Tryd.prog 33 #[] w fun e w' => e = .returned (.agg (F []).l.toArray) ∧ Below w.heap.size w w'))
    (Q4 : Hid (∀ ys (w : World), Gf w → Calls Tryd.prog 53 #[.agg (F ys).l.toArray] w fun e w' => e = .returned (.agg (G ys).l.toArray) ∧ Below w.heap.size w w'))
    (Q5 : Hid (∀ ys (d : Nat × Nat) (w : World), GtwiceD w → Gf w → Calls Tryd.prog 28 #[.agg (G ys).l.toArray, .agg (f d.1).l.toArray] w fun e w' => e = .returned (.agg (A ys d).l.toArray) ∧ Below w.heap.size w w'))
    (Q6 : Hid (∀ ys (d : Nat × Nat) (w : World), GtwiceD w → Gf w → Calls Tryd.prog 28 #[.agg (A ys d).l.toArray, .agg (f2 d.2).l.toArray] w fun e w' => e = .returned (.agg (F (ys ++ [d])).l.toArray) ∧ Below w.heap.size w w'))
    (w : World) (T_0 : Hid (GtwiceD w)) (Z_0 : Hid (Gf w)) :
    Calls Tryd.prog 21 #[.agg (wv (ws x)).toArray, .agg p.toArray, .agg (wv (ws y)).toArray, .agg pq.toArray] w fun e w' => e = .returned (.agg (F (tk x y 64)).l.toArray) ∧ Below w.heap.size w w' := by
  have ka_h := ws_wl x
  have kb_h := ws_wl y
  have hws0 : Hid (∀ n (w : World), CallsIn Fence.wide n Tryd.prog 52 #[.agg (wv (ws x)).toArray, .agg (wv (ws y)).toArray] w fun e w' => e = .returned (.func (.func 92) #[] #[.pointer (some ⟨w.heap.size, 0, none⟩), .pointer (some ⟨w.heap.size + 1, 0, none⟩)]) ∧
      At 25 w' w.heap.size (wv (ws x)) ∧ At 25 w' (w.heap.size + 1) (wv (ws y)) ∧ w'.heap.size = w.heap.size + 2 ∧ Below w.heap.size w w') := fun n w => fours_l n x y w
  have hTl : Hid (∀ (s p : Nat) (w0 : World), s < p → p + 1 < w0.heap.size → At 25 w0 p (wv (ws x)) → At 25 w0 (p + 1) (wv (ws y)) → Telling2 Tryd.prog 92 #[.pointer (some ⟨p, 0, none⟩), .pointer (some ⟨p + 1, 0, none⟩)] (fun x : Nat × Nat => #[.int .u64 (x.1 : Int), .int .u64 (x.2 : Int)]) (fun _ x => x.1 < 16 ∧ x.2 < 16) (KpS s (w0.heap.size + 1)) (fun xs => xs = tk x y 64) w0) :=
    fun s p w0 h1 h2 h3 h4 => fours_tells x y (ws x) (ws y) (ws_len _) (ws_len _) (ws_ww _) (ws_ww _) (ws_get x) (ws_get y) s p w0 h1 h2 h3 h4
  obtain ⟨ka, hka⟩ : ∃ K, wv (ws x) = K := ⟨_, rfl⟩
  obtain ⟨kb, hkb⟩ : ∃ K, wv (ws y) = K := ⟨_, rfl⟩
  rw [hka] at ka_h hws0 hTl ⊢
  rw [hkb] at kb_h hws0 hTl ⊢
  clear hka hkb
  have rp_h := row_al f
  have rq_h := row_al f2
  have rp_m : Hid (∀ d, d < 16 → ((fm (rowAt f 15)).drop (d * 20)).take 20 = (f d).l) := fun d hd => fm_mid _ d _ (row_get f 15 d (by omega) hd)
  have rq_m : Hid (∀ d, d < 16 → ((fm (rowAt f2 15)).drop (d * 20)).take 20 = (f2 d).l) := fun d hd => fm_mid _ d _ (row_get f2 15 d (by omega) hd)
  obtain ⟨rp, hrp⟩ : ∃ R, fm (rowAt f 15) = R := ⟨_, rfl⟩
  obtain ⟨rq, hrq⟩ : ∃ R, fm (rowAt f2 15) = R := ⟨_, rfl⟩
  rw [hrp] at Q1 rp_h rp_m
  rw [hrq] at Q2 rq_h rq_m
  clear hrp hrq
  obtain ⟨Z0, hZ0⟩ : ∃ R, Hid (fm (List.replicate 16 nilP) = R) := ⟨_, rfl⟩
  have hz16 : Tryd.zeroCells82 = Z0.toArray := by rw [← hZ0.out]; exact zero_16
  have Z0_l : Hid (Z0.length = 320) := by unfold Hid; rw [← hZ0.out, fm_len]; rfl
  obtain ⟨c, hc⟩ : ∃ c, Hid ((F []).l = c) := ⟨_, rfl⟩
  have c_h : Pl c := by rw [← hc.out]; exact (F []).pl
  rw [hc.out] at Q3
  refine calls_marks Tryd.func21 rfl ?_
  simp only [Tryd.ntmps21, List.size_toArray, List.length_cons, List.length_nil, Nat.reduceAdd, Nat.reduceSub, Array.replicate_succ, Array.replicate_zero, List.push_toArray, List.append_toArray, List.nil_append, List.cons_append]
  go_upto_region 1 with fail
  have HT := T_0.out.lt
  have HZ := Z_0.out.lt
  refine wp_cut (fun V => At 25 V w.heap.size ka ∧ At 32 V (w.heap.size + 1) p ∧ At 25 V (w.heap.size + 1 + 1) kb ∧ At 32 V (w.heap.size + 1 + 1 + 1) pq ∧ At 32 V (w.heap.size + 1 + 1 + 1 + 1) [.int .u64 0, .int .u64 0, .int .u64 0, .int .u64 0, .int .u64 0, .int .u64 0, .int .u64 0, .int .u64 0, .int .u64 0, .int .u64 0, .int .u64 0, .int .u64 0, .int .u64 0, .int .u64 0, .int .u64 0, .int .u64 0, .int .u64 0, .int .u64 0, .int .u64 0, .int .u64 0] ∧ GtwiceD V ∧ Gf V ∧ Below w.heap.size w V) ⟨?_, ?_, ?_, ?_, ?_, ?_, ?_, ?_⟩ ?_
  · (repeat (first | refine At.drew ?_ | refine At.drewN ?_ _ | (refine at_new2 _ _ _ _ ?_; simp; done) | refine at_alloc ?_ _))
  · (repeat (first | refine At.drew ?_ | refine At.drewN ?_ _ | (refine at_new2 _ _ _ _ ?_; simp; done) | refine at_alloc ?_ _))
  · (repeat (first | refine At.drew ?_ | refine At.drewN ?_ _ | (refine at_new2 _ _ _ _ ?_; simp; done) | refine at_alloc ?_ _))
  · (repeat (first | refine At.drew ?_ | refine At.drewN ?_ _ | (refine at_new2 _ _ _ _ ?_; simp; done) | refine at_alloc ?_ _))
  · (repeat (first | refine At.drew ?_ | refine At.drewN ?_ _ | (refine at_new2 _ _ _ _ ?_; simp; done) | refine at_alloc ?_ _))
  · refine T_0.out.grown ?_
    (repeat (first | exact Below.refl _ _ | refine Below.drew ?_ | refine below_drewN ?_ _ | refine Below.alloc ?_ (by simp <;> omega) _))
  · refine Z_0.out.grown ?_
    (repeat (first | exact Below.refl _ _ | refine Below.drew ?_ | refine below_drewN ?_ _ | refine Below.alloc ?_ (by simp <;> omega) _))
  · (repeat (first | exact Below.refl _ _ | refine Below.drew ?_ | refine below_drewN ?_ _ | refine Below.alloc ?_ (by simp <;> omega) _))
  rintro w1 ⟨k0, k1, k2, k3, k4, k5, k6, k7⟩
  have B4_1 := hid k0
  have B5_1 := hid k1
  have B6_1 := hid k2
  have B7_1 := hid k3
  have B8_1 := hid k4
  have T_1 := hid k5
  have Z_1 := hid k6
  have G_1 := hid k7
  clear k0 k1 k2 k3 k4 k5 k6 k7
  refine wp_region_grow (ob := (fun k => if k = 5 then some (.cells Z0.toArray 82) else if k = 6 then some (.cells Z0.toArray 82) else if k = 7 then some (.cells #[.int .u64 0, .int .u64 0, .int .u64 0, .int .u64 0, .int .u64 0, .int .u64 0, .int .u64 0, .int .u64 0, .int .u64 0, .int .u64 0, .int .u64 0, .int .u64 0, .int .u64 0, .int .u64 0, .int .u64 0, .int .u64 0, .int .u64 0, .int .u64 0, .int .u64 0, .int .u64 0] 32) else none)) (st := (fun k => if k = 8 then some (5, .cells rp.toArray 82) else if k = 9 then some (6, .cells rq.toArray 82) else if k = 10 then some (7, .cells c.toArray 32) else none)) (by kernel_rfl) ?_
  simp only [List.size_toArray, List.length_cons, List.length_nil, Nat.reduceAdd, Array.replicate_succ, Array.replicate_zero, List.push_toArray, List.nil_append, List.cons_append]
  refine g_first 0 _ (.agg p.toArray) rfl rfl rfl (by kernel_rfl) (by kernel_rfl) (by kernel_rfl) ?_ ?_
  · refine Or.inl ⟨by rfl, fun w' hw' => ?_⟩
    exact quiet_load 32 _ rfl _ 0 rfl p _ (at_mid (B5_1.out.below hw') 0 _ (by simp)) Tryd.underlying32 rfl p_h.il
  try simp only [List.getElem_toArray, List.getElem_cons_zero, List.getElem_cons_succ, Act.put, List.setIfInBounds_toArray, List.set_cons_zero, List.set_cons_succ]
  refine g_first 1 _ (.agg rp.toArray) rfl rfl rfl (by kernel_rfl) (by kernel_rfl) (by kernel_rfl) ?_ ?_
  · refine Or.inl ⟨by rfl, fun w' hw' => ?_⟩
    refine quiet_call (by go_simp) (Q1.out _ (T_1.out.grown hw') (Z_1.out.grown hw'))
  try simp only [List.getElem_toArray, List.getElem_cons_zero, List.getElem_cons_succ, Act.put, List.setIfInBounds_toArray, List.set_cons_zero, List.set_cons_succ]
  refine g_first 2 _ (.agg pq.toArray) rfl rfl rfl (by kernel_rfl) (by kernel_rfl) (by kernel_rfl) ?_ ?_
  · refine Or.inl ⟨by rfl, fun w' hw' => ?_⟩
    exact quiet_load 32 _ rfl _ 0 rfl pq _ (at_mid (B7_1.out.below hw') 0 _ (by simp)) Tryd.underlying32 rfl pq_h.il
  try simp only [List.getElem_toArray, List.getElem_cons_zero, List.getElem_cons_succ, Act.put, List.setIfInBounds_toArray, List.set_cons_zero, List.set_cons_succ]
  refine g_first 3 _ (.agg rq.toArray) rfl rfl rfl (by kernel_rfl) (by kernel_rfl) (by kernel_rfl) ?_ ?_
  · refine Or.inl ⟨by rfl, fun w' hw' => ?_⟩
    refine quiet_call (by go_simp) (Q2.out _ (T_1.out.grown hw') (Z_1.out.grown hw'))
  try simp only [List.getElem_toArray, List.getElem_cons_zero, List.getElem_cons_succ, Act.put, List.setIfInBounds_toArray, List.set_cons_zero, List.set_cons_succ]
  refine g_first 4 _ (.agg c.toArray) rfl rfl rfl (by kernel_rfl) (by kernel_rfl) (by kernel_rfl) ?_ ?_
  · refine Or.inl ⟨by rfl, fun w' hw' => ?_⟩
    refine quiet_call (by go_simp) (Q3.out _)
  try simp only [List.getElem_toArray, List.getElem_cons_zero, List.getElem_cons_succ, Act.put, List.setIfInBounds_toArray, List.set_cons_zero, List.set_cons_succ]
  refine g_make 5 _ (.cells Z0.toArray 82) (fun k => (decide (5 ≤ k ∧ k ≤ 7)) || (decide (8 ≤ k ∧ k ≤ 10) && k != 8)) rfl rfl rfl rfl ?_ ?_ (by kernel_rfl) (by kernel_rfl) (by kernel_rfl) (by kernel_rfl) (fun g9 => ?_)
  · intro a w
    go_simp
  · intro j hj
    simp only [Bool.or_eq_true, Bool.and_eq_true, decide_eq_true_eq, bne_iff_ne] at hj
    rcases hj with hj | ⟨hj, hne⟩
    · left
      rcases (show j = 5 ∨ j = 6 ∨ j = 7 by omega) with rfl | rfl | rfl <;> simp
    · right
      rcases (show j = 8 ∨ j = 9 ∨ j = 10 by omega) with rfl | rfl | rfl <;> first | exact ⟨_, _, rfl, by decide⟩ | omega
  try simp only [List.getElem_toArray, List.getElem_cons_zero, List.getElem_cons_succ, Act.put, List.setIfInBounds_toArray, List.set_cons_zero, List.set_cons_succ]
  refine g_make 6 _ (.cells Z0.toArray 82) (fun k => (decide (5 ≤ k ∧ k ≤ 7)) || (decide (8 ≤ k ∧ k ≤ 10) && k != 9)) rfl rfl rfl rfl ?_ ?_ (by kernel_rfl) (by kernel_rfl) (by kernel_rfl) (by kernel_rfl) (fun g10 => ?_)
  · intro a w
    go_simp
  · intro j hj
    simp only [Bool.or_eq_true, Bool.and_eq_true, decide_eq_true_eq, bne_iff_ne] at hj
    rcases hj with hj | ⟨hj, hne⟩
    · left
      rcases (show j = 5 ∨ j = 6 ∨ j = 7 by omega) with rfl | rfl | rfl <;> simp
    · right
      rcases (show j = 8 ∨ j = 9 ∨ j = 10 by omega) with rfl | rfl | rfl <;> first | exact ⟨_, _, rfl, by decide⟩ | omega
  try simp only [List.getElem_toArray, List.getElem_cons_zero, List.getElem_cons_succ, Act.put, List.setIfInBounds_toArray, List.set_cons_zero, List.set_cons_succ]
  refine g_make 7 _ (.cells #[.int .u64 0, .int .u64 0, .int .u64 0, .int .u64 0, .int .u64 0, .int .u64 0, .int .u64 0, .int .u64 0, .int .u64 0, .int .u64 0, .int .u64 0, .int .u64 0, .int .u64 0, .int .u64 0, .int .u64 0, .int .u64 0, .int .u64 0, .int .u64 0, .int .u64 0, .int .u64 0] 32) (fun k => (decide (5 ≤ k ∧ k ≤ 7)) || (decide (8 ≤ k ∧ k ≤ 10) && k != 10)) rfl rfl rfl rfl ?_ ?_ (by kernel_rfl) (by kernel_rfl) (by kernel_rfl) (by kernel_rfl) (fun g11 => ?_)
  · intro a w
    go_simp
  · intro j hj
    simp only [Bool.or_eq_true, Bool.and_eq_true, decide_eq_true_eq, bne_iff_ne] at hj
    rcases hj with hj | ⟨hj, hne⟩
    · left
      rcases (show j = 5 ∨ j = 6 ∨ j = 7 by omega) with rfl | rfl | rfl <;> simp
    · right
      rcases (show j = 8 ∨ j = 9 ∨ j = 10 by omega) with rfl | rfl | rfl <;> first | exact ⟨_, _, rfl, by decide⟩ | omega
  try simp only [List.getElem_toArray, List.getElem_cons_zero, List.getElem_cons_succ, Act.put, List.setIfInBounds_toArray, List.set_cons_zero, List.set_cons_succ]
  refine g_store 8 5 _ (.cells rp.toArray 82) g9 (.cells Z0.toArray 82) (fun k => decide (8 ≤ k ∧ k ≤ 10) && k != 8) rfl rfl rfl rfl ?_ (by kernel_rfl) (by kernel_rfl) (by kernel_rfl) (by kernel_rfl) (by simp [upd]) ?_ ?_
  · intro j hj
    simp only [Bool.and_eq_true, decide_eq_true_eq, bne_iff_ne] at hj
    rcases (show j = 8 ∨ j = 9 ∨ j = 10 by omega) with rfl | rfl | rfl <;> first | exact ⟨_, _, rfl, by decide⟩ | omega
  · exact stores_whole 82 _ _ rfl g9 rp Z0 rfl rfl (rp_h.len.trans Z0_l.out.symm) rp_h.is rp_h.one
  try simp only [List.getElem_toArray, List.getElem_cons_zero, List.getElem_cons_succ, Act.put, List.setIfInBounds_toArray, List.set_cons_zero, List.set_cons_succ]
  refine g_store 9 6 _ (.cells rq.toArray 82) g10 (.cells Z0.toArray 82) (fun k => decide (8 ≤ k ∧ k ≤ 10) && k != 9) rfl rfl rfl rfl ?_ (by kernel_rfl) (by kernel_rfl) (by kernel_rfl) (by kernel_rfl) (by simp [upd]) ?_ ?_
  · intro j hj
    simp only [Bool.and_eq_true, decide_eq_true_eq, bne_iff_ne] at hj
    rcases (show j = 8 ∨ j = 9 ∨ j = 10 by omega) with rfl | rfl | rfl <;> first | exact ⟨_, _, rfl, by decide⟩ | omega
  · exact stores_whole 82 _ _ rfl g10 rq Z0 rfl rfl (rq_h.len.trans Z0_l.out.symm) rq_h.is rq_h.one
  try simp only [List.getElem_toArray, List.getElem_cons_zero, List.getElem_cons_succ, Act.put, List.setIfInBounds_toArray, List.set_cons_zero, List.set_cons_succ]
  refine g_store 10 7 _ (.cells c.toArray 32) g11 (.cells #[.int .u64 0, .int .u64 0, .int .u64 0, .int .u64 0, .int .u64 0, .int .u64 0, .int .u64 0, .int .u64 0, .int .u64 0, .int .u64 0, .int .u64 0, .int .u64 0, .int .u64 0, .int .u64 0, .int .u64 0, .int .u64 0, .int .u64 0, .int .u64 0, .int .u64 0, .int .u64 0] 32) (fun k => decide (8 ≤ k ∧ k ≤ 10) && k != 10) rfl rfl rfl rfl ?_ (by kernel_rfl) (by kernel_rfl) (by kernel_rfl) (by kernel_rfl) (by simp [upd]) ?_ ?_
  · intro j hj
    simp only [Bool.and_eq_true, decide_eq_true_eq, bne_iff_ne] at hj
    rcases (show j = 8 ∨ j = 9 ∨ j = 10 by omega) with rfl | rfl | rfl <;> first | exact ⟨_, _, rfl, by decide⟩ | omega
  · exact stores_whole 32 _ _ rfl g11 c [.int .u64 0, .int .u64 0, .int .u64 0, .int .u64 0, .int .u64 0, .int .u64 0, .int .u64 0, .int .u64 0, .int .u64 0, .int .u64 0, .int .u64 0, .int .u64 0, .int .u64 0, .int .u64 0, .int .u64 0, .int .u64 0, .int .u64 0, .int .u64 0, .int .u64 0, .int .u64 0] rfl rfl c_h.len c_h.is c_h.one
  try simp only [List.getElem_toArray, List.getElem_cons_zero, List.getElem_cons_succ, Act.put, List.setIfInBounds_toArray, List.set_cons_zero, List.set_cons_succ]
  refine ⟨by kernel_rfl, fun w2 hV => ?_⟩
  have own9 := hV.own 5 _ (by simp [upd]; rfl)
  have B9_2 : Hid (At 82 w2 g9 rp) := own9.2.2
  have szB9 : w.heap.size ≤ g9 := by have h1 := own9.1; have h2 := G_1.out.size; dsimp only at h1; omega
  have nlB4B9 : w.heap.size < g9 := by have h1 := own9.1; have h2 := B4_1.out.lt; dsimp only at h1; omega
  have nlB5B9 : (w.heap.size + 1) < g9 := by have h1 := own9.1; have h2 := B5_1.out.lt; dsimp only at h1; omega
  have nlB6B9 : (w.heap.size + 1 + 1) < g9 := by have h1 := own9.1; have h2 := B6_1.out.lt; dsimp only at h1; omega
  have nlB7B9 : (w.heap.size + 1 + 1 + 1) < g9 := by have h1 := own9.1; have h2 := B7_1.out.lt; dsimp only at h1; omega
  have nlB8B9 : (w.heap.size + 1 + 1 + 1 + 1) < g9 := by have h1 := own9.1; have h2 := B8_1.out.lt; dsimp only at h1; omega
  have own10 := hV.own 6 _ (by simp [upd]; rfl)
  have B10_2 : Hid (At 82 w2 g10 rq) := own10.2.2
  have szB10 : w.heap.size ≤ g10 := by have h1 := own10.1; have h2 := G_1.out.size; dsimp only at h1; omega
  have nlB4B10 : w.heap.size < g10 := by have h1 := own10.1; have h2 := B4_1.out.lt; dsimp only at h1; omega
  have nlB5B10 : (w.heap.size + 1) < g10 := by have h1 := own10.1; have h2 := B5_1.out.lt; dsimp only at h1; omega
  have nlB6B10 : (w.heap.size + 1 + 1) < g10 := by have h1 := own10.1; have h2 := B6_1.out.lt; dsimp only at h1; omega
  have nlB7B10 : (w.heap.size + 1 + 1 + 1) < g10 := by have h1 := own10.1; have h2 := B7_1.out.lt; dsimp only at h1; omega
  have nlB8B10 : (w.heap.size + 1 + 1 + 1 + 1) < g10 := by have h1 := own10.1; have h2 := B8_1.out.lt; dsimp only at h1; omega
  have own11 := hV.own 7 _ (by simp [upd]; rfl)
  have B11_2 : Hid (At 32 w2 g11 c) := own11.2.2
  have szB11 : w.heap.size ≤ g11 := by have h1 := own11.1; have h2 := G_1.out.size; dsimp only at h1; omega
  have nlB4B11 : w.heap.size < g11 := by have h1 := own11.1; have h2 := B4_1.out.lt; dsimp only at h1; omega
  have nlB5B11 : (w.heap.size + 1) < g11 := by have h1 := own11.1; have h2 := B5_1.out.lt; dsimp only at h1; omega
  have nlB6B11 : (w.heap.size + 1 + 1) < g11 := by have h1 := own11.1; have h2 := B6_1.out.lt; dsimp only at h1; omega
  have nlB7B11 : (w.heap.size + 1 + 1 + 1) < g11 := by have h1 := own11.1; have h2 := B7_1.out.lt; dsimp only at h1; omega
  have nlB8B11 : (w.heap.size + 1 + 1 + 1 + 1) < g11 := by have h1 := own11.1; have h2 := B8_1.out.lt; dsimp only at h1; omega
  have g := hV.bel
  have B4_2 := hid (B4_1.out.below g)
  have B5_2 := hid (B5_1.out.below g)
  have B6_2 := hid (B6_1.out.below g)
  have B7_2 := hid (B7_1.out.below g)
  have B8_2 := hid (B8_1.out.below g)
  have T_2 := hid (T_1.out.grown g)
  have Z_2 := hid (Z_1.out.grown g)
  have G_2 := hid (G_1.out.trans (g.mono G_1.out.size))
  clear hV g own9 own10 own11 B4_1 B5_1 B6_1 B7_1 B8_1 T_1 Z_1 G_1
  have n9 : g9 ≠ g11 := at_ne B9_2.out B11_2.out (by decide)
  have n10 : g10 ≠ g11 := at_ne B10_2.out B11_2.out (by decide)
  go_wp2_with (first | (refine wpList_load_mid rfl 25 _ rfl w.heap.size 0 rfl ka _ (at_mid B4_2.out 0 _ (by simp)) Tryd.underlying25 rfl ka_h.il ?_) | (refine wpList_load_mid rfl 25 _ rfl (w.heap.size + 1 + 1) 0 rfl kb _ (at_mid B6_2.out 0 _ (by simp)) Tryd.underlying25 rfl kb_h.il ?_) | fail)
  refine (callsIn_wide.1 (hws0.out 5 w2)).mono ?_
  rintro e w5 ⟨rfl, hx, hy, hs, g⟩
  have l11 : g11 < w2.heap.size := B11_2.out.lt
  have l9 : g9 < w2.heap.size := B9_2.out.lt
  have l10 : g10 < w2.heap.size := B10_2.out.lt
  have l8 := B8_2.out.lt
  have H5 := hTl.out g11 w2.heap.size w5 l11 (by omega) hx hy
  have C_5 := hid (B8_2.out.below g)
  have G_5 := hid (G_2.out.trans (g.mono G_2.out.size))
  have R_5 := hid (B9_2.out.below g)
  have U_5 := hid (B10_2.out.below g)
  have S_5 := hid (B11_2.out.below g)
  clear g hx hy B4_2 B5_2 B6_2 B7_2 B8_2 B9_2 B10_2 B11_2 T_2 Z_2 G_2 Q1 Q2 Q3 hws0 hTl
  go_wp2_with fail
  have hmx : Tryd.prog.follows .mixedOrders = true := by kernel_rfl
  obtain ⟨q, hq⟩ : ∃ q, w2.heap.size = q := ⟨_, rfl⟩
  rw [hq] at hs l11 l9 l10 l8 H5 ⊢
  refine (wpIn_wide (n := 5)).1 ?_
  refine wpIn_telling2 (w := w5) (gf := 92) (lb := #[.pointer (some ⟨q, 0, none⟩), .pointer (some ⟨q + 1, 0, none⟩)]) rfl (enters_of Tryd.func92 (by kernel_rfl) rfl)
    H5 (fun _ => rfl) (fun h h' => h.trans h') (fun W o' => KpS.put (by omega) W o')
    (fun pre W => w5.heap.size ≤ W.heap.size ∧ At 32 W g11 (F pre).l ∧ At 82 W g9 rp ∧ At 82 W g10 rq ∧ At 32 W (w.heap.size + 1 + 1 + 1 + 1) [.int .u64 0, .int .u64 0, .int .u64 0, .int .u64 0, .int .u64 0, .int .u64 0, .int .u64 0, .int .u64 0, .int .u64 0, .int .u64 0, .int .u64 0, .int .u64 0, .int .u64 0, .int .u64 0, .int .u64 0, .int .u64 0, .int .u64 0, .int .u64 0, .int .u64 0, .int .u64 0] ∧ Below w.heap.size w W)
    (own_below (fun s W h => h.1) (fun s W W' h hb => ⟨Nat.le_trans h.1 hb.size, at_low h.2.1 hb (by omega), at_low h.2.2.1 hb (by omega), at_low h.2.2.2.1 hb (by omega), at_low h.2.2.2.2.1 hb (by omega), h.2.2.2.2.2.trans (hb.mono (by omega))⟩))
    ⟨Nat.le_refl _, by rw [hc.out]; exact S_5.out, R_5.out, U_5.out, C_5.out, G_5.out⟩
    (fun x => { tmps := #[.agg ka.toArray, .agg p.toArray, .agg kb.toArray, .agg pq.toArray, .pointer (some ⟨w.heap.size, 0, none⟩), .pointer (some ⟨w.heap.size + 1, 0, none⟩), .pointer (some ⟨w.heap.size + 1 + 1, 0, none⟩), .pointer (some ⟨w.heap.size + 1 + 1 + 1, 0, none⟩), .pointer (some ⟨w.heap.size + 1 + 1 + 1 + 1, 0, none⟩), .pointer (some ⟨g9, 0, none⟩), .pointer (some ⟨g10, 0, none⟩), .pointer (some ⟨g11, 0, none⟩), .int .u64 (x.1 : Int), .int .u64 (x.2 : Int), .agg p.toArray, .agg rp.toArray, .agg pq.toArray, .agg rq.toArray, .agg c.toArray, .agg ka.toArray, .agg kb.toArray, .func (.func 92) #[] #[.pointer (some ⟨q, 0, none⟩), .pointer (some ⟨q + 1, 0, none⟩)], .int .u64 (x.1 : Int), .int .u64 (x.2 : Int), undef, undef, undef, undef, undef, undef, undef, undef, undef, undef, undef], defers := [] }) ?assign ?body ?done
  case assign =>
    intro n l x W K hK
    gi_wp2
    exact hK
  case body =>
    rintro n pre d W hW ⟨hW2, hS, hR2, hU2, hC, hG⟩ ⟨hd, hd2⟩
    have Q5d : Hid (∀ w : World, GtwiceD w → Gf w → Calls Tryd.prog 28 #[.agg (A pre d).l.toArray, .agg (f2 d.2).l.toArray] w fun e w' => e = .returned (.agg (F (pre ++ [d])).l.toArray) ∧ Below w.heap.size w w') := fun w => Q6.out pre d w
    have Q4d : Hid (∀ w : World, GtwiceD w → Gf w → Calls Tryd.prog 28 #[.agg (G pre).l.toArray, .agg (f d.1).l.toArray] w fun e w' => e = .returned (.agg (A pre d).l.toArray) ∧ Below w.heap.size w w') := fun w => Q5.out pre d w
    have Q3d : Hid (∀ w : World, Gf w → Calls Tryd.prog 53 #[.agg (F pre).l.toArray] w fun e w' => e = .returned (.agg (G pre).l.toArray) ∧ Below w.heap.size w w') := fun w => Q4.out pre w
    have hmid : Hid ((rp.drop (d.1 * 20)).take 20 = (f d.1).l) := rp_m.out d.1 hd
    have hmid2 : Hid ((rq.drop (d.2 * 20)).take 20 = (f2 d.2).l) := rq_m.out d.2 hd2
    have s_h : Pl (F pre).l := (F pre).pl
    have m_h : Pl (f d.1).l := (f d.1).pl
    have m2_h : Pl (f2 d.2).l := (f2 d.2).pl
    have n_h : Pl (F (pre ++ [d])).l := (F (pre ++ [d])).pl
    obtain ⟨s, hs1⟩ : ∃ s, (F pre).l = s := ⟨_, rfl⟩
    obtain ⟨g, hg1⟩ : ∃ g, (G pre).l = g := ⟨_, rfl⟩
    obtain ⟨m, hm1⟩ : ∃ m, (f d.1).l = m := ⟨_, rfl⟩
    obtain ⟨m2, hm2⟩ : ∃ m, (f2 d.2).l = m := ⟨_, rfl⟩
    obtain ⟨mid, hmd⟩ : ∃ m, (A pre d).l = m := ⟨_, rfl⟩
    obtain ⟨t, ht1⟩ : ∃ t, Hid ((F (pre ++ [d])).l = t) := ⟨_, rfl⟩
    rw [hs1] at hS Q3d s_h
    rw [hg1] at Q3d Q4d
    rw [hm1] at hmid Q4d m_h
    rw [hm2] at hmid2 Q5d m2_h
    rw [hmd] at Q4d Q5d
    rw [ht1.out] at Q5d n_h
    obtain ⟨dn, hdn⟩ : ∃ n, d.1 = n := ⟨_, rfl⟩
    obtain ⟨en, hen⟩ : ∃ n, d.2 = n := ⟨_, rfl⟩
    rw [hdn] at hd hmid
    rw [hen] at hd2 hmid2
    rw [hdn, hen]
    have hd' : (dn : Int) < 16 := by omega
    have hd2' : (en : Int) < 16 := by omega
    have S_6 := hid hS
    have R_6 := hid hR2
    have U_6 := hid hU2
    have C_6 := hid hC
    have G_6 := hid hG
    have T_6 := hid (T_0.out.grown hG)
    have Z_6 := hid (Z_0.out.grown hG)
    have T_7 := hid (T_6.out.grown (Below.refl _ W).drew)
    have Z_7 := hid (Z_6.out.grown (Below.refl _ W).drew)
    have HW := hid hW
    have K0 : At 32 W.drew g11 s ∧ At 82 W.drew g9 rp ∧ At 82 W.drew g10 rq := ⟨hS.drew, hR2.drew, hU2.drew⟩
    clear hW hW2 hS hR2 hU2 hC hG hs1 hg1 hm1 hm2 hmd hdn hen Q4 Q5 Q6 S_5 R_5 U_5 C_5 G_5 H5
    gi_wp2
    refine wpIn_region_late (L := 10) (S := fun w' => At 32 w' g11 s ∧ At 82 w' g9 rp ∧ At 82 w' g10 rq) hmx (nodefer_of (by simp)) (by rintro ⟨a, w, h⟩; exact h) K0 (fun hHeld => ?_)
    clear K0
    refine l_take 0 (v := .agg s.toArray) rfl (by kernel_rfl) (by kernel_rfl) (by kernel_rfl) (by kernel_rfl) (fun _ _ _ h => h) (by rfl) ?hy0 (by assumption) ?_
    case hy0 =>
      intro w' hSw
      exact load_run 32 _ rfl _ 0 rfl s _ (at_mid hSw.1 0 _ (by simp)) Tryd.underlying32 rfl s_h.il
    try simp only [Act.put, List.setIfInBounds_toArray, List.set_cons_zero, List.set_cons_succ]
    refine l_take 2 (v := .int .u64 (dn : Int)) rfl (by kernel_rfl) (by kernel_rfl) (by kernel_rfl) (by kernel_rfl) (fun _ _ _ h => h) (by rfl) ?hy2 (by assumption) ?_
    case hy2 =>
      intro w' hSw
      clear hSw
      go_simp
    try simp only [Act.put, List.setIfInBounds_toArray, List.set_cons_zero, List.set_cons_succ]
    refine l_take 3 (v := .pointer (some ⟨g9, dn * 20, none⟩)) rfl (by kernel_rfl) (by kernel_rfl) (by kernel_rfl) (by kernel_rfl) (fun _ _ _ h => h) (by rfl) ?hy3 (by assumption) ?_
    case hy3 =>
      intro w' hSw
      clear hSw
      go_simp
    try simp only [Act.put, List.setIfInBounds_toArray, List.set_cons_zero, List.set_cons_succ]
    refine l_take 4 (v := .agg m.toArray) rfl (by kernel_rfl) (by kernel_rfl) (by kernel_rfl) (by kernel_rfl) (fun _ _ _ h => h) (by rfl) ?hy4 (by assumption) ?_
    case hy4 =>
      intro w' hSw
      exact load_run 32 _ rfl g9 (dn * 20) rfl m _ (at_mid hSw.2.1 (dn * 20) _ (by rw [m_h.len]; exact hmid.out)) Tryd.underlying32 rfl m_h.il
    try simp only [Act.put, List.setIfInBounds_toArray, List.set_cons_zero, List.set_cons_succ]
    refine l_take 6 (v := .int .u64 (en : Int)) rfl (by kernel_rfl) (by kernel_rfl) (by kernel_rfl) (by kernel_rfl) (fun _ _ _ h => h) (by rfl) ?hy6 (by assumption) ?_
    case hy6 =>
      intro w' hSw
      clear hSw
      go_simp
    try simp only [Act.put, List.setIfInBounds_toArray, List.set_cons_zero, List.set_cons_succ]
    refine l_take 7 (v := .pointer (some ⟨g10, en * 20, none⟩)) rfl (by kernel_rfl) (by kernel_rfl) (by kernel_rfl) (by kernel_rfl) (fun _ _ _ h => h) (by rfl) ?hy7 (by assumption) ?_
    case hy7 =>
      intro w' hSw
      clear hSw
      go_simp
    try simp only [Act.put, List.setIfInBounds_toArray, List.set_cons_zero, List.set_cons_succ]
    refine l_take 8 (v := .agg m2.toArray) rfl (by kernel_rfl) (by kernel_rfl) (by kernel_rfl) (by kernel_rfl) (fun _ _ _ h => h) (by rfl) ?hy8 (by assumption) ?_
    case hy8 =>
      intro w' hSw
      exact load_run 32 _ rfl g10 (en * 20) rfl m2 _ (at_mid hSw.2.2 (en * 20) _ (by rw [m2_h.len]; exact hmid2.out)) Tryd.underlying32 rfl m2_h.il
    try simp only [Act.put, List.setIfInBounds_toArray, List.set_cons_zero, List.set_cons_succ]
    refine l_call 1 rfl (by kernel_rfl) (by rfl) (fun Kk hK => ?_)
    go_simp
    refine (Q3d.out _ Z_7.out).mono ?_
    rintro e w8 ⟨rfl, g0⟩
    have gg : Below W.heap.size W w8 := (Below.refl _ W).drew.trans g0
    have S_8 := hid (S_6.out.below gg)
    have R_8 := hid (R_6.out.below gg)
    have U_8 := hid (U_6.out.below gg)
    have C_8 := hid (C_6.out.below gg)
    have G_8 := hid (G_6.out.trans (gg.mono G_6.out.size))
    have T_8 := hid (T_6.out.grown gg)
    have Z_8 := hid (Z_6.out.grown gg)
    have B_8 := hid gg
    clear g0 gg T_7 Z_7
    have K8 := And.intro S_8.out (And.intro R_8.out U_8.out)
    clear hHeld
    refine hK.out _ _ (Or.inr K8) ?_
    have hHeld := K8
    clear hK Kk K8
    try simp only [Act.put, List.setIfInBounds_toArray, List.set_cons_zero, List.set_cons_succ]
    refine l_call 5 rfl (by kernel_rfl) (by rfl) (fun Kk hK => ?_)
    go_simp
    refine (Q4d.out _ T_8.out Z_8.out).mono ?_
    rintro e w9 ⟨rfl, g0⟩
    have gg := g0
    have S_9 := hid (S_8.out.below gg)
    have R_9 := hid (R_8.out.below gg)
    have U_9 := hid (U_8.out.below gg)
    have C_9 := hid (C_8.out.below gg)
    have G_9 := hid (G_8.out.trans (gg.mono G_8.out.size))
    have T_9 := hid (T_8.out.grown gg)
    have Z_9 := hid (Z_8.out.grown gg)
    have B_9 := hid (B_8.out.trans (gg.mono B_8.out.size))
    clear g0 gg S_8 R_8 U_8 C_8 G_8 T_8 Z_8 B_8
    have K8 := And.intro S_9.out (And.intro R_9.out U_9.out)
    clear hHeld
    refine hK.out _ _ (Or.inr K8) ?_
    have hHeld := K8
    clear hK Kk K8
    try simp only [Act.put, List.setIfInBounds_toArray, List.set_cons_zero, List.set_cons_succ]
    refine l_call 9 rfl (by kernel_rfl) (by rfl) (fun Kk hK => ?_)
    go_simp
    refine (Q5d.out _ T_9.out Z_9.out).mono ?_
    rintro e w10 ⟨rfl, g0⟩
    have gg := g0
    have S_10 := hid (S_9.out.below gg)
    have R_10 := hid (R_9.out.below gg)
    have U_10 := hid (U_9.out.below gg)
    have C_10 := hid (C_9.out.below gg)
    have G_10 := hid (G_9.out.trans (gg.mono G_9.out.size))
    have T_10 := hid (T_9.out.grown gg)
    have Z_10 := hid (Z_9.out.grown gg)
    have B_10 := hid (B_9.out.trans (gg.mono B_9.out.size))
    clear g0 gg S_9 R_9 U_9 C_9 G_9 T_9 Z_9 B_9
    have K8 := And.intro S_10.out (And.intro R_10.out U_10.out)
    clear hHeld
    refine hK.out _ _ (Or.inr K8) ?_
    have hHeld := K8
    clear hK Kk K8
    try simp only [Act.put, List.setIfInBounds_toArray, List.set_cons_zero, List.set_cons_succ]
    refine l_call 10 rfl (by kernel_rfl) (by rfl) (fun Kk hK => ?_)
    refine store_oth 32 _ _ rfl g11 t s rfl rfl S_10.out (n_h.len.trans s_h.len.symm) n_h.is n_h.one (fun V hV hO => ?_)
    refine hK.out _ _ (Or.inl rfl) ?_
    clear hK Kk hHeld
    try simp only [Act.put, List.setIfInBounds_toArray, List.set_cons_zero, List.set_cons_succ]
    refine l_done (by kernel_rfl) ?_ _
    have hsz := HW.out
    have hlt := R_10.out.lt
    have hb9 := B_10.out.size
    have E1 : Hid (V.heap[w5.heap.size]? = W.heap[w5.heap.size]?) := (hO.other _ (by omega) (by omega)).trans (B_10.out.block _ (by omega))
    have E2 : Hid (V.heap[w5.heap.size + 1]? = W.heap[w5.heap.size + 1]?) := (hO.other _ (by omega) (by omega)).trans (B_10.out.block _ (by omega))
    have E3 : Hid (KpS g11 (w5.heap.size + 1) W V) := ⟨(B_10.out.mono (by omega)).trans (below_oth hO (Nat.le_refl _) (by omega)), fun j o h1 h2 h3 => by
      have hj := (Array.getElem?_eq_some_iff.1 h3).1
      exact (hO.other j (by omega) (by omega)).trans ((B_10.out.block j hj).trans h3)⟩
    have E4 : Hid (w5.heap.size ≤ V.heap.size ∧ At 32 V g11 (F (pre ++ [d])).l ∧ At 82 V g9 rp ∧ At 82 V g10 rq ∧ At 32 V (w.heap.size + 1 + 1 + 1 + 1) [.int .u64 0, .int .u64 0, .int .u64 0, .int .u64 0, .int .u64 0, .int .u64 0, .int .u64 0, .int .u64 0, .int .u64 0, .int .u64 0, .int .u64 0, .int .u64 0, .int .u64 0, .int .u64 0, .int .u64 0, .int .u64 0, .int .u64 0, .int .u64 0, .int .u64 0, .int .u64 0] ∧ Below w.heap.size w V) :=
      ⟨by have := hO.size; omega, by rw [ht1.out]; exact hV, hO.at R_10.out n9, hO.at U_10.out n10, hO.at C_10.out (by omega), Oth.bel G_10.out hO (by omega)⟩
    clear hsz hlt hb9 S_6 R_6 U_6 C_6 G_6 T_6 Z_6 S_10 R_10 U_10 C_10 G_10 B_10 T_10 Z_10 hV hO hmid hmid2
    simp only [noPanic]
    gi_wp2
    exact ⟨⟨E1.out, E2.out⟩, E3.out, E4.out⟩
  case done =>
    rintro xs W rfl ⟨hW2, hS, hR2, hU2, hC, hG⟩ hD
    have s_h : Pl (F (tk x y 64)).l := (F (tk x y 64)).pl
    obtain ⟨s, hs1⟩ : ∃ s, Hid ((F (tk x y 64)).l = s) := ⟨_, rfl⟩
    rw [hs1.out] at hS s_h
    have S_6 := hid hS
    have C_6 := hid hC
    have G_6 := hid hG
    have D_6 := hid hD
    clear hW2 hS hR2 hU2 hC hG hD Q4 Q5 Q6 S_5 R_5 U_5 C_5 G_5 H5
    go_wp2_with (first | refine wpList_load_mid rfl 32 _ rfl g11 0 rfl s _ (at_mid S_6.out 0 _ (by simp)) Tryd.underlying32 rfl s_h.il ?_ | refine list_store_oth rfl 32 _ _ rfl (w.heap.size + 1 + 1 + 1 + 1) s [.int .u64 0, .int .u64 0, .int .u64 0, .int .u64 0, .int .u64 0, .int .u64 0, .int .u64 0, .int .u64 0, .int .u64 0, .int .u64 0, .int .u64 0, .int .u64 0, .int .u64 0, .int .u64 0, .int .u64 0, .int .u64 0, .int .u64 0, .int .u64 0, .int .u64 0, .int .u64 0] rfl rfl C_6.out s_h.len s_h.is s_h.one (fun V hC hO => ?_) | fail)
    have hlt := (Array.getElem?_eq_some_iff.1 D_6.out).1
    have HDV : V.heap[w5.heap.size]? = some (.deferred (some [])) := (hO.other _ hlt (by omega)).trans D_6.out
    have HC2 : ∀ o', At 32 (V.putObj w5.heap.size o') (w.heap.size + 1 + 1 + 1 + 1) s := fun o' => (World.putObj_heap_other (by omega)).trans hC
    refine ⟨by simp, .inl ⟨_, _, rfl, run_takeDeferred HDV, ?_⟩⟩
    exact ⟨.agg s.toArray, results_mid (Tryd.results21) _ _ (w.heap.size + 1 + 1 + 1 + 1) 0 s _ rfl (HC2 _).range Tryd.underlying32 rfl s_h.il, by rw [hs1.out], (Oth.bel G_6.out hO (by omega)).trans (belowK_b (w := w) (Nat.le_refl _) _ w5.heap.size _ _ (by omega) HDV rfl rfl)⟩
theorem both_pt (p pq : P4) (P Q : Pt) (hp : p.Is P) (hq : pq.Is Q) (x y : Nat) (hx : x < M4) (hy : y < M4) : ∃ c : P4, c.Is ((Pt.mul x P).add (Pt.mul y Q)) ∧ ∀ w : World, GtwiceD w → Gf w → Calls Tryd.prog 21 #[.agg (wv (ws x)).toArray, .agg p.l.toArray, .agg (wv (ws y)).toArray, .agg pq.l.toArray] w fun e w' => e = .returned (.agg c.l.toArray) ∧ Below w.heap.size w w' := by
  obtain ⟨f, hf, q1⟩ := multiples_p p P hp
  obtain ⟨f2, hf2, q2⟩ := multiples_p pq Q hq
  obtain ⟨F, G, A, hF, q3, q4, q5, q6⟩ := both_p P Q f f2 hf hf2
  have hx2 : x < 16 ^ 64 := Nat.lt_of_lt_of_le hx (by decide +kernel)
  have hy2 : y < 16 ^ 64 := Nat.lt_of_lt_of_le hy (by decide +kernel)
  refine ⟨F (tk x y 64), ?_, fun w hT hZ => both_w f f2 F G A p.l pq.l p.pl pq.pl x y q1 q2 q3 q4 q5 q6 w hT hZ⟩
  have h := hF (tk x y 64)
  obtain ⟨h1, h2⟩ := va_tk x y hx2 hy2
  rwa [h1, h2] at h
end Go.Proofs.YtedhfimjcpbcpaaDoor.Ed

/-
  The program's Order, Base and Pure of layer 11: the walk, given what each call answers. Conditions: as each theorem says.
-/
namespace Go.Proofs.YtedhfimjcpbcpaaDoor.Ed
open Go.RowKit
set_option linter.unusedVariables false
set_option linter.unusedSimpArgs false

theorem order_words : wv (ws L25) = [.int .u64 6346243789798364141, .int .u64 1503914060200516822, .int .u64 0, .int .u64 1152921504606846976] := by
  have h : ws L25 = [6346243789798364141, 1503914060200516822, 0, 1152921504606846976] := by decide +kernel
  rw [wv, h]
  rfl
theorem order_any (w : World) : Calls Tryd.prog 15 #[] w fun e w' => e = .returned (.agg (wv (ws L25)).toArray) ∧ Below w.heap.size w w' := by
  rw [order_words]
  go_enter Tryd.func15, Tryd.ntmps15
  go_wp2
  exact bodyPost_ret (v := .agg #[.int .u64 6346243789798364141, .int .u64 1503914060200516822, .int .u64 0, .int .u64 1152921504606846976]) (results_mid (Tryd.results15) _ _ w.heap.size 0 [.int .u64 6346243789798364141, .int .u64 1503914060200516822, .int .u64 0, .int .u64 1152921504606846976] _ rfl (at_new2 25 w _ _ rfl).range Tryd.underlying25 rfl (by kernel_rfl)) rfl ⟨rfl, (Below.refl _ _).alloc (Nat.le_refl _) _⟩
set_option maxRecDepth 100000 in
set_option maxHeartbeats 16000000 in
theorem baseK_w (k b c : List Value) (k_h : Wl k) (b_h : Pl b) (c_h : Pl c) 
    (Q1 : Hid (∀ w : World, GbaseX w → GbaseY w → Calls Tryd.prog 25 #[] w fun e w' => e = .returned (.agg b.toArray) ∧ Below w.heap.size w w'))
    (Q2 : Hid (∀ w : World, GtwiceD w → Gf w → Calls Tryd.prog 9 #[.agg k.toArray, .agg b.toArray] w fun e w' => e = .returned (.agg c.toArray) ∧ Below w.heap.size w w'))
    (w : World) (U_0 : Hid (GbaseX w)) (V_0 : Hid (GbaseY w)) (T_0 : Hid (GtwiceD w)) (Z_0 : Hid (Gf w)) :
    Calls Tryd.prog 31 #[.agg k.toArray] w fun e w' => e = .returned (.agg c.toArray) ∧ Below w.heap.size w w' := by
  go_enter Tryd.func31, Tryd.ntmps31
  go_upto_region 1 with fail
  have HU := U_0.out.lt
  have HV := V_0.out.lt
  have HT := T_0.out.lt
  have HZ := Z_0.out.lt
  refine wp_cut (fun V => At 25 V w.heap.size k ∧ At 32 V (w.heap.size + 1) [.int .u64 0, .int .u64 0, .int .u64 0, .int .u64 0, .int .u64 0, .int .u64 0, .int .u64 0, .int .u64 0, .int .u64 0, .int .u64 0, .int .u64 0, .int .u64 0, .int .u64 0, .int .u64 0, .int .u64 0, .int .u64 0, .int .u64 0, .int .u64 0, .int .u64 0, .int .u64 0] ∧ GbaseX V ∧ GbaseY V ∧ GtwiceD V ∧ Gf V ∧ Below w.heap.size w V) ⟨?_, ?_, ?_, ?_, ?_, ?_, ?_⟩ ?_
  · (repeat (first | refine At.drew ?_ | refine At.drewN ?_ _ | (refine at_new2 _ _ _ _ ?_; simp; done) | refine at_alloc ?_ _))
  · (repeat (first | refine At.drew ?_ | refine At.drewN ?_ _ | (refine at_new2 _ _ _ _ ?_; simp; done) | refine at_alloc ?_ _))
  · refine U_0.out.grown ?_
    (repeat (first | exact Below.refl _ _ | refine Below.drew ?_ | refine below_drewN ?_ _ | refine Below.alloc ?_ (by simp <;> omega) _))
  · refine V_0.out.grown ?_
    (repeat (first | exact Below.refl _ _ | refine Below.drew ?_ | refine below_drewN ?_ _ | refine Below.alloc ?_ (by simp <;> omega) _))
  · refine T_0.out.grown ?_
    (repeat (first | exact Below.refl _ _ | refine Below.drew ?_ | refine below_drewN ?_ _ | refine Below.alloc ?_ (by simp <;> omega) _))
  · refine Z_0.out.grown ?_
    (repeat (first | exact Below.refl _ _ | refine Below.drew ?_ | refine below_drewN ?_ _ | refine Below.alloc ?_ (by simp <;> omega) _))
  · (repeat (first | exact Below.refl _ _ | refine Below.drew ?_ | refine below_drewN ?_ _ | refine Below.alloc ?_ (by simp <;> omega) _))
  rintro w1 ⟨k0, k1, k2, k3, k4, k5, k6⟩
  have B1_1 := hid k0
  have B2_1 := hid k1
  have U_1 := hid k2
  have V_1 := hid k3
  have T_1 := hid k4
  have Z_1 := hid k5
  have G_1 := hid k6
  clear k0 k1 k2 k3 k4 k5 k6 U_0 V_0 T_0 Z_0
  have U_1' := hid (U_1.out.grown (Below.refl _ w1).drew)
  have V_1' := hid (V_1.out.grown (Below.refl _ w1).drew)
  have T_1' := hid (T_1.out.grown (Below.refl _ w1).drew)
  have Z_1' := hid (Z_1.out.grown (Below.refl _ w1).drew)
  have K1 : At 25 w1.drew w.heap.size k := B1_1.out.drew
  refine wp_region_late (L := 3) (S := fun w' => At 25 w' w.heap.size k) (by kernel_rfl) K1 (fun hHeld => ?_)
  clear K1
  refine l_take 0 (v := .agg k.toArray) rfl (by kernel_rfl) (by kernel_rfl) (by kernel_rfl) (by kernel_rfl) (fun _ _ _ h => h) (by rfl) ?hyr0_0 (by assumption) ?_
  case hyr0_0 =>
    intro w' hSw
    exact load_run 25 _ rfl _ 0 rfl k _ (at_mid hSw 0 _ (by simp)) Tryd.underlying25 rfl k_h.il
  try simp only [Act.put, List.setIfInBounds_toArray, List.set_cons_zero, List.set_cons_succ]
  refine l_call 1 rfl (by kernel_rfl) (by rfl) (fun Kk hK => ?_)
  go_simp
  (refine (Q1.out _ U_1'.out V_1'.out).mono ?_)
  rintro e w2 ⟨rfl, g0⟩
  have g : Below w1.heap.size w1 w2 := (Below.refl _ w1).drew.trans g0
  clear g0
  have B1_2 := hid (B1_1.out.below g)
  have B2_2 := hid (B2_1.out.below g)
  have U_2 := hid (U_1.out.grown g)
  have V_2 := hid (V_1.out.grown g)
  have T_2 := hid (T_1.out.grown g)
  have Z_2 := hid (Z_1.out.grown g)
  have G_2 := hid (G_1.out.trans (g.mono G_1.out.size))
  clear g B1_1 B2_1 U_1 V_1 T_1 Z_1 G_1
  clear U_1' V_1' T_1' Z_1'
  have K2 := B1_2.out
  clear hHeld
  refine hK.out _ _ (Or.inr K2) ?_
  have hHeld := K2
  clear hK Kk K2
  try simp only [Act.put, List.setIfInBounds_toArray, List.set_cons_zero, List.set_cons_succ]
  refine l_call 2 rfl (by kernel_rfl) (by rfl) (fun Kk hK => ?_)
  go_simp
  (refine (Q2.out _ T_2.out Z_2.out).mono ?_)
  rintro e w3 ⟨rfl, g0⟩
  have g := g0
  clear g0
  have B1_3 := hid (B1_2.out.below g)
  have B2_3 := hid (B2_2.out.below g)
  have U_3 := hid (U_2.out.grown g)
  have V_3 := hid (V_2.out.grown g)
  have T_3 := hid (T_2.out.grown g)
  have Z_3 := hid (Z_2.out.grown g)
  have G_3 := hid (G_2.out.trans (g.mono G_2.out.size))
  clear g B1_2 B2_2 U_2 V_2 T_2 Z_2 G_2
  have K3 := B1_3.out
  clear hHeld
  refine hK.out _ _ (Or.inr K3) ?_
  have hHeld := K3
  clear hK Kk K3
  try simp only [Act.put, List.setIfInBounds_toArray, List.set_cons_zero, List.set_cons_succ]
  refine l_call 3 rfl (by kernel_rfl) (by rfl) (fun Kk hK => ?_)
  refine store_whole 32 _ _ rfl (w.heap.size + 1) c _ rfl rfl B2_3.out c_h.len c_h.is c_h.one w.heap.size w G_3.out (by omega) (fun F hC hB => ?_)
  refine hK.out _ _ (Or.inl rfl) ?_
  clear hK Kk
  try simp only [Act.put, List.setIfInBounds_toArray, List.set_cons_zero, List.set_cons_succ]
  refine l_done (by kernel_rfl) ?_ _
  go_wp2_with fail
  exact bodyPost_ret (v := .agg c.toArray) (results_mid (Tryd.results31) _ F (w.heap.size + 1) 0 c _ rfl hC.range Tryd.underlying32 rfl c_h.il) rfl ⟨rfl, hB⟩
set_option maxRecDepth 100000 in
set_option maxHeartbeats 16000000 in
theorem pure_w (p k m z : List Value) (p_h : Pl p) (k_h : Wl k) (m_h : Pl m) (z_h : Pl z) (tb : Bool)
    (Q1 : Hid (∀ w : World, Calls Tryd.prog 15 #[] w fun e w' => e = .returned (.agg k.toArray) ∧ Below w.heap.size w w'))
    (Q2 : Hid (∀ w : World, GtwiceD w → Gf w → Calls Tryd.prog 9 #[.agg k.toArray, .agg p.toArray] w fun e w' => e = .returned (.agg m.toArray) ∧ Below w.heap.size w w'))
    (Q3 : Hid (∀ w : World, Calls Tryd.prog 33 #[] w fun e w' => e = .returned (.agg z.toArray) ∧ Below w.heap.size w w'))
    (Q4 : Hid (∀ w : World, Calls Tryd.prog 18 #[.agg m.toArray, .agg z.toArray] w fun e w' => e = .returned (.bool tb) ∧ Below w.heap.size w w'))
    (w : World) (T_0 : Hid (GtwiceD w)) (Z_0 : Hid (Gf w)) :
    Calls Tryd.prog 22 #[.agg p.toArray] w fun e w' => e = .returned (.bool tb) ∧ Below w.heap.size w w' := by
  go_enter Tryd.func22, Tryd.ntmps22
  go_upto_region 1 with fail
  have HT := T_0.out.lt
  have HZ := Z_0.out.lt
  refine wp_cut (fun V => At 32 V w.heap.size p ∧ GtwiceD V ∧ Gf V ∧ Below w.heap.size w V) ⟨?_, ?_, ?_, ?_⟩ ?_
  · (repeat (first | refine At.drew ?_ | refine At.drewN ?_ _ | (refine at_new2 _ _ _ _ ?_; simp; done) | refine at_alloc ?_ _))
  · refine T_0.out.grown ?_
    (repeat (first | exact Below.refl _ _ | refine Below.drew ?_ | refine below_drewN ?_ _ | refine Below.alloc ?_ (by simp <;> omega) _))
  · refine Z_0.out.grown ?_
    (repeat (first | exact Below.refl _ _ | refine Below.drew ?_ | refine below_drewN ?_ _ | refine Below.alloc ?_ (by simp <;> omega) _))
  · (repeat (first | exact Below.refl _ _ | refine Below.drew ?_ | refine below_drewN ?_ _ | refine Below.alloc ?_ (by simp <;> omega) _))
  rintro w1 ⟨k0, k1, k2, k3⟩
  have B1_1 := hid k0
  have T_1 := hid k1
  have Z_1 := hid k2
  have G_1 := hid k3
  clear k0 k1 k2 k3 T_0 Z_0
  have T_1' := hid (T_1.out.grown (Below.refl _ w1).drew)
  have Z_1' := hid (Z_1.out.grown (Below.refl _ w1).drew)
  have K1 : At 32 w1.drew w.heap.size p := B1_1.out.drew
  refine wp_region_held_drew (S := fun w' => At 32 w' w.heap.size p) (by kernel_rfl) K1 (fun hHeld => ?_)
  clear K1
  refine h_take 1 (v := .agg p.toArray) rfl (by kernel_rfl) (by kernel_rfl) (by kernel_rfl) (fun _ _ _ h => h) (by rfl) ?hyr0_1 (by assumption) ?_
  case hyr0_1 =>
    intro w' hSw
    exact load_run 32 _ rfl _ 0 rfl p _ (at_mid hSw 0 _ (by simp)) Tryd.underlying32 rfl p_h.il
  try simp only [Act.put, List.setIfInBounds_toArray, List.set_cons_zero, List.set_cons_succ]
  refine h_call 0 rfl (by kernel_rfl) (by rfl) (fun Kk hK => ?_)
  go_simp
  (refine (Q1.out _).mono ?_)
  rintro e w2 ⟨rfl, g0⟩
  have g : Below w1.heap.size w1 w2 := (Below.refl _ w1).drew.trans g0
  clear g0
  have B1_2 := hid (B1_1.out.below g)
  have T_2 := hid (T_1.out.grown g)
  have Z_2 := hid (Z_1.out.grown g)
  have G_2 := hid (G_1.out.trans (g.mono G_1.out.size))
  clear g B1_1 T_1 Z_1 G_1
  clear T_1' Z_1'
  have K2 := B1_2.out
  go_wp2_with fail
  clear hHeld
  refine hK.out _ _ K2 (fun hHeld => ?_)
  clear hK Kk K2
  try simp only [Act.put, List.setIfInBounds_toArray, List.set_cons_zero, List.set_cons_succ]
  refine h_call 2 rfl (by kernel_rfl) (by rfl) (fun Kk hK => ?_)
  go_simp
  (refine (Q2.out _ T_2.out Z_2.out).mono ?_)
  rintro e w3 ⟨rfl, g0⟩
  have g := g0
  clear g0
  have B1_3 := hid (B1_2.out.below g)
  have T_3 := hid (T_2.out.grown g)
  have Z_3 := hid (Z_2.out.grown g)
  have G_3 := hid (G_2.out.trans (g.mono G_2.out.size))
  clear g B1_2 T_2 Z_2 G_2
  have K3 := B1_3.out
  go_wp2_with fail
  clear hHeld
  refine hK.out _ _ K3 (fun hHeld => ?_)
  clear hK Kk K3
  try simp only [Act.put, List.setIfInBounds_toArray, List.set_cons_zero, List.set_cons_succ]
  refine h_call 3 rfl (by kernel_rfl) (by rfl) (fun Kk hK => ?_)
  go_simp
  (refine (Q3.out _).mono ?_)
  rintro e w4 ⟨rfl, g0⟩
  have g := g0
  clear g0
  have B1_4 := hid (B1_3.out.below g)
  have T_4 := hid (T_3.out.grown g)
  have Z_4 := hid (Z_3.out.grown g)
  have G_4 := hid (G_3.out.trans (g.mono G_3.out.size))
  clear g B1_3 T_3 Z_3 G_3
  have K4 := B1_4.out
  go_wp2_with fail
  clear hHeld
  refine hK.out _ _ K4 (fun hHeld => ?_)
  clear hK Kk K4
  try simp only [Act.put, List.setIfInBounds_toArray, List.set_cons_zero, List.set_cons_succ]
  refine h_call 4 rfl (by kernel_rfl) (by rfl) (fun Kk hK => ?_)
  go_simp
  (refine (Q4.out _).mono ?_)
  rintro e w5 ⟨rfl, g0⟩
  have g := g0
  clear g0
  have B1_5 := hid (B1_4.out.below g)
  have T_5 := hid (T_4.out.grown g)
  have Z_5 := hid (Z_4.out.grown g)
  have G_5 := hid (G_4.out.trans (g.mono G_4.out.size))
  clear g B1_4 T_4 Z_4 G_4
  have K5 := B1_5.out
  go_wp2_with fail
  clear hHeld
  refine hK.out _ _ K5 (fun hHeld => ?_)
  clear hK Kk K5
  try simp only [Act.put, List.setIfInBounds_toArray, List.set_cons_zero, List.set_cons_succ]
  refine h_take 5 (v := .bool tb) rfl (by kernel_rfl) (by kernel_rfl) (by kernel_rfl) (fun _ _ _ h => h) (by rfl) ?hyr0_5 (by assumption) ?_
  case hyr0_5 =>
    intro w' hSw
    clear hSw
    go_simp
  try simp only [Act.put, List.setIfInBounds_toArray, List.set_cons_zero, List.set_cons_succ]
  refine wpAnyH_done (by kernel_rfl) ?_ _
  clear hHeld
  go_wp2_with fail
  go_ret
  exact ⟨rfl, G_5.out⟩
theorem L25_lt : L25 < M4 := by decide +kernel
theorem baseK_p (x : Nat) (hx : x < M4) : ∃ c : P4, c.Is (Pt.mul x baseP) ∧ ∀ w : World, GbaseX w → GbaseY w → GtwiceD w → Gf w → Calls Tryd.prog 31 #[.agg (wv (ws x)).toArray] w fun e w' => e = .returned (.agg c.l.toArray) ∧ Below w.heap.size w w' := by
  obtain ⟨b, hb, q1⟩ := base_p
  obtain ⟨c, hc, q2⟩ := mul_p b baseP hb x hx
  exact ⟨c, hc, fun w hU hV hT hZ => baseK_w _ b.l c.l (ws_wl x) b.pl c.pl q1 q2 w hU hV hT hZ⟩
theorem pure_p (p : P4) (P : Pt) (hp : p.Is P) : ∃ b : Bool, (b = true ↔ Pt.mul L25 P = Pt.zero) ∧ ∀ w : World, GtwiceD w → Gf w → Calls Tryd.prog 22 #[.agg p.l.toArray] w fun e w' => e = .returned (.bool b) ∧ Below w.heap.size w w' := by
  obtain ⟨m, hm, q2⟩ := mul_p p P hp L25 L25_lt
  obtain ⟨z, hz, q3⟩ := zero_p
  obtain ⟨b, hb, q4⟩ := same_p m z _ _ hm hz
  exact ⟨b, hb, fun w hT hZ => pure_w p.l _ m.l z.l p.pl (ws_wl L25) m.pl z.pl b order_any q2 q3 q4 w hT hZ⟩
end Go.Proofs.YtedhfimjcpbcpaaDoor.Ed

/-
  The contracts of the document's own layer 10: the curve's number, and which pairs lie on the curve. Conditions: as each theorem says.
-/
namespace Go.Proofs.YtedhfimjcpbcpaaDoor.Ed
open Go.RowKit
set_option linter.unusedVariables false

theorem hold {P : Prop} (h : P) : Hid P := h
theorem lt11 {a : Nat} (h : a < P25) : a < 16777216 ^ 11 := Nat.lt_trans h P25_lt11
theorem mod_lt11 (a : Nat) : a % P25 < 16777216 ^ 11 := lt11_of_mod a
theorem mod_P (a : Nat) : a % P25 < P25 := Nat.mod_lt _ (by decide +kernel)
theorem D25_val (q : Nat) (hq : q = 121666) : (0 + P25 - 121665 * (q ^ (P25 - 2) % P25) % P25) % P25 = D25 := by
  have h : q ^ (P25 - 2) % P25 = pm 255 q (P25 - 2) P25 % P25 := (pm_eq P25 255 q _ (by decide +kernel)).symm
  rw [h, hq]
  decide +kernel
set_option maxRecDepth 100000 in
set_option maxHeartbeats 2000000 in
theorem dD_num  (w : World) :
    Calls Tryd.prog 20 #[] w fun e w' => ∃ v, e = .returned v ∧ Num w' v (D25) ∧ Below w.heap.size w w' := by
  obtain ⟨q, hq⟩ : ∃ q : Nat, Hid (q = 121666) := ⟨121666, rfl⟩
  have K1 : Hid (∀ W, Calls Tryd.prog 64 #[.int .i64 121665] W fun e w' => ∃ v, e = .returned v ∧ Num w' v 121665 ∧ Below W.heap.size W w') := fun W => int_any 121665 (by omega) W
  have K2 : Hid (∀ W, Calls Tryd.prog 64 #[.int .i64 121666] W fun e w' => ∃ v, e = .returned v ∧ Num w' v q ∧ Below W.heap.size W w') := fun W => by rw [hq.out]; exact int_any 121666 (by omega) W
  have hql : q < 16777216 ^ 11 := by rw [hq.out]; decide +kernel
  have Q : Hid (q < 16777216 ^ 11) := hql
  have E : Hid ((0 + P25 - 121665 * (q ^ (P25 - 2) % P25) % P25) % P25 = D25) := D25_val q hq.out
  have K3 : Hid (∀ v W, Num W v q → Calls Tryd.prog 67 #[v] W fun e w' => ∃ v, e = .returned v ∧ Num w' v (q ^ (P25 - 2) % P25) ∧ Below W.heap.size W w') := fun v W h => invD_num4 q v W h Q.out
  have M3 : Hid (q ^ (P25 - 2) % P25 < 16777216 ^ 11) := mod_lt11 _
  rw [← E.out]
  clear hql E
  generalize q ^ (P25 - 2) % P25 = r at *
  go_enter Tryd.func20, Tryd.ntmps20
  go_wp2_with fail
  refine (K1.out _).mono ?_
  rintro e w1 ⟨v, rfl, hn, g⟩
  obtain ⟨Aa, Ac, Ad, rfl⟩ := hn.shape
  have A_1 : Hid (Num w1 (.slice Aa Ac Ad) (121665)) := hn
  have G_1 : Hid (Below w.heap.size w w1) := g
  clear  hn g
  go_wp2_with fail
  refine (K2.out _).mono ?_
  rintro e w2 ⟨v, rfl, hn, g⟩
  obtain ⟨Ba, Bc, Bd, rfl⟩ := hn.shape
  have B_2 : Hid (Num w2 (.slice Ba Bc Bd) (q)) := hn
  have A_2 := hold (A_1.out.below g)
  have G_2 := hold (G_1.out.trans (g.mono G_1.out.size))
  clear A_1 G_1 hn g
  go_wp2_with fail
  refine (K3.out _ _ B_2.out).mono ?_
  rintro e w3 ⟨v, rfl, hn, g⟩
  obtain ⟨Ca, Cc, Cd, rfl⟩ := hn.shape
  have C_3 : Hid (Num w3 (.slice Ca Cc Cd) (r)) := hn
  have A_3 := hold (A_2.out.below g)
  have G_3 := hold (G_2.out.trans (g.mono G_2.out.size))
  clear A_2 B_2 G_2 hn g
  go_wp2_with fail
  refine (mulD_num 121665 r _ _ _ A_3.out C_3.out (by decide +kernel) M3.out).mono ?_
  rintro e w4 ⟨v, rfl, hn, g⟩
  obtain ⟨Ea, Ec, Ed, rfl⟩ := hn.shape
  have E_4 : Hid (Num w4 (.slice Ea Ec Ed) (121665 * r % P25)) := hn
  have G_4 := hold (G_3.out.trans (g.mono G_3.out.size))
  clear A_3 C_3 G_3 hn g
  go_wp2_with fail
  refine (subD_num 0 (121665 * r % P25) _ _ _ (num_none _) E_4.out (by decide +kernel) (by have := mod_P (121665 * r); omega)).mono ?_
  rintro e w5 ⟨v, rfl, hn, g⟩
  obtain ⟨Fa, Fc, Fd, rfl⟩ := hn.shape
  have F_5 : Hid (Num w5 (.slice Fa Fc Fd) ((0 + P25 - 121665 * r % P25) % P25)) := hn
  have G_5 := hold (G_4.out.trans (g.mono G_4.out.size))
  clear E_4 G_4 hn g
  go_wp2_with fail
  go_ret
  exact ⟨_, rfl, F_5.out, G_5.out⟩

end Go.Proofs.YtedhfimjcpbcpaaDoor.Ed

/-
  The contracts of the document's own Pair of layer 10. Conditions: as each theorem says.
-/
namespace Go.Proofs.YtedhfimjcpbcpaaDoor.Ed
open Go.RowKit
set_option linter.unusedVariables false
set_option linter.unusedSimpArgs false

set_option maxRecDepth 100000 in
set_option maxHeartbeats 4000000 in
theorem pairD_num (X Y Z : Nat) (vx vy vz : Value) (tb : Bool) (w : World) (hx : Num w vx X) (hy : Num w vy Y) (hz : Num w vz Z) (lx : X < P25) (ly : Y < P25) (lz : Z < P25) :
    Calls Tryd.prog 56 #[.agg #[vx, vy, vz, .bool tb]] w fun e w' => ∃ v1 v2, e = .returned (.tuple #[v1, v2]) ∧ Num w' v1 (X * (Z ^ (P25 - 2) % P25) % P25) ∧ Num w' v2 (Y * (Z ^ (P25 - 2) % P25) % P25) ∧ Below w.heap.size w w' := by
  have kI : Hid (∀ v W, Num W v Z → Calls Tryd.prog 67 #[v] W fun e w' => ∃ v, e = .returned v ∧ Num w' v (Z ^ (P25 - 2) % P25) ∧ Below W.heap.size W w') := fun v W h => invD_num4 Z v W h (lt11 lz)
  have Lr : Hid (Z ^ (P25 - 2) % P25 < P25) := mod_P _
  generalize Z ^ (P25 - 2) % P25 = r at *
  obtain ⟨xa, xn, xc, rfl⟩ := hx.shape
  obtain ⟨ya, yn, yc, rfl⟩ := hy.shape
  obtain ⟨za, zn, zc, rfl⟩ := hz.shape
  have Lx : Hid (X < P25) := lx
  have Ly : Hid (Y < P25) := ly
  have g0 : Below w.heap.size w (w.alloc (.cells #[.slice xa xn xc, .slice ya yn yc, .slice za zn zc, .bool tb] 37)) := (Below.refl _ _).alloc (Nat.le_refl _) _
  have A0 : Hid (At 37 (w.alloc (.cells #[.slice xa xn xc, .slice ya yn yc, .slice za zn zc, .bool tb] 37)) w.heap.size [.slice xa xn xc, .slice ya yn yc, .slice za zn zc, .bool tb]) := at_new 37 w [.slice xa xn xc, .slice ya yn yc, .slice za zn zc, .bool tb]
  have X0 : Hid (Num (w.alloc (.cells #[.slice xa xn xc, .slice ya yn yc, .slice za zn zc, .bool tb] 37)) (.slice xa xn xc) X) := hx.below g0
  have Y0 : Hid (Num (w.alloc (.cells #[.slice xa xn xc, .slice ya yn yc, .slice za zn zc, .bool tb] 37)) (.slice ya yn yc) Y) := hy.below g0
  have Z0 : Hid (Num (w.alloc (.cells #[.slice xa xn xc, .slice ya yn yc, .slice za zn zc, .bool tb] 37)) (.slice za zn zc) Z) := hz.below g0
  have G0 : Hid (Below w.heap.size w (w.alloc (.cells #[.slice xa xn xc, .slice ya yn yc, .slice za zn zc, .bool tb] 37))) := g0
  have q2 := A0.out.cell 2
  simp only [List.getElem?_cons_zero, List.getElem?_cons_succ] at q2
  clear hx hy hz lx ly lz g0
  go_enter Tryd.func56, Tryd.ntmps56
  go_wp2_with fail
  refine (kI.out _ _ Z0.out).mono ?_
  rintro e w1 ⟨vi, rfl, hn1, g1⟩
  obtain ⟨ia, ic, id, rfl⟩ := hn1.shape
  have A1 := hold (A0.out.below g1)
  have N1 := hold (X0.out.below g1)
  have Y1 := hold (Y0.out.below g1)
  have I1 : Hid (Num w1 (.slice ia ic id) r) := hn1
  have G1 := hold (G0.out.trans (g1.mono G0.out.size))
  have kM : Hid (∀ (A : Nat) v W, A < P25 → Num W v A → Num W (.slice ia ic id) r → Calls Tryd.prog 47 #[v, .slice ia ic id] W fun e w' => ∃ v', e = .returned v' ∧ Num w' v' (A * r % P25) ∧ Below W.heap.size W w') := fun A v W h1 h2 h3 => mulD_num A r v _ W h2 h3 (lt11 h1) (lt11 Lr.out)
  have hK1 : w1.drew.cell? ⟨w.heap.size, 0, none⟩ = some (.slice xa xn xc) ∧ w1.drew.cell? ⟨w.heap.size, 1, none⟩ = some (.slice ya yn yc) := ⟨A1.out.cell 0, A1.out.cell 1⟩
  clear hn1 g1 q2 kI A0 X0 Y0 Z0 G0
  go_wp2_with fail
  refine wp_region_held_drew (S := fun w' => w'.cell? ⟨w.heap.size, 0, none⟩ = some (.slice xa xn xc) ∧ w'.cell? ⟨w.heap.size, 1, none⟩ = some (.slice ya yn yc)) (by kernel_rfl) hK1 (fun hHeld => ?_)
  refine h_take 0 (v := ?v0) rfl (by kernel_rfl) (by kernel_rfl) (by kernel_rfl) (fun _ _ _ h => h) (by rfl) ?hy0 (by assumption) ?_
  case hy0 =>
    intro w' hSw
    try dsimp only at hSw
    go_simp
    try with_reducible rfl
  try simp only [Act.put, List.setIfInBounds_toArray, List.set_cons_zero, List.set_cons_succ]
  refine h_take 1 (v := ?v1) rfl (by kernel_rfl) (by kernel_rfl) (by kernel_rfl) (fun _ _ _ h => h) (by rfl) ?hy1 (by assumption) ?_
  case hy1 =>
    intro w' hSw
    try dsimp only at hSw
    go_simp
    try with_reducible rfl
  try simp only [Act.put, List.setIfInBounds_toArray, List.set_cons_zero, List.set_cons_succ]
  refine h_take 2 (v := ?v2) rfl (by kernel_rfl) (by kernel_rfl) (by kernel_rfl) (fun _ _ _ h => h) (by rfl) ?hy2 (by assumption) ?_
  case hy2 =>
    intro w' hSw
    try dsimp only at hSw
    go_simp
    try with_reducible rfl
  try simp only [Act.put, List.setIfInBounds_toArray, List.set_cons_zero, List.set_cons_succ]
  refine h_take 4 (v := ?v4) rfl (by kernel_rfl) (by kernel_rfl) (by kernel_rfl) (fun _ _ _ h => h) (by rfl) ?hy4 (by assumption) ?_
  case hy4 =>
    intro w' hSw
    try dsimp only at hSw
    go_simp
    try with_reducible rfl
  try simp only [Act.put, List.setIfInBounds_toArray, List.set_cons_zero, List.set_cons_succ]
  refine h_take 5 (v := ?v5) rfl (by kernel_rfl) (by kernel_rfl) (by kernel_rfl) (fun _ _ _ h => h) (by rfl) ?hy5 (by assumption) ?_
  case hy5 =>
    intro w' hSw
    try dsimp only at hSw
    go_simp
    try with_reducible rfl
  try simp only [Act.put, List.setIfInBounds_toArray, List.set_cons_zero, List.set_cons_succ]
  refine h_take 6 (v := ?v6) rfl (by kernel_rfl) (by kernel_rfl) (by kernel_rfl) (fun _ _ _ h => h) (by rfl) ?hy6 (by assumption) ?_
  case hy6 =>
    intro w' hSw
    try dsimp only at hSw
    go_simp
    try with_reducible rfl
  try simp only [Act.put, List.setIfInBounds_toArray, List.set_cons_zero, List.set_cons_succ]
  refine h_call 3 rfl (by kernel_rfl) (by rfl) (fun Kk hK => ?_)
  go_simp
  refine (kM.out X (.slice xa xn xc) w1.drew Lx.out N1.out I1.out).mono ?_
  rintro e w2 ⟨v2, rfl, hn2, g2'⟩
  have g2 : Below w1.heap.size w1 w2 := (Below.refl _ w1).drew.trans g2'
  clear g2'
  have A2 := hold (A1.out.below g2)
  have K2 : w2.cell? ⟨w.heap.size, 0, none⟩ = some (.slice xa xn xc) ∧ w2.cell? ⟨w.heap.size, 1, none⟩ = some (.slice ya yn yc) := ⟨A2.out.cell 0, A2.out.cell 1⟩
  have R2 : Hid (Num w2 v2 (X * r % P25)) := hn2
  have Y2 := hold (Y1.out.below g2)
  have I2 := hold (I1.out.below g2)
  have G2 := hold (G1.out.trans (g2.mono G1.out.size))
  obtain ⟨a2, b2, c2, rfl⟩ := hn2.shape
  clear hn2 g2
  clear hHeld
  refine hK.out _ _ K2 (fun hHeld => ?_)
  clear hK Kk
  try simp only [Act.put, List.setIfInBounds_toArray, List.set_cons_zero, List.set_cons_succ]
  refine h_call 7 rfl (by kernel_rfl) (by rfl) (fun Kk hK => ?_)
  go_simp
  refine (kM.out Y (.slice ya yn yc) w2 Ly.out Y2.out I2.out).mono ?_
  rintro e w3 ⟨v3, rfl, hn3, g3⟩
  have A3 := hold (A2.out.below g3)
  have K3 : w3.cell? ⟨w.heap.size, 0, none⟩ = some (.slice xa xn xc) ∧ w3.cell? ⟨w.heap.size, 1, none⟩ = some (.slice ya yn yc) := ⟨A3.out.cell 0, A3.out.cell 1⟩
  have R3 := hold (R2.out.below g3)
  have Q3 : Hid (Num w3 v3 (Y * r % P25)) := hn3
  have G3 := hold (G2.out.trans (g3.mono G2.out.size))
  obtain ⟨a3, b3, c3, rfl⟩ := hn3.shape
  clear hn3 g3
  clear hHeld
  refine hK.out _ _ K3 (fun hHeld => ?_)
  clear hK Kk
  try simp only [Act.put, List.setIfInBounds_toArray, List.set_cons_zero, List.set_cons_succ]
  refine h_take 8 (v := ?v8) rfl (by kernel_rfl) (by kernel_rfl) (by kernel_rfl) (fun _ _ _ h => h) (by rfl) ?hy8 (by assumption) ?_
  case hy8 =>
    intro w' hSw
    try dsimp only at hSw
    go_simp
    try with_reducible rfl
  try simp only [Act.put, List.setIfInBounds_toArray, List.set_cons_zero, List.set_cons_succ]
  refine h_take 9 (v := ?v9) rfl (by kernel_rfl) (by kernel_rfl) (by kernel_rfl) (fun _ _ _ h => h) (by rfl) ?hy9 (by assumption) ?_
  case hy9 =>
    intro w' hSw
    try dsimp only at hSw
    go_simp
    try with_reducible rfl
  try simp only [Act.put, List.setIfInBounds_toArray, List.set_cons_zero, List.set_cons_succ]
  refine wpAnyH_done (by kernel_rfl) ?_ _
  go_wp2_with fail
  go_ret2
  exact ⟨_, _, rfl, R3.out, Q3.out, G3.out⟩
end Go.Proofs.YtedhfimjcpbcpaaDoor.Ed
