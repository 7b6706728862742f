/-
  The contract of the field's Wide: many bytes as an element, or none; it changes no memory that was there. Conditions: as each theorem says.
-/
import Derived.Test.YtnebpleplogfeaaDoorFO
import Derived.Test.YtnebpleplogfeaaDoorOct
namespace Go.Proofs.YtnebpleplogfeaaDoor
open Go.RowKit
set_option linter.unusedVariables false
set_option linter.unusedSimpArgs false

/-- The bytes of a list, the lowest first, noughts behind. -/
def lowF (l : List Nat) (j : Nat) : Int := ((if j < l.length then l.getD (l.length - 1 - j) 0 else 0 : Nat) : Int)
theorem lowF_rng (l : List Nat) (h : Bb l) (j : Nat) : 0 ≤ lowF l j ∧ lowF l j ≤ 255 := by
  unfold lowF
  split
  · have := h (l.length - 1 - j); omega
  · omega
theorem vb_hvN (l : List Nat) (h : Bb l) : ∀ t, t ≤ l.length → vb (fun j => lowF l (l.length - t + j)) t = hvN l t
  | 0, _ => rfl
  | t + 1, ht => by
    have ih := vb_hvN l h t (by omega)
    have e := vb_add (fun j => lowF l (l.length - (t + 1) + j)) 1 t
    rw [Nat.add_comm 1 t] at e
    rw [e]
    have e2 : (fun j => lowF l (l.length - (t + 1) + (1 + j))) = fun j => lowF l (l.length - t + j) := by
      funext j; congr 1; omega
    rw [e2, ih]
    simp only [hvN, vb]
    have e3 : lowF l (l.length - (t + 1) + 0) = (l.getD t 0 : Int) := by
      unfold lowF
      rw [if_pos (by omega)]
      congr 2; omega
    rw [e3]
    simp
    omega
theorem vb_zero_tail (f : Nat → Int) (n : Nat) (h : ∀ j, n ≤ j → f j = 0) : ∀ m, vb f (n + m) = vb f n
  | 0 => rfl
  | m + 1 => by
    rw [← Nat.add_assoc]
    simp only [vb]
    rw [vb_zero_tail f n h m, h (n + m) (by omega)]
    simp
theorem wide_val (l : List Nat) (h : Bb l) (hl : l.length ≤ 64) : vb (lowF l) 32 + 2 ^ 256 * vb (fun j => lowF l (32 + j)) 32 = hvN l l.length := by
  have e1 := vb_add (lowF l) 32 32
  have e2 := vb_hvN l h l.length (Nat.le_refl _)
  rw [Nat.sub_self] at e2
  have e3 : (fun j => lowF l (0 + j)) = lowF l := by funext j; rw [Nat.zero_add]
  rw [e3] at e2
  have e4 := vb_zero_tail (lowF l) l.length (fun j hj => by unfold lowF; rw [if_neg (by omega)]; rfl) (64 - l.length)
  rw [show l.length + (64 - l.length) = 32 + 32 by omega] at e4
  rw [show (256 : Nat) ^ 32 = 2 ^ 256 by decide] at e1
  rw [← e2, ← e4, e1]
/-- 64 bytes in block g: the last i of the list stand in their places. -/
structure W64 (W : World) (g : Nat) (l : List Nat) (i : Nat) : Prop where
  lt : g < W.heap.size
  c : ∀ j, j < 64 → W.cell? ⟨g, j, none⟩ = some (.int .u8 (if l.length - i ≤ j then lowF l j else 0))
  fr : ∀ j, W.frozen? ⟨g, j, none⟩ = false

theorem W64.drew {W : World} {g : Nat} {l : List Nat} {i : Nat} (h : W64 W g l i) : W64 W.drew g l i := ⟨h.lt, h.c, h.fr⟩
theorem W64.below {W W' : World} {g : Nat} {l : List Nat} {i : Nat} (h : W64 W g l i) (hb : Below W.heap.size W W') : W64 W' g l i :=
  ⟨Nat.lt_of_lt_of_le h.lt hb.size, fun j hj => (hb.cell (p := ⟨g, j, none⟩) h.lt).trans (h.c j hj), fun j => (hb.frozen (p := ⟨g, j, none⟩) h.lt).trans (h.fr j)⟩
theorem W64.step {W : World} {g : Nat} {l : List Nat} {i : Nat} (h : W64 W g l i) (hl : l.length ≤ 64) (hi : i < l.length) (p : Nat) (hp : p = l.length - 1 - i) : W64 (W.setCell ⟨g, p, none⟩ (.int .u8 (l.getD i 0 : Int))) g l (i + 1) := by
  refine ⟨by simpa using h.lt, fun j hj => ?_, fun j => by simpa using h.fr j⟩
  by_cases e : j = p
  · rw [e, World.cell?_setCell_same _ _ _ (h.c p (by omega)), if_pos (by omega)]
    unfold lowF
    rw [if_pos (by omega)]
    congr 4
    omega
  · rw [World.cell?_setCell_other _ _ _ _ (fun q => e (by simpa using (congrArg Addr.off q).symm)), h.c j hj]
    by_cases h1 : l.length - i ≤ j
    · rw [if_pos h1, if_pos (by omega)]
    · rw [if_neg h1, if_neg (by omega)]
theorem W64.new (W : World) (g : Nat) (l : List Nat) (t : TypeId) (cs : Array Value) (hc : cs = Array.replicate 64 (.int .u8 0)) (hg : g = W.heap.size) : W64 (W.alloc (.cells cs t)) g l 0 := by
  subst hc hg
  refine ⟨by simp, fun j hj => ?_, fun j => by simp [go_sem]⟩
  have e : (if l.length - 0 ≤ j then lowF l j else 0) = 0 := by
    split
    · unfold lowF; rw [if_neg (by omega)]; rfl
    · rfl
  rw [e]
  simp [go_sem, hj]
theorem wide_no (a : Option Addr) (n cap : Nat) (hn : 64 < n) (w : World) : Calls Tryd.prog 34 #[.slice a n cap] w fun e w' => e = .returned (.tuple #[.agg #[.int .u64 0, .int .u64 0, .int .u64 0, .int .u64 0, .int .u64 0], .bool false]) ∧ Below w.heap.size w w' := by
  have h : (64 : Int) < (n : Int) := by omega
  go_enter Tryd.func34, Tryd.ntmps34
  go_wp2_with fail
  refine bodyPost_ret (v := .tuple #[.agg #[.int .u64 0, .int .u64 0, .int .u64 0, .int .u64 0, .int .u64 0], .bool false]) (by simp [results, Tryd.results34, go_sem]) rfl ⟨rfl, ?_⟩
  (repeat (first | exact Below.refl _ _ | refine Below.alloc ?_ (by simp <;> omega) _))
set_option maxRecDepth 100000 in
set_option maxHeartbeats 8000000 in
theorem wide_yes (l : List Nat) (hb : Bb l) (hl : l.length ≤ 64) : ∃ z : L5, z.Tm ∧ z.nn = hvN l l.length % P25 ∧ ∀ (v : Value) (w : World), SK .u8 w v l → Calls Tryd.prog 34 #[v] w fun e w' => e = .returned (.tuple #[.agg #[.int .u64 z.l0, .int .u64 z.l1, .int .u64 z.l2, .int .u64 z.l3, .int .u64 z.l4], .bool true]) ∧ Below w.heap.size w w' := by
  have r1 := lowF_rng l hb
  have r2 : ∀ j, 0 ≤ lowF l (32 + j) ∧ lowF l (32 + j) ≤ 255 := fun j => r1 _
  have b1 := vb32_lt (lowF l) r1
  have b2 := vb32_lt (fun j => lowF l (32 + j)) r2
  have hv := wide_val l hb hl
  obtain ⟨m, hm, em, km⟩ := mul_fe (ld (vb (fun j => lowF l (32 + j)) 32)) ⟨38, 0, 0, 0, 0⟩ (ld_tame _ b2) (by unfold L5.Tm Tame; dsimp only; omega)
  obtain ⟨s, hs, es, ks⟩ := add_fe (ld (vb (lowF l) 32)) m (ld_tame _ b1) hm
  refine ⟨s, hs, ?_, fun v w hS => ?_⟩
  · have n1 := nn_add _ _ s es.out
    have n2 := nn_mul _ _ m em.out
    have n3 : L5.nn ⟨38, 0, 0, 0, 0⟩ = 38 := nn_small 38 (by decide +kernel)
    have n4 : ∀ n, (ld n).nn = n % P25 := fun n => L5.nn_of (by rw [ld_num])
    rw [n1, n2, n3, n4, n4, ← hv]
    generalize vb (lowF l) 32 = A
    generalize vb (fun j => lowF l (32 + j)) 32 = C
    rw [mod_mul_mod, ← Nat.add_mod, show 2 ^ 256 * C = C * 38 + P25 * (2 * C) by unfold P25; omega, ← Nat.add_assoc, Nat.add_mul_mod_self_left]
  · obtain ⟨a, cap, rfl, hcap, hnil, hc⟩ := hS
    have HC : Hid (∀ j, j < l.length → ∃ b o, a = some ⟨b, o, none⟩ ∧ b < w.heap.size ∧ w.cell? ⟨b, o + j, none⟩ = some (.int .u8 (l.getD j 0 : Int))) := hc
    have kA : Hid (∀ W, W64 W (w.heap.size + 1) l l.length → Calls Tryd.prog 57 #[.slice (some ⟨w.heap.size + 1, 0, none⟩) 32 64] W fun e w' => e = .returned (.agg #[.int .u64 ((ld (vb (lowF l) 32)).l0), .int .u64 ((ld (vb (lowF l) 32)).l1), .int .u64 ((ld (vb (lowF l) 32)).l2), .int .u64 ((ld (vb (lowF l) 32)).l3), .int .u64 ((ld (vb (lowF l) 32)).l4)]) ∧ Below W.heap.size W w') := fun W h => load_any (lowF l) r1 (w.heap.size + 1) 0 64 W h.lt (fun j hj => by rw [Nat.zero_add, h.c j (by omega), if_pos (by omega)])
    have kC : Hid (∀ W, W64 W (w.heap.size + 1) l l.length → Calls Tryd.prog 57 #[.slice (some ⟨w.heap.size + 1, 32, none⟩) 32 32] W fun e w' => e = .returned (.agg #[.int .u64 ((ld (vb (fun j => lowF l (32 + j)) 32)).l0), .int .u64 ((ld (vb (fun j => lowF l (32 + j)) 32)).l1), .int .u64 ((ld (vb (fun j => lowF l (32 + j)) 32)).l2), .int .u64 ((ld (vb (fun j => lowF l (32 + j)) 32)).l3), .int .u64 ((ld (vb (fun j => lowF l (32 + j)) 32)).l4)]) ∧ Below W.heap.size W w') := fun W h => load_any (fun j => lowF l (32 + j)) r2 (w.heap.size + 1) 32 32 W h.lt (fun j hj => by rw [h.c (32 + j) (by omega), if_pos (by omega)])
    have k38 : Hid (∀ W, Calls Tryd.prog 19 #[.int .u32 38] W fun e w' => e = .returned (.agg #[.int .u64 38, .int .u64 0, .int .u64 0, .int .u64 0, .int .u64 0]) ∧ Below W.heap.size W w') := fun W => small_fe 38 (by omega) W
    generalize ld (vb (lowF l) 32) = p at *
    generalize ld (vb (fun j => lowF l (32 + j)) 32) = q at *
    clear em es hm hs b1 b2 hv r1 r2
    obtain ⟨p0, p1, p2, p3, p4⟩ := p
    obtain ⟨q0, q1, q2, q3, q4⟩ := q
    obtain ⟨m0, m1, m2, m3, m4⟩ := m
    obtain ⟨s0, s1, s2, s3, s4⟩ := s
    dsimp only at kA kC km ks ⊢
    have Qm : Hid (∀ w : World, Calls Tryd.prog 17 #[.agg #[.int .u64 q0, .int .u64 q1, .int .u64 q2, .int .u64 q3, .int .u64 q4], .agg #[.int .u64 38, .int .u64 0, .int .u64 0, .int .u64 0, .int .u64 0]] w fun e w' => e = .returned (.agg #[.int .u64 m0, .int .u64 m1, .int .u64 m2, .int .u64 m3, .int .u64 m4]) ∧ Below w.heap.size w w') := km
    have Qs : Hid (∀ w : World, Calls Tryd.prog 12 #[.agg #[.int .u64 p0, .int .u64 p1, .int .u64 p2, .int .u64 p3, .int .u64 p4], .agg #[.int .u64 m0, .int .u64 m1, .int .u64 m2, .int .u64 m3, .int .u64 m4]] w fun e w' => e = .returned (.agg #[.int .u64 s0, .int .u64 s1, .int .u64 s2, .int .u64 s3, .int .u64 s4]) ∧ Below w.heap.size w w') := ks
    clear km ks
    have hl' : ¬ (64 : Int) < (l.length : Int) := by omega
    have hl2 : (l.length : Int) ≤ 64 := by omega
    clear hc hnil
    go_enter Tryd.func34, Tryd.ntmps34
    go_wp2_with fail
    refine wp_cut (fun V => W64 V (w.heap.size + 1) l 0 ∧ Bl5 V w.heap.size 0 0 0 0 0 ∧ Below w.heap.size w V) ⟨?_, ?_, ?_⟩ ?_
    · exact W64.new _ _ _ _ _ rfl (by simp)
    · exact (Bl5.new w _ _ _ _ _ _ _ rfl).alloc _
    · exact ((Below.refl _ _).alloc (Nat.le_refl _) _).alloc (by simp) _
    rintro v1 ⟨hW, hR, hB⟩
    have KW : Hid (W64 v1 (w.heap.size + 1) l 0) := hW
    have KR : Hid (Bl5 v1 w.heap.size 0 0 0 0 0) := hR
    have KB : Hid (Below w.heap.size w v1) := hB
    clear hW hR hB
    go_loopw [15] (fun y wr => ∃ i : Nat, i ≤ l.length ∧ y = .int .i64 (i : Int) ∧ Hid (W64 wr (w.heap.size + 1) l i) ∧ Hid (Bl5 wr w.heap.size 0 0 0 0 0) ∧ Hid (Below w.heap.size w wr)) (fun y _ => l.length - (intOf y).toNat)
    case atStart => exact ⟨0, by omega, rfl, KW, KR, KB⟩
    case round =>
      obtain ⟨i, hi, rfl, hW, hR, hG⟩ := hrel
      obtain ⟨w0, hw0⟩ : ∃ w0, wr = w0 := ⟨_, rfl⟩
      subst hw0
      clear KW KR KB
      by_cases hlt : i < l.length
      · obtain ⟨b, o, rfl, hbl, hcb⟩ := HC.out i hlt
        have c1 : wr.cell? ⟨b, o + i, none⟩ = some (.int .u8 (l.getD i 0 : Int)) := (hG.out.cell (p := ⟨b, o + i, none⟩) hbl).trans hcb
        obtain ⟨p, hp⟩ : ∃ p : Nat, (l.length : Int) - 1 - (i : Int) = (p : Int) := ⟨l.length - 1 - i, by omega⟩
        have hp0 : (p : Int) < 64 := by omega
        have hp1 : (0 : Int) ≤ (p : Int) := by omega
        have c2 := hW.out.c p (by omega)
        have c3 := hW.out.fr
        have c4 := hW.out.lt
        have m1 : IntKind.i64.wrap ((l.length : Int) - 1) = (l.length : Int) - 1 := wrapI _ (by omega) (by omega)
        have m2 : IntKind.i64.wrap ((l.length : Int) - 1 - (i : Int)) = (p : Int) := by rw [hp]; exact wrapI _ (by omega) (by omega)
        have m3 : IntKind.i64.wrap (p : Int) = (p : Int) := wrapI _ (by omega) (by omega)
        have hlt' : (i : Int) < (l.length : Int) := by omega
        have ST : Hid (W64 (wr.setCell ⟨w.heap.size + 1, p, none⟩ (.int .u8 (l.getD i 0 : Int))) (w.heap.size + 1) l (i + 1)) := hW.out.step hl hlt p (by omega)
        obtain ⟨x, hx⟩ : ∃ x : Int, (l.getD i 0 : Int) = x := ⟨_, rfl⟩
        rw [hx] at c1 ST
        obtain ⟨y, hy⟩ : ∃ y : Int, (if l.length - i ≤ p then lowF l p else 0) = y := ⟨_, rfl⟩
        rw [hy] at c2
        have I : Hid (i < l.length) := hlt
        clear hx hy hcb hlt HC hi
        go_wp2_with fail
        go_roundw
        case rel =>
          refine ⟨i + 1, by have := I.out; omega, by go_num, ST, hR.out.other _ _ _ (by omega), hG.out.setCell (by simp) _⟩
        case measure => have := I.out; simp [intOf]; omega
      · obtain rfl : i = l.length := by omega
        have R_1 : Hid (Bl5 wr w.heap.size 0 0 0 0 0) := hR
        have B_1 : Hid (W64 wr (w.heap.size + 1) l l.length) := hW
        have G_1 : Hid (Below w.heap.size w wr) := hG
        clear hR hW hG HC
        go_wp2_with fail
        refine wp_region_grow (ob := (fun k => if k = 4 ∨ k = 5 then some (.cells #[.int .u64 0, .int .u64 0, .int .u64 0, .int .u64 0, .int .u64 0] 24) else none)) (st := (fun k => if k = 6 then some (4, .cells #[.int .u64 p0, .int .u64 p1, .int .u64 p2, .int .u64 p3, .int .u64 p4] 24) else if k = 7 then some (5, .cells #[.int .u64 q0, .int .u64 q1, .int .u64 q2, .int .u64 q3, .int .u64 q4] 24) else none)) (by kernel_rfl) ?_
        simp only [List.size_toArray, List.length_cons, List.length_nil, Nat.reduceAdd, Array.replicate_succ, Array.replicate_zero, List.push_toArray, List.nil_append, List.cons_append]
        refine g_first 0 _ (.slice (some ⟨w.heap.size + 1, 0, none⟩) 32 64) rfl rfl rfl (by kernel_rfl) (by kernel_rfl) (by kernel_rfl) ?_ ?_
        · refine Or.inl ⟨by rfl, fun w' hw' => ?_⟩
          unfold Oper.quietAt
          go_simp
        try simp only [List.getElem_toArray, List.getElem_cons_zero, List.getElem_cons_succ, Act.put, List.setIfInBounds_toArray, List.set_cons_zero, List.set_cons_succ]
        refine g_first 1 _ (.agg #[.int .u64 p0, .int .u64 p1, .int .u64 p2, .int .u64 p3, .int .u64 p4]) rfl rfl rfl (by kernel_rfl) (by kernel_rfl) (by kernel_rfl) ?_ ?_
        · refine Or.inl ⟨by rfl, fun w' hw' => ?_⟩
          refine quiet_call (by go_simp) (kA.out w' (B_1.out.below hw'))
        try simp only [List.getElem_toArray, List.getElem_cons_zero, List.getElem_cons_succ, Act.put, List.setIfInBounds_toArray, List.set_cons_zero, List.set_cons_succ]
        refine g_first 2 _ (.slice (some ⟨w.heap.size + 1, 32, none⟩) 32 32) rfl rfl rfl (by kernel_rfl) (by kernel_rfl) (by kernel_rfl) ?_ ?_
        · refine Or.inl ⟨by rfl, fun w' hw' => ?_⟩
          unfold Oper.quietAt
          go_simp
        try simp only [List.getElem_toArray, List.getElem_cons_zero, List.getElem_cons_succ, Act.put, List.setIfInBounds_toArray, List.set_cons_zero, List.set_cons_succ]
        refine g_first 3 _ (.agg #[.int .u64 q0, .int .u64 q1, .int .u64 q2, .int .u64 q3, .int .u64 q4]) rfl rfl rfl (by kernel_rfl) (by kernel_rfl) (by kernel_rfl) ?_ ?_
        · refine Or.inl ⟨by rfl, fun w' hw' => ?_⟩
          refine quiet_call (by go_simp) (kC.out w' (B_1.out.below hw'))
        try simp only [List.getElem_toArray, List.getElem_cons_zero, List.getElem_cons_succ, Act.put, List.setIfInBounds_toArray, List.set_cons_zero, List.set_cons_succ]
        refine g_make 4 _ (.cells #[.int .u64 0, .int .u64 0, .int .u64 0, .int .u64 0, .int .u64 0] 24) (fun k => (decide (4 ≤ k ∧ k ≤ 5)) || (decide (6 ≤ k ∧ k ≤ 7) && k != 6)) rfl rfl rfl rfl ?_ ?_ (by kernel_rfl) (by kernel_rfl) (by kernel_rfl) (by kernel_rfl) (fun gx => ?_)
        · intro a w
          go_simp
        · intro j hj
          simp only [Bool.or_eq_true, Bool.and_eq_true, decide_eq_true_eq, bne_iff_ne] at hj
          rcases hj with hj | ⟨hj, hne⟩
          · left
            rcases (show j = 4 ∨ j = 5 by omega) with rfl | rfl <;> simp
          · right
            rcases (show j = 6 ∨ j = 7 by omega) with rfl | rfl <;> first | exact ⟨_, _, rfl, by decide⟩ | omega
        try simp only [List.getElem_toArray, List.getElem_cons_zero, List.getElem_cons_succ, Act.put, List.setIfInBounds_toArray, List.set_cons_zero, List.set_cons_succ]
        refine g_make 5 _ (.cells #[.int .u64 0, .int .u64 0, .int .u64 0, .int .u64 0, .int .u64 0] 24) (fun k => (decide (4 ≤ k ∧ k ≤ 5)) || (decide (6 ≤ k ∧ k ≤ 7) && k != 7)) rfl rfl rfl rfl ?_ ?_ (by kernel_rfl) (by kernel_rfl) (by kernel_rfl) (by kernel_rfl) (fun gy => ?_)
        · intro a w
          go_simp
        · intro j hj
          simp only [Bool.or_eq_true, Bool.and_eq_true, decide_eq_true_eq, bne_iff_ne] at hj
          rcases hj with hj | ⟨hj, hne⟩
          · left
            rcases (show j = 4 ∨ j = 5 by omega) with rfl | rfl <;> simp
          · right
            rcases (show j = 6 ∨ j = 7 by omega) with rfl | rfl <;> first | exact ⟨_, _, rfl, by decide⟩ | omega
        try simp only [List.getElem_toArray, List.getElem_cons_zero, List.getElem_cons_succ, Act.put, List.setIfInBounds_toArray, List.set_cons_zero, List.set_cons_succ]
        refine g_store 6 4 _ (.cells #[.int .u64 p0, .int .u64 p1, .int .u64 p2, .int .u64 p3, .int .u64 p4] 24) gx (.cells #[.int .u64 0, .int .u64 0, .int .u64 0, .int .u64 0, .int .u64 0] 24) (fun k => decide (6 ≤ k ∧ k ≤ 7) && k != 6) rfl rfl rfl rfl ?_ (by kernel_rfl) (by kernel_rfl) (by kernel_rfl) (by kernel_rfl) (by simp [upd]) ?_ ?_
        · intro j hj
          simp only [Bool.and_eq_true, decide_eq_true_eq, bne_iff_ne] at hj
          rcases (show j = 6 ∨ j = 7 by omega) with rfl | rfl <;> first | exact ⟨_, _, rfl, by decide⟩ | omega
        · intro w' hh
          obtain ⟨k0, k1, k2, k3, k4, k5, k6⟩ := bl5_of_heap hh
          refine ⟨(((((w'.setCell ⟨gx, 0, none⟩ (.int .u64 p0)).setCell ⟨gx, 1, none⟩ (.int .u64 p1)).setCell ⟨gx, 2, none⟩ (.int .u64 p2)).setCell ⟨gx, 3, none⟩ (.int .u64 p3)).setCell ⟨gx, 4, none⟩ (.int .u64 p4)), ?_, turned_set5 _ _ _ _ _ hh⟩
          clear hh
          go_simp
        try simp only [List.getElem_toArray, List.getElem_cons_zero, List.getElem_cons_succ, Act.put, List.setIfInBounds_toArray, List.set_cons_zero, List.set_cons_succ]
        refine g_store 7 5 _ (.cells #[.int .u64 q0, .int .u64 q1, .int .u64 q2, .int .u64 q3, .int .u64 q4] 24) gy (.cells #[.int .u64 0, .int .u64 0, .int .u64 0, .int .u64 0, .int .u64 0] 24) (fun k => decide (6 ≤ k ∧ k ≤ 7) && k != 7) rfl rfl rfl rfl ?_ (by kernel_rfl) (by kernel_rfl) (by kernel_rfl) (by kernel_rfl) (by simp [upd]) ?_ ?_
        · intro j hj
          simp only [Bool.and_eq_true, decide_eq_true_eq, bne_iff_ne] at hj
          rcases (show j = 6 ∨ j = 7 by omega) with rfl | rfl <;> first | exact ⟨_, _, rfl, by decide⟩ | omega
        · intro w' hh
          obtain ⟨k0, k1, k2, k3, k4, k5, k6⟩ := bl5_of_heap hh
          refine ⟨(((((w'.setCell ⟨gy, 0, none⟩ (.int .u64 q0)).setCell ⟨gy, 1, none⟩ (.int .u64 q1)).setCell ⟨gy, 2, none⟩ (.int .u64 q2)).setCell ⟨gy, 3, none⟩ (.int .u64 q3)).setCell ⟨gy, 4, none⟩ (.int .u64 q4)), ?_, turned_set5 _ _ _ _ _ hh⟩
          clear hh
          go_simp
        try simp only [List.getElem_toArray, List.getElem_cons_zero, List.getElem_cons_succ, Act.put, List.setIfInBounds_toArray, List.set_cons_zero, List.set_cons_succ]
        refine ⟨by kernel_rfl, fun u2 hV => ?_⟩
        have g := hV.bel
        have own0 := hV.own 4 _ (by simp [upd]; rfl)
        have X_2 : Hid (Bl5 u2 gx p0 p1 p2 p3 p4) := bl5_of_heap own0.2.2
        have nbXR : ¬ (gx = w.heap.size) := by have h1 := own0.1; have h2 := R_1.out.lt; dsimp only at h1; omega
        have szX : w.heap.size ≤ gx := by have h1 := own0.1; have h2 := G_1.out.size; dsimp only at h1; omega
        have own1 := hV.own 5 _ (by simp [upd]; rfl)
        have Y_2 : Hid (Bl5 u2 gy q0 q1 q2 q3 q4) := bl5_of_heap own1.2.2
        have nbYR : ¬ (gy = w.heap.size) := by have h1 := own1.1; have h2 := R_1.out.lt; dsimp only at h1; omega
        have szY : w.heap.size ≤ gy := by have h1 := own1.1; have h2 := G_1.out.size; dsimp only at h1; omega
        have R_2 : Hid (Bl5 u2 w.heap.size 0 0 0 0 0) := R_1.out.below g
        have B_2 : Hid (W64 u2 (w.heap.size + 1) l l.length) := B_1.out.below g
        have G_2 : Hid (Below w.heap.size w u2) := G_1.out.trans (g.mono G_1.out.size)
        clear hV g own0 own1 R_1 B_1 G_1
        have K : u2.drew.cell? ⟨gx, 0, none⟩ = some (.int .u64 p0) ∧ u2.drew.cell? ⟨gx, 1, none⟩ = some (.int .u64 p1) ∧ u2.drew.cell? ⟨gx, 2, none⟩ = some (.int .u64 p2) ∧ u2.drew.cell? ⟨gx, 3, none⟩ = some (.int .u64 p3) ∧ u2.drew.cell? ⟨gx, 4, none⟩ = some (.int .u64 p4) ∧ u2.drew.cell? ⟨gy, 0, none⟩ = some (.int .u64 q0) ∧ u2.drew.cell? ⟨gy, 1, none⟩ = some (.int .u64 q1) ∧ u2.drew.cell? ⟨gy, 2, none⟩ = some (.int .u64 q2) ∧ u2.drew.cell? ⟨gy, 3, none⟩ = some (.int .u64 q3) ∧ u2.drew.cell? ⟨gy, 4, none⟩ = some (.int .u64 q4) := ⟨X_2.out.drew.c0, X_2.out.drew.c1, X_2.out.drew.c2, X_2.out.drew.c3, X_2.out.drew.c4, Y_2.out.drew.c0, Y_2.out.drew.c1, Y_2.out.drew.c2, Y_2.out.drew.c3, Y_2.out.drew.c4⟩
        have R_2' : Hid (Bl5 u2.drew w.heap.size 0 0 0 0 0) := R_2.out.drew
        have X_2' : Hid (Bl5 u2.drew gx p0 p1 p2 p3 p4) := X_2.out.drew
        have Y_2' : Hid (Bl5 u2.drew gy q0 q1 q2 q3 q4) := Y_2.out.drew
        have B_2' : Hid (W64 u2.drew (w.heap.size + 1) l l.length) := B_2.out.below (Below.refl _ _).drew
        have G_2' : Hid (Below w.heap.size w u2.drew) := G_2.out.drew
        have neX : ¬ (w.heap.size = gx) := by omega
        have neX' : ¬ (gx = w.heap.size) := by omega
        have neY : ¬ (w.heap.size = gy) := by omega
        have neY' : ¬ (gy = w.heap.size) := by omega
        go_wp2_with fail
        go_region_held3 (fun w' => w'.cell? ⟨gx, 0, none⟩ = some (.int .u64 p0) ∧ w'.cell? ⟨gx, 1, none⟩ = some (.int .u64 p1) ∧ w'.cell? ⟨gx, 2, none⟩ = some (.int .u64 p2) ∧ w'.cell? ⟨gx, 3, none⟩ = some (.int .u64 p3) ∧ w'.cell? ⟨gx, 4, none⟩ = some (.int .u64 p4) ∧ w'.cell? ⟨gy, 0, none⟩ = some (.int .u64 q0) ∧ w'.cell? ⟨gy, 1, none⟩ = some (.int .u64 q1) ∧ w'.cell? ⟨gy, 2, none⟩ = some (.int .u64 q2) ∧ w'.cell? ⟨gy, 3, none⟩ = some (.int .u64 q3) ∧ w'.cell? ⟨gy, 4, none⟩ = some (.int .u64 q4)) (first | with_reducible assumption | go_keep)
          (first
            | (go_at_call 12; have gg := G_4; clear gg; (refine (Qs.out _).mono ?_); (rintro e u5 ⟨rfl, g⟩; have R_5 : Hid (Bl5 u5 w.heap.size 0 0 0 0 0) := R_4.out.below g; have X_5 : Hid (Bl5 u5 gx p0 p1 p2 p3 p4) := X_4.out.below g; have Y_5 : Hid (Bl5 u5 gy q0 q1 q2 q3 q4) := Y_4.out.below g; have B_5 : Hid (W64 u5 (w.heap.size + 1) l l.length) := B_4.out.below g; have G_5 : Hid (Below w.heap.size w u5) := G_4.out.trans (g.mono G_4.out.size); clear g; clear K; have K : u5.cell? ⟨gx, 0, none⟩ = some (.int .u64 p0) ∧ u5.cell? ⟨gx, 1, none⟩ = some (.int .u64 p1) ∧ u5.cell? ⟨gx, 2, none⟩ = some (.int .u64 p2) ∧ u5.cell? ⟨gx, 3, none⟩ = some (.int .u64 p3) ∧ u5.cell? ⟨gx, 4, none⟩ = some (.int .u64 p4) ∧ u5.cell? ⟨gy, 0, none⟩ = some (.int .u64 q0) ∧ u5.cell? ⟨gy, 1, none⟩ = some (.int .u64 q1) ∧ u5.cell? ⟨gy, 2, none⟩ = some (.int .u64 q2) ∧ u5.cell? ⟨gy, 3, none⟩ = some (.int .u64 q3) ∧ u5.cell? ⟨gy, 4, none⟩ = some (.int .u64 q4) := ⟨X_5.out.c0, X_5.out.c1, X_5.out.c2, X_5.out.c3, X_5.out.c4, Y_5.out.c0, Y_5.out.c1, Y_5.out.c2, Y_5.out.c3, Y_5.out.c4⟩; obtain ⟨stl, st0, st1, st2, st3, st4, stf⟩ := R_5.out))
            | (go_at_call 17; have gg := G_3; clear gg; (refine (Qm.out _).mono ?_); (rintro e u4 ⟨rfl, g⟩; have R_4 : Hid (Bl5 u4 w.heap.size 0 0 0 0 0) := R_3.out.below g; have X_4 : Hid (Bl5 u4 gx p0 p1 p2 p3 p4) := X_3.out.below g; have Y_4 : Hid (Bl5 u4 gy q0 q1 q2 q3 q4) := Y_3.out.below g; have B_4 : Hid (W64 u4 (w.heap.size + 1) l l.length) := B_3.out.below g; have G_4 : Hid (Below w.heap.size w u4) := G_3.out.trans (g.mono G_3.out.size); clear g; clear K; have K : u4.cell? ⟨gx, 0, none⟩ = some (.int .u64 p0) ∧ u4.cell? ⟨gx, 1, none⟩ = some (.int .u64 p1) ∧ u4.cell? ⟨gx, 2, none⟩ = some (.int .u64 p2) ∧ u4.cell? ⟨gx, 3, none⟩ = some (.int .u64 p3) ∧ u4.cell? ⟨gx, 4, none⟩ = some (.int .u64 p4) ∧ u4.cell? ⟨gy, 0, none⟩ = some (.int .u64 q0) ∧ u4.cell? ⟨gy, 1, none⟩ = some (.int .u64 q1) ∧ u4.cell? ⟨gy, 2, none⟩ = some (.int .u64 q2) ∧ u4.cell? ⟨gy, 3, none⟩ = some (.int .u64 q3) ∧ u4.cell? ⟨gy, 4, none⟩ = some (.int .u64 q4) := ⟨X_4.out.c0, X_4.out.c1, X_4.out.c2, X_4.out.c3, X_4.out.c4, Y_4.out.c0, Y_4.out.c1, Y_4.out.c2, Y_4.out.c3, Y_4.out.c4⟩))
            | (go_at_call 19; have gg := G_2'; clear gg; (refine (k38.out _).mono ?_); (rintro e u3 ⟨rfl, g⟩; have R_3 : Hid (Bl5 u3 w.heap.size 0 0 0 0 0) := R_2'.out.below g; have X_3 : Hid (Bl5 u3 gx p0 p1 p2 p3 p4) := X_2'.out.below g; have Y_3 : Hid (Bl5 u3 gy q0 q1 q2 q3 q4) := Y_2'.out.below g; have B_3 : Hid (W64 u3 (w.heap.size + 1) l l.length) := B_2'.out.below g; have G_3 : Hid (Below w.heap.size w u3) := G_2'.out.trans (g.mono G_2'.out.size); clear g; clear K; have K : u3.cell? ⟨gx, 0, none⟩ = some (.int .u64 p0) ∧ u3.cell? ⟨gx, 1, none⟩ = some (.int .u64 p1) ∧ u3.cell? ⟨gx, 2, none⟩ = some (.int .u64 p2) ∧ u3.cell? ⟨gx, 3, none⟩ = some (.int .u64 p3) ∧ u3.cell? ⟨gx, 4, none⟩ = some (.int .u64 p4) ∧ u3.cell? ⟨gy, 0, none⟩ = some (.int .u64 q0) ∧ u3.cell? ⟨gy, 1, none⟩ = some (.int .u64 q1) ∧ u3.cell? ⟨gy, 2, none⟩ = some (.int .u64 q2) ∧ u3.cell? ⟨gy, 3, none⟩ = some (.int .u64 q3) ∧ u3.cell? ⟨gy, 4, none⟩ = some (.int .u64 q4) := ⟨X_3.out.c0, X_3.out.c1, X_3.out.c2, X_3.out.c3, X_3.out.c4, Y_3.out.c0, Y_3.out.c1, Y_3.out.c2, Y_3.out.c3, Y_3.out.c4⟩))
            | fail)
        clear K neX neX' neY neY'
        go_wp2_with fail
        refine body_cut (fun W => Bl5 W w.heap.size s0 s1 s2 s3 s4 ∧ Below w.heap.size w W) ⟨R_5.out.set s0 s1 s2 s3 s4, ?_⟩ ?_
        · iterate 5 (refine Below.setCell ?_ (by simp <;> omega) _)
          exact G_5.out
        · rintro W ⟨⟨rl, r0, r1, r2, r3, r4, rf⟩, hb⟩
          exact bodyPost_ret (v := .tuple #[.agg #[.int .u64 s0, .int .u64 s1, .int .u64 s2, .int .u64 s3, .int .u64 s4], .bool true]) (by simp [results, Tryd.results34, go_sem, r0, r1, r2, r3, r4]) rfl ⟨rfl, hb⟩

end Go.Proofs.YtnebpleplogfeaaDoor
