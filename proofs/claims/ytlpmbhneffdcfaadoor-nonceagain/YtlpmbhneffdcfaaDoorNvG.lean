/-
  The library's bytes.Repeat of one byte 1, 32 times, as layer 8 calls it. Conditions: as the theorem says.
-/
import Derived.Test.YtlpmbhneffdcfaaDoorGX
import Derived.Test.YtlpmbhneffdcfaaDoorShelf
import Derived.Lib.MakeNoZero
import Derived.Laws.CopyOwn
import Derived.Deep.RegionLaw
import Derived.Test.YtlpmbhneffdcfaaDoorNvB
import Derived.Test.YtlpmbhneffdcfaaDoorLate
import Derived.Test.YtlpmbhneffdcfaaDoorNvV
namespace Go.Proofs.YtlpmbhneffdcfaaDoor
open Go.RowKit
set_option linter.unusedVariables false
set_option linter.unusedSimpArgs false

set_option maxRecDepth 100000 in
theorem bmul_any (w : World) :
    Calls Tryd.prog 36 #[.int .u64 1, .int .u64 32] w fun e w' => e = .returned (.tuple #[.int .u64 0, .int .u64 32]) ∧ w' = w := by
  have kM : Hid (Calls Tryd.prog 56 #[.int .u64 1, .int .u64 32] w fun e w' => e = .returned (.tuple #[.int .u64 0, .int .u64 32]) ∧ w' = w) := mul64_any 1 32 (by omega) (by omega) w
  go_enter Tryd.func36, Tryd.ntmps36
  go_wp2_with fail
  refine kM.out.mono ?_
  rintro e w1 ⟨rfl, hw1⟩
  rw [hw1]
  clear hw1 w1 kM
  go_wp2_with fail
  exact bodyPost_ret (v := .tuple #[.int .u64 0, .int .u64 32]) (by simp [results, Tryd.results36, go_sem]) rfl ⟨rfl, rfl⟩
theorem splice_ones (R : List Value) (m n : Nat) (hR : n ≤ R.length) : splice (bv8 (List.replicate m 1) ++ R) m (bv8 (List.replicate n 1)) = bv8 (List.replicate (m + n) 1) ++ R.drop n := by
  have hl : (bv8 (List.replicate m 1)).length = m := by rw [bv8_length]; simp
  have hn : (bv8 (List.replicate n 1)).length = n := by rw [bv8_length]; simp
  unfold splice
  rw [hn, List.take_append_of_le_length (by omega), List.take_of_length_le (by omega), List.drop_append, hl, show m + n - m = n by omega, List.drop_eq_nil_of_le (by omega), List.nil_append]
  rw [← List.append_assoc]
  congr 1
  unfold bv8
  rw [← List.map_append, List.replicate_append_replicate]
theorem ones_sk {W : World} {T : TypeId} {b m c : Nat} {R : List Value} (h : At T W b (bv8 (List.replicate m 1) ++ R)) (hc : m ≤ c) : SK .u8 W (.slice (some ⟨b, 0, none⟩) m c) (List.replicate m 1) := by
  refine ⟨some ⟨b, 0, none⟩, c, by simp, by simpa using hc, fun e => by simp at e, fun j hj => ⟨b, 0, rfl, h.lt, ?_⟩⟩
  rw [Nat.zero_add, h.cell j, List.getElem?_append_left (by rw [bv8_length]; exact hj), bv8_get _ _ hj]

theorem step_copy8 {P : Program} {ops : Array Oper} {o : Oper} {a : Act} {w : World} {K : Act → World → Prop} {Q : Exit → Act → World → Prop} {E : Prop} (hgd : o.guard = none) (d s : Operand) (dT sT : TypeId)
    (ho : o.op = .call { callee := .builtin .copy, args := #[d, s], argTypes := #[dT, sT] }) (elem : TypeId) (hu : P.underlying dT = some (.slice elem)) (hsz : (P.info? elem).map (·.size) = some 1)
    (dp sp : Option Addr) (dLen dCap sLen sCap : Nat) (hd : a.eval d = .slice dp dLen dCap) (hs : a.eval s = .slice sp sLen sCap)
    (g off : Nat) (cur : List Value) (t : TypeId) (hg : w.heap[g]? = some (.cells cur.toArray t (0, 0))) (cs : List Value) (n : Nat) (hcn : cs.length = n) (hn : cs.length = Nat.min sLen dLen)
    (hpos : 0 < cs.length → dp = some ⟨g, off, none⟩ ∧ ∃ ad, sp = some ad ∧ ∀ j v, cs[j]? = some v → w.cell? (ad.add j) = some v)
    (hfit : off + cs.length ≤ cur.length) (h1 : ∀ v ∈ cs, v.oneCell' = true) (B : Nat) (w0 : World) (hb : RowKit.Below B w0 w) (hBg : B ≤ g)
    (h : ∀ w', RowKit.Hid (w'.heap[g]? = some (.cells (splice cur off cs).toArray t (0, 0))) → RowKit.Below B w0 w' → K (a.put o.dst (.int .i64 (n : Int))) w') :
    if Region.wanted o (yielded ops a.tmps) = true then Oper.wp P o a w K Q else E :=
  step_copy_splice hgd d s dT sT ho elem hu hsz dp sp dLen dCap sLen sCap hd hs g off cur t hg cs hn hpos hfit h1 B w0 hb hBg (fun w' k1 k2 => by
    have e : goInt cs.length = .int .i64 (n : Int) := by rw [hcn]; rfl
    rw [e]; exact h w' k1 k2)
theorem ones_cell {W : World} {T : TypeId} {b : Nat} {C R : List Value} (h : At T W b (C ++ R)) : ∀ j v, C[j]? = some v → W.drew.cell? ((⟨b, 0, none⟩ : Addr).add j) = some v := by
  intro j v hj
  have hj' : j < C.length := (List.getElem?_eq_some_iff.1 hj).1
  rw [Addr.add_mid, Nat.zero_add, World.cell?_drew, h.cell j, List.getElem?_append_left hj']
  exact hj

set_option maxRecDepth 100000 in
set_option maxHeartbeats 4000000 in
theorem repeat_any (g c : Nat) (w : World) (hs : SK .u8 w (.slice (some ⟨g, 0, none⟩) 1 c) [1]) :
    Calls Tryd.prog 15 #[.slice (some ⟨g, 0, none⟩) 1 c, .int .i64 32] w fun e w' => ∃ b, e = .returned (.slice (some ⟨b, 0, none⟩) 32 32) ∧ w.heap.size ≤ b ∧ SK .u8 w' (.slice (some ⟨b, 0, none⟩) 32 32) (List.replicate 32 1) ∧ Below w.heap.size w w' := by
  have kM : Hid (∀ W : World, Calls Tryd.prog 36 #[.int .u64 1, .int .u64 32] W fun e w' => e = .returned (.tuple #[.int .u64 0, .int .u64 32]) ∧ w' = W) := fun W => bmul_any W
  have HS : Hid (SK .u8 w (.slice (some ⟨g, 0, none⟩) 1 c) [1]) := hs
  clear hs
  obtain ⟨cs, hrunM, hle, -⟩ := Lib.run_makeNoZero (P := Tryd.prog) w #[3] 25 5 Tryd.underlying25 32 (by omega)
  have hcall : (callFunc 37 #[.int .i64 32]).run Tryd.prog w = .ok (.value (.slice (some ⟨w.heap.size, 0, none⟩) 32 cs.size)) (w.drew.drew.alloc (.cells cs 5)) := by
    rw [run_callFunc_extern Tryd.func37 (by kernel_rfl) (by kernel_rfl) (by kernel_rfl) (e := Extern.BytealgMakeNoZero.makeNoZero #[3] #[25]) (by kernel_rfl)]
    have h := hrunM
    rw [show ((32 : Nat) : Int) = 32 from rfl] at h
    rw [h]
    rfl
  clear hrunM
  have i1 : (32 : Int) ≤ (cs.size : Int) := by omega
  go_enter Tryd.func15, Tryd.ntmps15
  go_wp2_with fail
  refine (kM.out _).mono ?_
  rintro e w1 ⟨rfl, hw1⟩
  rw [hw1]
  clear hw1 w1 kM
  have HA0 : Hid (At 5 ((w.alloc (.cells cs 5)).drew.drew) w.heap.size cs.toList) := by
    have h := at_new 5 w cs.toList
    rw [show cs.toList.toArray = cs by simp] at h
    exact h.drew.drew
  have HB0 : Hid (Below w.heap.size w ((w.alloc (.cells cs 5)).drew.drew)) := ((Below.refl _ _).alloc (Nat.le_refl _) _).drew.drew
  have HS0 : Hid (SK .u8 ((w.alloc (.cells cs 5)).drew.drew) (.slice (some ⟨g, 0, none⟩) 1 c) [1]) := HS.out.below HB0.out
  have hcl : Hid (32 ≤ cs.toList.length) := by unfold Hid; simpa using hle
  have hsp : Hid (splice cs.toList 0 (bv8 ([1].take 1)) = bv8 (List.replicate 1 1) ++ cs.toList.drop 1) := by
    have h := splice_ones cs.toList 0 1 (by have := hcl.out; omega)
    exact h
  go_wp2_with (refine wpList_copyAt rfl _ _ rfl 5 w.heap.size 0 32 32 rfl _ [1] rfl HS0.out cs.toList HA0.out (by have := hcl.out; omega) 1 (by decide) ?_; intro W1 hA1 hO1)
  rw [hsp.out] at hA1
  have A1 : Hid (At 5 W1 w.heap.size (bv8 (List.replicate 1 1) ++ cs.toList.drop 1)) := hA1
  have B1 : Hid (Below w.heap.size w W1) := Oth.bel HB0.out hO1 (Nat.le_refl _)
  clear hA1 hO1 HA0 HB0 HS0 hcall HS
  clear hle i1
  have HR : Hid ((cs.toList.drop 1).length + 1 = cs.toList.length) := by unfold Hid; rw [List.length_drop]; have := hcl.out; omega
  obtain ⟨R1, hR1⟩ : ∃ R, cs.toList.drop 1 = R := ⟨_, rfl⟩
  obtain ⟨N, hN⟩ : ∃ N, cs.toList.length = N := ⟨_, rfl⟩
  rw [hR1] at A1 HR
  rw [hN] at hcl HR
  clear hR1 hN hsp
  go_wp2_with fail
  go_loopw [10] (fun y W => ∃ (p : Nat) (R : List Value), y = .int .i64 (p : Int) ∧ Hid (p = 1 ∨ p = 2 ∨ p = 4 ∨ p = 8 ∨ p = 16 ∨ p = 32) ∧ Hid (R.length + p = N) ∧ At 5 W w.heap.size (bv8 (List.replicate p 1) ++ R) ∧ Below w.heap.size w W) (fun y _ => 32 - (intOf y).toNat)
  case atStart => exact ⟨1, R1, rfl, Or.inl rfl, HR.out, A1.out, B1.out⟩
  case round =>
    clear A1 B1 HR
    obtain ⟨p, R, rfl, hp, hRl, hA, hB⟩ := hrel
    have A1 : Hid (At 5 wr w.heap.size (bv8 (List.replicate p 1) ++ R)) := hA
    have B1 : Hid (Below w.heap.size w wr) := hB
    clear hA hB
    by_cases hlt : p < 32
    · have hlt' : (p : Int) < 32 := by omega
      have hp1 : 1 ≤ p := by have := hp.out; omega
      have hp2 : 2 * p ≤ 32 := by have := hp.out; omega
      have hmin : min (p : Int) 32 = (p : Int) := by omega
      have hp3 : Hid (p + p = 1 ∨ p + p = 2 ∨ p + p = 4 ∨ p + p = 8 ∨ p + p = 16 ∨ p + p = 32) := by have := hp.out; unfold Hid; omega
      have hsl1 : ∀ W, (Instr.slice 25 (.slice (some ⟨w.heap.size, 0, none⟩) 32 32) (some (.int .i64 (p : Int))) none none).run Tryd.prog W = .ok (.slice (some ⟨w.heap.size, p, none⟩) (32 - p) (32 - p)) W := fun W => by
        have k0 : (0 : Int) ≤ p := by omega
        have k1 : (p : Int) ≤ 32 := by omega
        have k2 : ¬ 32 = p := by omega
        have k3 : ¬ p = 0 := by omega
        simp [go_sem, k0, k1, k2, k3]
      have hsl2 : ∀ W, (Instr.slice 25 (.slice (some ⟨w.heap.size, 0, none⟩) 32 32) none (some (.int .i64 (p : Int))) none).run Tryd.prog W = .ok (.slice (some ⟨w.heap.size, 0, none⟩) p 32) W := fun W => by
        have k0 : (0 : Int) ≤ p := by omega
        have k1 : (p : Int) ≤ 32 := by omega
        simp [go_sem, k0, k1]
      obtain ⟨C, hC⟩ : ∃ C, bv8 (List.replicate p 1) = C := ⟨_, rfl⟩
      have hCl : Hid (C.length = p) := by unfold Hid; rw [← hC, bv8_length]; simp
      have hsum : IntKind.i64.wrap ((p : Int) + (p : Int)) = ((p + p : Nat) : Int) := by rw [show (p : Int) + (p : Int) = ((p + p : Nat) : Int) by omega]; exact wrapI _ (by omega) (by omega)
      have hNl : p ≤ R.length := by have := hRl.out; have := hcl.out; omega
      have hspl : Hid (splice (C ++ R) p C = bv8 (List.replicate (p + p) 1) ++ R.drop p) := by rw [← hC]; exact splice_ones R p p hNl
      have hRl2 : Hid ((R.drop p).length + (p + p) = N) := by unfold Hid; rw [List.length_drop]; have := hRl.out; omega
      have hsz : (Tryd.prog.info? 5).map (·.size) = some 1 := by kernel_rfl
      have hone : ∀ v ∈ C, v.oneCell' = true := by rw [← hC]; exact fun v hv => bv8_one hv
      rw [hC] at A1
      have A1' : Hid (wr.drew.heap[w.heap.size]? = some (.cells (C ++ R).toArray 5 (0, 0))) := A1.out
      have B1' : Hid (Below w.heap.size w wr.drew) := B1.out.drew
      have hmn : Hid (C.length = Nat.min p (32 - p)) := by unfold Hid; rw [hCl.out]; show p = min p (32 - p); omega
      have hft : Hid (p + C.length ≤ (C ++ R).length) := by unfold Hid; rw [List.length_append]; have := hCl.out; omega
      have hone' : Hid (∀ v ∈ C, v.oneCell' = true) := hone
      clear hone hC
      go_wp2_with fail
      go_region_law (refine step_copy8 rfl (.tmp 70) (.tmp 73) 25 25 rfl 5 Tryd.underlying25 hsz (some ⟨w.heap.size, p, none⟩) (some ⟨w.heap.size, 0, none⟩) (32 - p) (32 - p) p 32 (by simp [Act.eval, Act.put]) (by simp [Act.eval, Act.put]) w.heap.size p (C ++ R) 5 A1'.out C p hCl.out hmn.out (fun _ => ⟨rfl, _, rfl, ones_cell A1.out⟩) hft.out hone'.out w.heap.size w B1'.out (Nat.le_refl _) ?_; intro w4 hg4 hb4)
      rw [hspl.out] at hg4
      have A4 : Hid (At 5 w4 w.heap.size (bv8 (List.replicate (p + p) 1) ++ R.drop p)) := hg4
      have B4 : Hid (Below w.heap.size w w4) := hb4
      clear hg4 hb4
      go_simp
      go_roundw
      case rel => refine ⟨_, _, _, _, _, _, _, _, _, _, _, _, _, _, _, _, _, ⟨p + p, R.drop p, ?_, hp3.out, hRl2.out, A4.out, B4.out⟩, rfl⟩; go_num
      case measure => simp [intOf]; omega
    · obtain rfl : p = 32 := by have := hp.out; omega
      have hS : Hid (SK .u8 wr (.slice (some ⟨w.heap.size, 0, none⟩) 32 32) (List.replicate 32 1)) := ones_sk A1.out (Nat.le_refl _)
      go_wp2_with fail
      go_ret
      exact ⟨_, rfl, Nat.le_refl _, hS.out, B1.out⟩
end Go.Proofs.YtlpmbhneffdcfaaDoor

/-
  The contract of New of layer 8. Conditions: as the theorems say.
-/
namespace Go.Proofs.YtlpmbhneffdcfaaDoor
open Go.RowKit
set_option linter.unusedVariables false
set_option linter.unusedSimpArgs false

theorem top_bit (q : Nat) (hq : q < M4) (h : nbits q = 256) : M4 ≤ 2 * q := by
  rcases Nat.lt_or_ge q (2 ^ 255) with c | c
  · have := nbits_le q 255 c
    omega
  · unfold M4; omega

theorem sr_new (q : Nat) (W : World) (gk gv : Nat) (hk : SK .u8 W (.slice (some ⟨gk, 0, none⟩) 32 32) (List.replicate 32 0)) (hv : SK .u8 W (.slice (some ⟨gv, 0, none⟩) 32 32) (List.replicate 32 1)) (T : TypeId) (hT : T = 46) (cs : Array Value) (hcs : cs = (.slice (some ⟨gk, 0, none⟩) 32 32 :: .slice (some ⟨gv, 0, none⟩) 32 32 :: fw q).toArray) : Sr (W.alloc (.cells cs T)) W.heap.size begin0 q := by
  subst hT hcs
  have g : Below W.heap.size W (W.alloc (.cells (.slice (some ⟨gk, 0, none⟩) 32 32 :: .slice (some ⟨gv, 0, none⟩) 32 32 :: fw q).toArray 46)) := (Below.refl _ _).alloc (Nat.le_refl _) _
  exact ⟨_, _, _, _, at_new _ _ _, hk.below g, hv.below g, hk.off (Nat.le_refl _), hv.off (Nat.le_refl _)⟩
theorem off_new {c g n k : Nat} (h : c < g) : Off c (.slice (some ⟨g, 0, none⟩) n k) := by
  intro a n' k' e _ x hx
  simp only [Value.slice.injEq] at e
  obtain ⟨rfl, -, -⟩ := e
  cases hx
  show g ≠ c
  omega
theorem zeros_sk (W : World) (n : Nat) (cs : Array Value) (h : cs = Array.replicate n (.int .u8 0)) : SK .u8 (W.alloc (.cells cs 5)) (.slice (some ⟨W.heap.size, 0, none⟩) n n) (List.replicate n 0) := by
  have h := (Row.zeros (k := .u8) W cs n 5 h).sk
  simpa using h
theorem one_sk (W : World) (cs : Array Value) (h : cs = #[.int .u8 1]) : SK .u8 (W.alloc (.cells cs 5)) (.slice (some ⟨W.heap.size, 0, none⟩) 1 1) [1] := (Row.newA (k := .u8) W cs [1] 5 h).sk

set_option maxRecDepth 100000 in
set_option maxHeartbeats 4000000 in
theorem new_bits (q x : Nat) (hq : q < M4) (hx : x < M4) (v : Value) (w : World) (hb : nbits q ≠ 256) :
    Calls Tryd.prog 6 #[four q, four x, v] w fun e w' => e = .returned (.tuple #[.pointer none, .int .i64 2]) ∧ Below w.heap.size w w' := by
  obtain ⟨n, hn⟩ : ∃ n, nbits q = n := ⟨_, rfl⟩
  have kB : Hid (∀ W : World, Calls Tryd.prog 13 #[four q] W fun e w' => e = .returned (.int .i64 (n : Int)) ∧ Below W.heap.size W w') := fun W => by rw [← hn]; exact bits_any q hq W
  obtain ⟨q0, q1, q2, q3, -, -, -, -, eq, -⟩ := four_open q hq
  obtain ⟨x0, x1, x2, x3, -, -, -, -, ex, -⟩ := four_open x hx
  rw [hn] at hb
  have hb' : ((n : Int) == 256) = false := beq_eq_false_iff_ne.2 (by omega)
  have hb1 : ((n : Int) != 256) = true := by simp [bne, hb']
  have hb2 : ¬ (n : Int) = 256 := by omega
  rw [eq] at kB ⊢
  rw [ex]
  have B0 : Hid (Below w.heap.size w ((w.alloc (.cells #[.int .u64 q0, .int .u64 q1, .int .u64 q2, .int .u64 q3] 24)).alloc (.cells #[.int .u64 x0, .int .u64 x1, .int .u64 x2, .int .u64 x3] 24))) := ((Below.refl _ _).alloc (Nat.le_refl _) _).alloc (by simp) _
  have XQ : Hid (At 24 ((w.alloc (.cells #[.int .u64 q0, .int .u64 q1, .int .u64 q2, .int .u64 q3] 24)).alloc (.cells #[.int .u64 x0, .int .u64 x1, .int .u64 x2, .int .u64 x3] 24)) w.heap.size [.int .u64 q0, .int .u64 q1, .int .u64 q2, .int .u64 q3]) := by
    have h : At 24 (w.alloc (.cells #[.int .u64 q0, .int .u64 q1, .int .u64 q2, .int .u64 q3] 24)) w.heap.size [.int .u64 q0, .int .u64 q1, .int .u64 q2, .int .u64 q3] := at_new _ _ _
    exact h.below ((Below.refl _ _).alloc (Nat.le_refl _) _)
  have XX : Hid (At 24 ((w.alloc (.cells #[.int .u64 q0, .int .u64 q1, .int .u64 q2, .int .u64 q3] 24)).alloc (.cells #[.int .u64 x0, .int .u64 x1, .int .u64 x2, .int .u64 x3] 24)) (w.heap.size + 1) [.int .u64 x0, .int .u64 x1, .int .u64 x2, .int .u64 x3]) := by
    have h := at_new 24 (w.alloc (.cells #[.int .u64 q0, .int .u64 q1, .int .u64 q2, .int .u64 q3] 24)) [.int .u64 x0, .int .u64 x1, .int .u64 x2, .int .u64 x3]
    have e : (w.alloc (.cells #[.int .u64 q0, .int .u64 q1, .int .u64 q2, .int .u64 q3] 24)).heap.size = w.heap.size + 1 := by simp
    rw [e] at h
    exact h
  clear eq ex hn hb
  go_enter Tryd.func6, Tryd.ntmps6
  go_wp2_with fail
  refine (kB.out _).mono ?_
  rintro e W1 ⟨rfl, g1⟩
  have B1 : Hid (Below w.heap.size w W1) := B0.out.trans (g1.mono B0.out.size)
  have Q1 : Hid (At 24 W1 w.heap.size [.int .u64 q0, .int .u64 q1, .int .u64 q2, .int .u64 q3]) := XQ.out.below g1
  have X1 : Hid (At 24 W1 (w.heap.size + 1) [.int .u64 x0, .int .u64 x1, .int .u64 x2, .int .u64 x3]) := XX.out.below g1
  clear g1 B0 XQ XX kB
  go_wp2_with fail
  exact bodyPost_ret (v := .tuple #[.pointer none, .int .i64 2]) (by simp [results, Tryd.results6, go_sem]) rfl ⟨rfl, B1.out⟩

set_option maxRecDepth 100000 in
set_option maxHeartbeats 4000000 in
theorem new_len (q x : Nat) (hq : q < M4) (hx : x < M4) (a : Option Addr) (l c : Nat) (v : Value) (hv : v = .slice a l c) (w : World) (hb : nbits q = 256) (hl : l ≠ 32) :
    Calls Tryd.prog 6 #[four q, four x, v] w fun e w' => e = .returned (.tuple #[.pointer none, .int .i64 2]) ∧ Below w.heap.size w w' := by
  obtain ⟨n, hn⟩ : ∃ n, nbits q = n := ⟨_, rfl⟩
  have kB : Hid (∀ W : World, Calls Tryd.prog 13 #[four q] W fun e w' => e = .returned (.int .i64 (n : Int)) ∧ Below W.heap.size W w') := fun W => by rw [← hn]; exact bits_any q hq W
  obtain ⟨q0, q1, q2, q3, -, -, -, -, eq, -⟩ := four_open q hq
  obtain ⟨x0, x1, x2, x3, -, -, -, -, ex, -⟩ := four_open x hx
  subst hv
  rw [hn] at hb
  subst hb
  have kO : Hid (∀ W : World, Calls Tryd.prog 14 #[.slice a l c, .bool true] W fun e w' => e = .returned (.tuple #[.agg #[.int .u64 0, .int .u64 0, .int .u64 0, .int .u64 0], .int .i64 2]) ∧ Below W.heap.size W w') := fun W => of_not a l c true W hl
  rw [eq] at kB ⊢
  rw [ex]
  have B0 : Hid (Below w.heap.size w ((w.alloc (.cells #[.int .u64 q0, .int .u64 q1, .int .u64 q2, .int .u64 q3] 24)).alloc (.cells #[.int .u64 x0, .int .u64 x1, .int .u64 x2, .int .u64 x3] 24))) := ((Below.refl _ _).alloc (Nat.le_refl _) _).alloc (by simp) _
  have XQ : Hid (At 24 ((w.alloc (.cells #[.int .u64 q0, .int .u64 q1, .int .u64 q2, .int .u64 q3] 24)).alloc (.cells #[.int .u64 x0, .int .u64 x1, .int .u64 x2, .int .u64 x3] 24)) w.heap.size [.int .u64 q0, .int .u64 q1, .int .u64 q2, .int .u64 q3]) := by
    have h : At 24 (w.alloc (.cells #[.int .u64 q0, .int .u64 q1, .int .u64 q2, .int .u64 q3] 24)) w.heap.size [.int .u64 q0, .int .u64 q1, .int .u64 q2, .int .u64 q3] := at_new _ _ _
    exact h.below ((Below.refl _ _).alloc (Nat.le_refl _) _)
  have XX : Hid (At 24 ((w.alloc (.cells #[.int .u64 q0, .int .u64 q1, .int .u64 q2, .int .u64 q3] 24)).alloc (.cells #[.int .u64 x0, .int .u64 x1, .int .u64 x2, .int .u64 x3] 24)) (w.heap.size + 1) [.int .u64 x0, .int .u64 x1, .int .u64 x2, .int .u64 x3]) := by
    have h := at_new 24 (w.alloc (.cells #[.int .u64 q0, .int .u64 q1, .int .u64 q2, .int .u64 q3] 24)) [.int .u64 x0, .int .u64 x1, .int .u64 x2, .int .u64 x3]
    have e : (w.alloc (.cells #[.int .u64 q0, .int .u64 q1, .int .u64 q2, .int .u64 q3] 24)).heap.size = w.heap.size + 1 := by simp
    rw [e] at h
    exact h
  clear eq ex hn hl
  go_enter Tryd.func6, Tryd.ntmps6
  go_wp2_with fail
  refine (kB.out _).mono ?_
  rintro e W1 ⟨rfl, g1⟩
  have B1 : Hid (Below w.heap.size w W1) := B0.out.trans (g1.mono B0.out.size)
  have Q1 : Hid (At 24 W1 w.heap.size [.int .u64 q0, .int .u64 q1, .int .u64 q2, .int .u64 q3]) := XQ.out.below g1
  have X1 : Hid (At 24 W1 (w.heap.size + 1) [.int .u64 x0, .int .u64 x1, .int .u64 x2, .int .u64 x3]) := XX.out.below g1
  clear g1 B0 XQ XX kB
  go_wp2_with fail
  refine (kO.out _).mono ?_
  rintro e W2 ⟨rfl, g2⟩
  have B2 : Hid (Below w.heap.size w W2) := B1.out.trans (g2.mono B1.out.size)
  clear g2 B1 Q1 X1 kO
  go_wp2_with fail
  exact bodyPost_ret (v := .tuple #[.pointer none, .int .i64 2]) (by simp [results, Tryd.results6, go_sem]) rfl ⟨rfl, B2.out.alloc B2.out.size _⟩

set_option maxRecDepth 100000 in
set_option maxHeartbeats 4000000 in
theorem new_yes (q x : Nat) (hq : q < M4) (hx : x < M4) (h : List Nat) (hh : h.length = 32) (hhb : Bb h) (v : Value) (w : World) (hg : Gl5 w) (hb : nbits q = 256) (hs : SK .u8 w v h) :
    Calls Tryd.prog 6 #[four q, four x, v] w fun e w' => ∃ b, e = .returned (.tuple #[.pointer (some ⟨b, 0, none⟩), .int .i64 0]) ∧ w.heap.size ≤ b ∧ Sr w' b (begins q x (hvN h 32)) q ∧ Below w.heap.size w w' ∧ ∀ c, c < w.heap.size → Avoid w' b c := by
  obtain ⟨n, hn⟩ : ∃ n, nbits q = n := ⟨_, rfl⟩
  have kB : Hid (∀ W : World, Calls Tryd.prog 13 #[four q] W fun e w' => e = .returned (.int .i64 (n : Int)) ∧ Below W.heap.size W w') := fun W => by rw [← hn]; exact bits_any q hq W
  obtain ⟨q0, q1, q2, q3, -, -, -, -, eq, -⟩ := four_open q hq
  obtain ⟨x0, x1, x2, x3, -, -, -, -, ex, -⟩ := four_open x hx
  have hq2 := top_bit q hq hb
  rw [hn] at hb
  subst hb
  have hH4 : hvN h 32 < M4 := hvN_M4 h hhb
  obtain ⟨H, hHe⟩ : ∃ H, hvN h 32 = H := ⟨_, rfl⟩
  have kO : Hid (∀ W : World, Below w.heap.size w W → Calls Tryd.prog 14 #[v, .bool true] W fun e w' => e = .returned (.tuple #[four H, .int .i64 0]) ∧ Below W.heap.size W w') := fun W hW => by rw [← hHe]; exact of_sk h hh hhb v W (hs.below hW)
  rw [hHe] at hH4 ⊢
  obtain ⟨h0, h1, h2, h3, -, -, -, -, eh, -⟩ := four_open H hH4
  have kX : Hid (∀ W : World, Calls Tryd.prog 16 #[four x, four q] W fun e w' => ∃ b, e = .returned (.slice (some ⟨b, 0, none⟩) 32 32) ∧ W.heap.size ≤ b ∧ SK .u8 w' (.slice (some ⟨b, 0, none⟩) 32 32) (beB (x % q) 32) ∧ Below W.heap.size W w') := fun W => reduced_any x q hx hq hq2 W
  have kH : Hid (∀ W : World, Calls Tryd.prog 16 #[four H, four q] W fun e w' => ∃ b, e = .returned (.slice (some ⟨b, 0, none⟩) 32 32) ∧ W.heap.size ≤ b ∧ SK .u8 w' (.slice (some ⟨b, 0, none⟩) 32 32) (beB (H % q) 32) ∧ Below W.heap.size W w') := fun W => reduced_any H q hH4 hq hq2 W
  rw [eh] at kO
  rw [ex, eq] at kX
  rw [eh, eq] at kH
  obtain ⟨va, vl, rfl⟩ : ∃ a c, v = .slice a 32 c := by obtain ⟨a, c, e⟩ := hs.shape; exact ⟨a, c, by rw [e, hh]⟩
  have HG : Hid (Gl5 w) := hg
  have hfq : Hid (fw q = [.int .u64 q0, .int .u64 q1, .int .u64 q2, .int .u64 q3]) := fw_of eq
  rw [eq] at kB ⊢
  rw [ex]
  have B0 : Hid (Below w.heap.size w ((w.alloc (.cells #[.int .u64 q0, .int .u64 q1, .int .u64 q2, .int .u64 q3] 24)).alloc (.cells #[.int .u64 x0, .int .u64 x1, .int .u64 x2, .int .u64 x3] 24))) := ((Below.refl _ _).alloc (Nat.le_refl _) _).alloc (by simp) _
  have XQ : Hid (At 24 ((w.alloc (.cells #[.int .u64 q0, .int .u64 q1, .int .u64 q2, .int .u64 q3] 24)).alloc (.cells #[.int .u64 x0, .int .u64 x1, .int .u64 x2, .int .u64 x3] 24)) w.heap.size [.int .u64 q0, .int .u64 q1, .int .u64 q2, .int .u64 q3]) := by
    have h : At 24 (w.alloc (.cells #[.int .u64 q0, .int .u64 q1, .int .u64 q2, .int .u64 q3] 24)) w.heap.size [.int .u64 q0, .int .u64 q1, .int .u64 q2, .int .u64 q3] := at_new _ _ _
    exact h.below ((Below.refl _ _).alloc (Nat.le_refl _) _)
  have XX : Hid (At 24 ((w.alloc (.cells #[.int .u64 q0, .int .u64 q1, .int .u64 q2, .int .u64 q3] 24)).alloc (.cells #[.int .u64 x0, .int .u64 x1, .int .u64 x2, .int .u64 x3] 24)) (w.heap.size + 1) [.int .u64 x0, .int .u64 x1, .int .u64 x2, .int .u64 x3]) := by
    have h := at_new 24 (w.alloc (.cells #[.int .u64 q0, .int .u64 q1, .int .u64 q2, .int .u64 q3] 24)) [.int .u64 x0, .int .u64 x1, .int .u64 x2, .int .u64 x3]
    have e : (w.alloc (.cells #[.int .u64 q0, .int .u64 q1, .int .u64 q2, .int .u64 q3] 24)).heap.size = w.heap.size + 1 := by simp
    rw [e] at h
    exact h
  clear eq ex eh hn hh hhb hs hHe hH4 hq2 hg
  go_enter Tryd.func6, Tryd.ntmps6
  go_wp2_with fail
  refine (kB.out _).mono ?_
  rintro e W1 ⟨rfl, g1⟩
  have B1 : Hid (Below w.heap.size w W1) := B0.out.trans (g1.mono B0.out.size)
  have Q1 : Hid (At 24 W1 w.heap.size [.int .u64 q0, .int .u64 q1, .int .u64 q2, .int .u64 q3]) := XQ.out.below g1
  have X1 : Hid (At 24 W1 (w.heap.size + 1) [.int .u64 x0, .int .u64 x1, .int .u64 x2, .int .u64 x3]) := XX.out.below g1
  clear g1 B0 XQ XX kB
  go_wp2_with fail
  refine (kO.out _ B1.out).mono ?_
  rintro e W2 ⟨rfl, g2⟩
  have B2 : Hid (Below w.heap.size w W2) := B1.out.trans (g2.mono B1.out.size)
  have Q2 : Hid (At 24 W2 w.heap.size [.int .u64 q0, .int .u64 q1, .int .u64 q2, .int .u64 q3]) := Q1.out.below g2
  have X2 : Hid (At 24 W2 (w.heap.size + 1) [.int .u64 x0, .int .u64 x1, .int .u64 x2, .int .u64 x3]) := X1.out.below g2
  clear g2 B1 Q1 X1 kO
  have hH : Hid (At 24 (W2.alloc (.cells #[.int .u64 h0, .int .u64 h1, .int .u64 h2, .int .u64 h3] 24)) W2.heap.size [.int .u64 h0, .int .u64 h1, .int .u64 h2, .int .u64 h3]) := at_new _ _ _
  have g3 : Below W2.heap.size W2 (W2.alloc (.cells #[.int .u64 h0, .int .u64 h1, .int .u64 h2, .int .u64 h3] 24)) := (Below.refl _ _).alloc (Nat.le_refl _) _
  have Q3 : Hid (At 24 (W2.alloc (.cells #[.int .u64 h0, .int .u64 h1, .int .u64 h2, .int .u64 h3] 24)) w.heap.size [.int .u64 q0, .int .u64 q1, .int .u64 q2, .int .u64 q3]) := Q2.out.below g3
  have X3 : Hid (At 24 (W2.alloc (.cells #[.int .u64 h0, .int .u64 h1, .int .u64 h2, .int .u64 h3] 24)) (w.heap.size + 1) [.int .u64 x0, .int .u64 x1, .int .u64 x2, .int .u64 x3]) := X2.out.below g3
  have B3 : Hid (Below w.heap.size w (W2.alloc (.cells #[.int .u64 h0, .int .u64 h1, .int .u64 h2, .int .u64 h3] 24))) := B2.out.trans (g3.mono B2.out.size)
  have kR : Hid (∀ (g : Nat) (W : World), SK .u8 W (.slice (some ⟨g, 0, none⟩) 1 1) [1] → Calls Tryd.prog 15 #[.slice (some ⟨g, 0, none⟩) 1 1, .int .i64 32] W fun e w' => ∃ b, e = .returned (.slice (some ⟨b, 0, none⟩) 32 32) ∧ W.heap.size ≤ b ∧ SK .u8 w' (.slice (some ⟨b, 0, none⟩) 32 32) (List.replicate 32 1) ∧ Below W.heap.size W w') := fun g W h => repeat_any g 1 W h
  have hmk : ∀ W : World, (Instr.makeSlice 25 (.int .i64 32) (.int .i64 32)).run Tryd.prog W = .ok (.slice (some ⟨W.heap.size, 0, none⟩) 32 32) (W.alloc (.cells (Array.replicate 32 (.int .u8 0)) 5)) := fun W => make32 W
  clear B2 Q2 X2 g3
  go_wp2_with fail
  obtain ⟨gh, hgh⟩ : ∃ g, W2.heap.size = g := ⟨_, rfl⟩
  rw [hgh] at hH ⊢
  obtain ⟨V, hV⟩ : ∃ V, W2.alloc (.cells #[.int .u64 h0, .int .u64 h1, .int .u64 h2, .int .u64 h3] 24) = V := ⟨_, rfl⟩
  rw [hV] at hH Q3 X3 B3 ⊢
  clear hV hgh W2 W1
  go_cut [10] (fun s W => ∃ b, s = .pointer (some ⟨b, 0, none⟩) ∧ Hid (V.heap.size ≤ b) ∧ Hid (Sr W b begin0 q ∧ Below V.heap.size V W ∧ ∀ c, c < V.heap.size → Avoid W b c))
  case first =>
    have K0 : V.drew.cell? ⟨w.heap.size, 0, none⟩ = some (.int .u64 q0) ∧ V.drew.cell? ⟨w.heap.size, 1, none⟩ = some (.int .u64 q1) ∧ V.drew.cell? ⟨w.heap.size, 2, none⟩ = some (.int .u64 q2) ∧ V.drew.cell? ⟨w.heap.size, 3, none⟩ = some (.int .u64 q3) := ⟨Q3.out.drew.cell 0, Q3.out.drew.cell 1, Q3.out.drew.cell 2, Q3.out.drew.cell 3⟩
    refine wp_region_held_drew (S := fun w' => w'.cell? ⟨w.heap.size, 0, none⟩ = some (.int .u64 q0) ∧ w'.cell? ⟨w.heap.size, 1, none⟩ = some (.int .u64 q1) ∧ w'.cell? ⟨w.heap.size, 2, none⟩ = some (.int .u64 q2) ∧ w'.cell? ⟨w.heap.size, 3, none⟩ = some (.int .u64 q3)) (by kernel_rfl) K0 (fun hHeld => ?_)
    refine h_take 4 (v := ?v4) rfl (by kernel_rfl) (by kernel_rfl) (by kernel_rfl) (fun _ _ _ h => h) (by rfl) ?hy4 (by assumption) ?_
    case hy4 =>
      intro w' hSw
      try dsimp only at hSw
      go_simp
      try with_reducible rfl
    try simp only [Act.put, List.setIfInBounds_toArray, List.set_cons_zero, List.set_cons_succ]
    refine h_fork 0 1 rfl rfl (by kernel_rfl) (by rfl) (by rfl) (fun Kk hK => ?_) (fun Kk hK => ?_)
    · have g1 : Below V.heap.size V ((V.alloc (.cells (Array.replicate 32 (.int .u8 0)) 5)).drew) := ((Below.refl _ _).alloc (Nat.le_refl _) _).drew
      have g2 : Below V.heap.size V (((V.alloc (.cells (Array.replicate 32 (.int .u8 0)) 5)).alloc (.cells #[.int .u8 1] 5)).drew) := (((Below.refl _ _).alloc (Nat.le_refl _) _).alloc (by simp) _).drew
      have KA : ((V.alloc (.cells (Array.replicate 32 (.int .u8 0)) 5)).drew).cell? ⟨w.heap.size, 0, none⟩ = some (.int .u64 q0) ∧ ((V.alloc (.cells (Array.replicate 32 (.int .u8 0)) 5)).drew).cell? ⟨w.heap.size, 1, none⟩ = some (.int .u64 q1) ∧ ((V.alloc (.cells (Array.replicate 32 (.int .u8 0)) 5)).drew).cell? ⟨w.heap.size, 2, none⟩ = some (.int .u64 q2) ∧ ((V.alloc (.cells (Array.replicate 32 (.int .u8 0)) 5)).drew).cell? ⟨w.heap.size, 3, none⟩ = some (.int .u64 q3) := ⟨(Q3.out.below g1).cell 0, (Q3.out.below g1).cell 1, (Q3.out.below g1).cell 2, (Q3.out.below g1).cell 3⟩
      have KB : (((V.alloc (.cells (Array.replicate 32 (.int .u8 0)) 5)).alloc (.cells #[.int .u8 1] 5)).drew).cell? ⟨w.heap.size, 0, none⟩ = some (.int .u64 q0) ∧ (((V.alloc (.cells (Array.replicate 32 (.int .u8 0)) 5)).alloc (.cells #[.int .u8 1] 5)).drew).cell? ⟨w.heap.size, 1, none⟩ = some (.int .u64 q1) ∧ (((V.alloc (.cells (Array.replicate 32 (.int .u8 0)) 5)).alloc (.cells #[.int .u8 1] 5)).drew).cell? ⟨w.heap.size, 2, none⟩ = some (.int .u64 q2) ∧ (((V.alloc (.cells (Array.replicate 32 (.int .u8 0)) 5)).alloc (.cells #[.int .u8 1] 5)).drew).cell? ⟨w.heap.size, 3, none⟩ = some (.int .u64 q3) := ⟨(Q3.out.below g2).cell 0, (Q3.out.below g2).cell 1, (Q3.out.below g2).cell 2, (Q3.out.below g2).cell 3⟩
      have hz : Hid (SK .u8 (V.alloc (.cells (Array.replicate 32 (.int .u8 0)) 5)) (.slice (some ⟨V.heap.size, 0, none⟩) 32 32) (List.replicate 32 0)) := zeros_sk V 32 _ rfl
      have ho : Hid (SK .u8 ((V.alloc (.cells (Array.replicate 32 (.int .u8 0)) 5)).alloc (.cells #[.int .u8 1] 5)) (.slice (some ⟨V.heap.size + 1, 0, none⟩) 1 1) [1]) := by
        have h := one_sk (V.alloc (.cells (Array.replicate 32 (.int .u8 0)) 5)) _ rfl
        rw [show (V.alloc (.cells (Array.replicate 32 (.int .u8 0)) 5)).heap.size = V.heap.size + 1 by simp] at h
        exact h
      go_simp
      clear hHeld
      refine hK.out _ _ KA (fun hHeld => ?_)
      clear hK Kk
      try simp only [Act.put, List.setIfInBounds_toArray, List.set_cons_zero, List.set_cons_succ]
      refine h_call 1 rfl (by kernel_rfl) (by rfl) (fun Kk hK => ?_)
      go_simp
      clear hHeld
      refine hK.out _ _ KB (fun hHeld => ?_)
      clear hK Kk
      try simp only [Act.put, List.setIfInBounds_toArray, List.set_cons_zero, List.set_cons_succ]
      refine h_call 2 rfl (by kernel_rfl) (by rfl) (fun Kk hK => ?_)
      go_simp
      refine (kR.out (V.heap.size + 1) (((V.alloc (.cells (Array.replicate 32 (.int .u8 0)) 5)).alloc (.cells #[.int .u8 1] 5)).drew) ho.out).mono ?_
      rintro e W1 ⟨gv, rfl, hgv0, ho1, hb1⟩
      have BW : Hid (Below V.heap.size V W1) := g2.trans (hb1.mono g2.size)
      have HZ : Hid (SK .u8 W1 (.slice (some ⟨V.heap.size, 0, none⟩) 32 32) (List.replicate 32 0)) := (hz.out.below (((Below.refl _ _).alloc (Nat.le_refl _) _).drew)).below hb1
      have HO1 : Hid (SK .u8 W1 (.slice (some ⟨gv, 0, none⟩) 32 32) (List.replicate 32 1)) := ho1
      have hgv : Hid (V.heap.size ≤ gv) := Nat.le_trans g2.size hgv0
      have hgk : Hid (V.heap.size ≤ V.heap.size) := Nat.le_refl _
      have KC : W1.cell? ⟨w.heap.size, 0, none⟩ = some (.int .u64 q0) ∧ W1.cell? ⟨w.heap.size, 1, none⟩ = some (.int .u64 q1) ∧ W1.cell? ⟨w.heap.size, 2, none⟩ = some (.int .u64 q2) ∧ W1.cell? ⟨w.heap.size, 3, none⟩ = some (.int .u64 q3) := ⟨(Q3.out.below BW.out).cell 0, (Q3.out.below BW.out).cell 1, (Q3.out.below BW.out).cell 2, (Q3.out.below BW.out).cell 3⟩
      clear hb1 ho1 hgv0
      clear hHeld
      refine hK.out _ _ KC (fun hHeld => ?_)
      clear hK Kk
      try simp only [Act.put, List.setIfInBounds_toArray, List.set_cons_zero, List.set_cons_succ]
      have hSr : Hid (Sr (W1.alloc (.cells #[.slice (some ⟨V.heap.size, 0, none⟩) 32 32, .slice (some ⟨gv, 0, none⟩) 32 32, .int .u64 q0, .int .u64 q1, .int .u64 q2, .int .u64 q3] 46)) W1.heap.size begin0 q ∧ Below V.heap.size V (W1.alloc (.cells #[.slice (some ⟨V.heap.size, 0, none⟩) 32 32, .slice (some ⟨gv, 0, none⟩) 32 32, .int .u64 q0, .int .u64 q1, .int .u64 q2, .int .u64 q3] 46)) ∧ ∀ c, c < V.heap.size → Avoid (W1.alloc (.cells #[.slice (some ⟨V.heap.size, 0, none⟩) 32 32, .slice (some ⟨gv, 0, none⟩) 32 32, .int .u64 q0, .int .u64 q1, .int .u64 q2, .int .u64 q3] 46)) W1.heap.size c) := by
        have hs := sr_new q W1 V.heap.size gv HZ.out HO1.out 46 rfl #[.slice (some ⟨V.heap.size, 0, none⟩) 32 32, .slice (some ⟨gv, 0, none⟩) 32 32, .int .u64 q0, .int .u64 q1, .int .u64 q2, .int .u64 q3] (by rw [hfq.out])
        have ha : At 46 (W1.alloc (.cells #[.slice (some ⟨V.heap.size, 0, none⟩) 32 32, .slice (some ⟨gv, 0, none⟩) 32 32, .int .u64 q0, .int .u64 q1, .int .u64 q2, .int .u64 q3] 46)) W1.heap.size [.slice (some ⟨V.heap.size, 0, none⟩) 32 32, .slice (some ⟨gv, 0, none⟩) 32 32, .int .u64 q0, .int .u64 q1, .int .u64 q2, .int .u64 q3] := at_new _ _ _
        exact ⟨hs, BW.out.alloc BW.out.size _, fun c hc => avoid_at ha (off_new (Nat.lt_of_lt_of_le hc hgk.out)) (off_new (Nat.lt_of_lt_of_le hc hgv.out))⟩
      have KE : (W1.alloc (.cells #[.slice (some ⟨V.heap.size, 0, none⟩) 32 32, .slice (some ⟨gv, 0, none⟩) 32 32, .int .u64 q0, .int .u64 q1, .int .u64 q2, .int .u64 q3] 46)).cell? ⟨w.heap.size, 0, none⟩ = some (.int .u64 q0) ∧ (W1.alloc (.cells #[.slice (some ⟨V.heap.size, 0, none⟩) 32 32, .slice (some ⟨gv, 0, none⟩) 32 32, .int .u64 q0, .int .u64 q1, .int .u64 q2, .int .u64 q3] 46)).cell? ⟨w.heap.size, 1, none⟩ = some (.int .u64 q1) ∧ (W1.alloc (.cells #[.slice (some ⟨V.heap.size, 0, none⟩) 32 32, .slice (some ⟨gv, 0, none⟩) 32 32, .int .u64 q0, .int .u64 q1, .int .u64 q2, .int .u64 q3] 46)).cell? ⟨w.heap.size, 2, none⟩ = some (.int .u64 q2) ∧ (W1.alloc (.cells #[.slice (some ⟨V.heap.size, 0, none⟩) 32 32, .slice (some ⟨gv, 0, none⟩) 32 32, .int .u64 q0, .int .u64 q1, .int .u64 q2, .int .u64 q3] 46)).cell? ⟨w.heap.size, 3, none⟩ = some (.int .u64 q3) := ⟨(Q3.out.below (BW.out.alloc BW.out.size _)).cell 0, (Q3.out.below (BW.out.alloc BW.out.size _)).cell 1, (Q3.out.below (BW.out.alloc BW.out.size _)).cell 2, (Q3.out.below (BW.out.alloc BW.out.size _)).cell 3⟩
      have KW : W1.cell? ⟨w.heap.size, 0, none⟩ = some (.int .u64 q0) ∧ W1.cell? ⟨w.heap.size, 1, none⟩ = some (.int .u64 q1) ∧ W1.cell? ⟨w.heap.size, 2, none⟩ = some (.int .u64 q2) ∧ W1.cell? ⟨w.heap.size, 3, none⟩ = some (.int .u64 q3) := ⟨(Q3.out.below BW.out).cell 0, (Q3.out.below BW.out).cell 1, (Q3.out.below BW.out).cell 2, (Q3.out.below BW.out).cell 3⟩
      refine h_call 3 rfl (by kernel_rfl) (by rfl) (fun Kk hK => ?_)
      go_simp
      clear hHeld
      refine hK.out _ _ KW (fun hHeld => ?_)
      clear hK Kk
      try simp only [Act.put, List.setIfInBounds_toArray, List.set_cons_zero, List.set_cons_succ]
      refine h_call 5 rfl (by kernel_rfl) (by rfl) (fun Kk hK => ?_)
      go_simp
      clear hHeld
      refine hK.out _ _ KW (fun hHeld => ?_)
      clear hK Kk
      try simp only [Act.put, List.setIfInBounds_toArray, List.set_cons_zero, List.set_cons_succ]
      refine h_call 6 rfl (by kernel_rfl) (by rfl) (fun Kk hK => ?_)
      go_simp
      clear hHeld
      refine hK.out _ _ KE (fun hHeld => ?_)
      clear hK Kk
      try simp only [Act.put, List.setIfInBounds_toArray, List.set_cons_zero, List.set_cons_succ]
      refine h_call 7 rfl (by kernel_rfl) (by rfl) (fun Kk hK => ?_)
      go_simp
      clear hHeld
      refine hK.out _ _ KE (fun hHeld => ?_)
      clear hK Kk
      try simp only [Act.put, List.setIfInBounds_toArray, List.set_cons_zero, List.set_cons_succ]
      refine wpAnyH_done (by kernel_rfl) ?_ _
      go_wp2_with fail
      go_meet
      exact ⟨_, rfl, BW.out.size, hSr.out⟩
    · have g1 : Below V.heap.size V ((V.alloc (.cells #[.int .u8 1] 5)).drew) := ((Below.refl _ _).alloc (Nat.le_refl _) _).drew
      have KA : ((V.alloc (.cells #[.int .u8 1] 5)).drew).cell? ⟨w.heap.size, 0, none⟩ = some (.int .u64 q0) ∧ ((V.alloc (.cells #[.int .u8 1] 5)).drew).cell? ⟨w.heap.size, 1, none⟩ = some (.int .u64 q1) ∧ ((V.alloc (.cells #[.int .u8 1] 5)).drew).cell? ⟨w.heap.size, 2, none⟩ = some (.int .u64 q2) ∧ ((V.alloc (.cells #[.int .u8 1] 5)).drew).cell? ⟨w.heap.size, 3, none⟩ = some (.int .u64 q3) := ⟨(Q3.out.below g1).cell 0, (Q3.out.below g1).cell 1, (Q3.out.below g1).cell 2, (Q3.out.below g1).cell 3⟩
      have ho : Hid (SK .u8 ((V.alloc (.cells #[.int .u8 1] 5)).drew) (.slice (some ⟨V.heap.size, 0, none⟩) 1 1) [1]) := one_sk V _ rfl
      go_simp
      clear hHeld
      refine hK.out _ _ KA (fun hHeld => ?_)
      clear hK Kk
      try simp only [Act.put, List.setIfInBounds_toArray, List.set_cons_zero, List.set_cons_succ]
      refine h_fork 0 2 rfl rfl (by kernel_rfl) (by rfl) (by rfl) (fun Kk hK => ?_) (fun Kk hK => ?_)
      · have g2 : Below V.heap.size V (((V.alloc (.cells #[.int .u8 1] 5)).alloc (.cells (Array.replicate 32 (.int .u8 0)) 5)).drew) := (((Below.refl _ _).alloc (Nat.le_refl _) _).alloc (by simp) _).drew
        have KB : (((V.alloc (.cells #[.int .u8 1] 5)).alloc (.cells (Array.replicate 32 (.int .u8 0)) 5)).drew).cell? ⟨w.heap.size, 0, none⟩ = some (.int .u64 q0) ∧ (((V.alloc (.cells #[.int .u8 1] 5)).alloc (.cells (Array.replicate 32 (.int .u8 0)) 5)).drew).cell? ⟨w.heap.size, 1, none⟩ = some (.int .u64 q1) ∧ (((V.alloc (.cells #[.int .u8 1] 5)).alloc (.cells (Array.replicate 32 (.int .u8 0)) 5)).drew).cell? ⟨w.heap.size, 2, none⟩ = some (.int .u64 q2) ∧ (((V.alloc (.cells #[.int .u8 1] 5)).alloc (.cells (Array.replicate 32 (.int .u8 0)) 5)).drew).cell? ⟨w.heap.size, 3, none⟩ = some (.int .u64 q3) := ⟨(Q3.out.below g2).cell 0, (Q3.out.below g2).cell 1, (Q3.out.below g2).cell 2, (Q3.out.below g2).cell 3⟩
        have hz : Hid (SK .u8 (((V.alloc (.cells #[.int .u8 1] 5)).alloc (.cells (Array.replicate 32 (.int .u8 0)) 5)).drew) (.slice (some ⟨V.heap.size + 1, 0, none⟩) 32 32) (List.replicate 32 0)) := by
          have h := zeros_sk (V.alloc (.cells #[.int .u8 1] 5)) 32 _ rfl
          rw [show (V.alloc (.cells #[.int .u8 1] 5)).heap.size = V.heap.size + 1 by simp] at h
          exact h
        have ho2 : Hid (SK .u8 (((V.alloc (.cells #[.int .u8 1] 5)).alloc (.cells (Array.replicate 32 (.int .u8 0)) 5)).drew) (.slice (some ⟨V.heap.size, 0, none⟩) 1 1) [1]) := SK.below (one_sk V _ rfl) (((Below.refl _ _).alloc (Nat.le_refl _) _).drew)
        go_simp
        clear hHeld
        refine hK.out _ _ KB (fun hHeld => ?_)
        clear hK Kk
        try simp only [Act.put, List.setIfInBounds_toArray, List.set_cons_zero, List.set_cons_succ]
        refine h_call 2 rfl (by kernel_rfl) (by rfl) (fun Kk hK => ?_)
        go_simp
        refine (kR.out V.heap.size (((V.alloc (.cells #[.int .u8 1] 5)).alloc (.cells (Array.replicate 32 (.int .u8 0)) 5)).drew) ho2.out).mono ?_
        rintro e W1 ⟨gv, rfl, hgv0, ho1, hb1⟩
        have BW : Hid (Below V.heap.size V W1) := g2.trans (hb1.mono g2.size)
        have HZ : Hid (SK .u8 W1 (.slice (some ⟨V.heap.size + 1, 0, none⟩) 32 32) (List.replicate 32 0)) := hz.out.below hb1
        have HO1 : Hid (SK .u8 W1 (.slice (some ⟨gv, 0, none⟩) 32 32) (List.replicate 32 1)) := ho1
        have hgv : Hid (V.heap.size ≤ gv) := Nat.le_trans g2.size hgv0
        have hgk : Hid (V.heap.size ≤ V.heap.size + 1) := Nat.le_succ _
        have KC : W1.cell? ⟨w.heap.size, 0, none⟩ = some (.int .u64 q0) ∧ W1.cell? ⟨w.heap.size, 1, none⟩ = some (.int .u64 q1) ∧ W1.cell? ⟨w.heap.size, 2, none⟩ = some (.int .u64 q2) ∧ W1.cell? ⟨w.heap.size, 3, none⟩ = some (.int .u64 q3) := ⟨(Q3.out.below BW.out).cell 0, (Q3.out.below BW.out).cell 1, (Q3.out.below BW.out).cell 2, (Q3.out.below BW.out).cell 3⟩
        clear hb1 ho1 hgv0
        clear hHeld
        refine hK.out _ _ KC (fun hHeld => ?_)
        clear hK Kk
        try simp only [Act.put, List.setIfInBounds_toArray, List.set_cons_zero, List.set_cons_succ]
        have hSr : Hid (Sr (W1.alloc (.cells #[.slice (some ⟨V.heap.size + 1, 0, none⟩) 32 32, .slice (some ⟨gv, 0, none⟩) 32 32, .int .u64 q0, .int .u64 q1, .int .u64 q2, .int .u64 q3] 46)) W1.heap.size begin0 q ∧ Below V.heap.size V (W1.alloc (.cells #[.slice (some ⟨V.heap.size + 1, 0, none⟩) 32 32, .slice (some ⟨gv, 0, none⟩) 32 32, .int .u64 q0, .int .u64 q1, .int .u64 q2, .int .u64 q3] 46)) ∧ ∀ c, c < V.heap.size → Avoid (W1.alloc (.cells #[.slice (some ⟨V.heap.size + 1, 0, none⟩) 32 32, .slice (some ⟨gv, 0, none⟩) 32 32, .int .u64 q0, .int .u64 q1, .int .u64 q2, .int .u64 q3] 46)) W1.heap.size c) := by
          have hs := sr_new q W1 (V.heap.size + 1) gv HZ.out HO1.out 46 rfl #[.slice (some ⟨V.heap.size + 1, 0, none⟩) 32 32, .slice (some ⟨gv, 0, none⟩) 32 32, .int .u64 q0, .int .u64 q1, .int .u64 q2, .int .u64 q3] (by rw [hfq.out])
          have ha : At 46 (W1.alloc (.cells #[.slice (some ⟨V.heap.size + 1, 0, none⟩) 32 32, .slice (some ⟨gv, 0, none⟩) 32 32, .int .u64 q0, .int .u64 q1, .int .u64 q2, .int .u64 q3] 46)) W1.heap.size [.slice (some ⟨V.heap.size + 1, 0, none⟩) 32 32, .slice (some ⟨gv, 0, none⟩) 32 32, .int .u64 q0, .int .u64 q1, .int .u64 q2, .int .u64 q3] := at_new _ _ _
          exact ⟨hs, BW.out.alloc BW.out.size _, fun c hc => avoid_at ha (off_new (Nat.lt_of_lt_of_le hc hgk.out)) (off_new (Nat.lt_of_lt_of_le hc hgv.out))⟩
        have KE : (W1.alloc (.cells #[.slice (some ⟨V.heap.size + 1, 0, none⟩) 32 32, .slice (some ⟨gv, 0, none⟩) 32 32, .int .u64 q0, .int .u64 q1, .int .u64 q2, .int .u64 q3] 46)).cell? ⟨w.heap.size, 0, none⟩ = some (.int .u64 q0) ∧ (W1.alloc (.cells #[.slice (some ⟨V.heap.size + 1, 0, none⟩) 32 32, .slice (some ⟨gv, 0, none⟩) 32 32, .int .u64 q0, .int .u64 q1, .int .u64 q2, .int .u64 q3] 46)).cell? ⟨w.heap.size, 1, none⟩ = some (.int .u64 q1) ∧ (W1.alloc (.cells #[.slice (some ⟨V.heap.size + 1, 0, none⟩) 32 32, .slice (some ⟨gv, 0, none⟩) 32 32, .int .u64 q0, .int .u64 q1, .int .u64 q2, .int .u64 q3] 46)).cell? ⟨w.heap.size, 2, none⟩ = some (.int .u64 q2) ∧ (W1.alloc (.cells #[.slice (some ⟨V.heap.size + 1, 0, none⟩) 32 32, .slice (some ⟨gv, 0, none⟩) 32 32, .int .u64 q0, .int .u64 q1, .int .u64 q2, .int .u64 q3] 46)).cell? ⟨w.heap.size, 3, none⟩ = some (.int .u64 q3) := ⟨(Q3.out.below (BW.out.alloc BW.out.size _)).cell 0, (Q3.out.below (BW.out.alloc BW.out.size _)).cell 1, (Q3.out.below (BW.out.alloc BW.out.size _)).cell 2, (Q3.out.below (BW.out.alloc BW.out.size _)).cell 3⟩
        have KW : W1.cell? ⟨w.heap.size, 0, none⟩ = some (.int .u64 q0) ∧ W1.cell? ⟨w.heap.size, 1, none⟩ = some (.int .u64 q1) ∧ W1.cell? ⟨w.heap.size, 2, none⟩ = some (.int .u64 q2) ∧ W1.cell? ⟨w.heap.size, 3, none⟩ = some (.int .u64 q3) := ⟨(Q3.out.below BW.out).cell 0, (Q3.out.below BW.out).cell 1, (Q3.out.below BW.out).cell 2, (Q3.out.below BW.out).cell 3⟩
        refine h_call 3 rfl (by kernel_rfl) (by rfl) (fun Kk hK => ?_)
        go_simp
        clear hHeld
        refine hK.out _ _ KW (fun hHeld => ?_)
        clear hK Kk
        try simp only [Act.put, List.setIfInBounds_toArray, List.set_cons_zero, List.set_cons_succ]
        refine h_call 5 rfl (by kernel_rfl) (by rfl) (fun Kk hK => ?_)
        go_simp
        clear hHeld
        refine hK.out _ _ KW (fun hHeld => ?_)
        clear hK Kk
        try simp only [Act.put, List.setIfInBounds_toArray, List.set_cons_zero, List.set_cons_succ]
        refine h_call 6 rfl (by kernel_rfl) (by rfl) (fun Kk hK => ?_)
        go_simp
        clear hHeld
        refine hK.out _ _ KE (fun hHeld => ?_)
        clear hK Kk
        try simp only [Act.put, List.setIfInBounds_toArray, List.set_cons_zero, List.set_cons_succ]
        refine h_call 7 rfl (by kernel_rfl) (by rfl) (fun Kk hK => ?_)
        go_simp
        clear hHeld
        refine hK.out _ _ KE (fun hHeld => ?_)
        clear hK Kk
        try simp only [Act.put, List.setIfInBounds_toArray, List.set_cons_zero, List.set_cons_succ]
        refine wpAnyH_done (by kernel_rfl) ?_ _
        go_wp2_with fail
        go_meet
        exact ⟨_, rfl, BW.out.size, hSr.out⟩
      · go_simp
        refine (kR.out V.heap.size ((V.alloc (.cells #[.int .u8 1] 5)).drew) ho.out).mono ?_
        rintro e W1 ⟨gv, rfl, hgv0, ho1, hb1⟩
        have B1 : Hid (Below V.heap.size V W1) := g1.trans (hb1.mono g1.size)
        have BW : Hid (Below V.heap.size V (W1.alloc (.cells (Array.replicate 32 (.int .u8 0)) 5))) := B1.out.alloc B1.out.size _
        have HO1 : Hid (SK .u8 (W1.alloc (.cells (Array.replicate 32 (.int .u8 0)) 5)) (.slice (some ⟨gv, 0, none⟩) 32 32) (List.replicate 32 1)) := SK.below ho1 ((Below.refl _ _).alloc (Nat.le_refl _) _)
        have HZ : Hid (SK .u8 (W1.alloc (.cells (Array.replicate 32 (.int .u8 0)) 5)) (.slice (some ⟨W1.heap.size, 0, none⟩) 32 32) (List.replicate 32 0)) := zeros_sk W1 32 _ rfl
        have hgv : Hid (V.heap.size ≤ gv) := Nat.le_trans g1.size hgv0
        have hgk : Hid (V.heap.size ≤ W1.heap.size) := B1.out.size
        have KC : W1.cell? ⟨w.heap.size, 0, none⟩ = some (.int .u64 q0) ∧ W1.cell? ⟨w.heap.size, 1, none⟩ = some (.int .u64 q1) ∧ W1.cell? ⟨w.heap.size, 2, none⟩ = some (.int .u64 q2) ∧ W1.cell? ⟨w.heap.size, 3, none⟩ = some (.int .u64 q3) := ⟨(Q3.out.below B1.out).cell 0, (Q3.out.below B1.out).cell 1, (Q3.out.below B1.out).cell 2, (Q3.out.below B1.out).cell 3⟩
        have KD : (W1.alloc (.cells (Array.replicate 32 (.int .u8 0)) 5)).cell? ⟨w.heap.size, 0, none⟩ = some (.int .u64 q0) ∧ (W1.alloc (.cells (Array.replicate 32 (.int .u8 0)) 5)).cell? ⟨w.heap.size, 1, none⟩ = some (.int .u64 q1) ∧ (W1.alloc (.cells (Array.replicate 32 (.int .u8 0)) 5)).cell? ⟨w.heap.size, 2, none⟩ = some (.int .u64 q2) ∧ (W1.alloc (.cells (Array.replicate 32 (.int .u8 0)) 5)).cell? ⟨w.heap.size, 3, none⟩ = some (.int .u64 q3) := ⟨(Q3.out.below BW.out).cell 0, (Q3.out.below BW.out).cell 1, (Q3.out.below BW.out).cell 2, (Q3.out.below BW.out).cell 3⟩
        clear hb1 ho1 hgv0
        clear hHeld
        refine hK.out _ _ KC (fun hHeld => ?_)
        clear hK Kk
        try simp only [Act.put, List.setIfInBounds_toArray, List.set_cons_zero, List.set_cons_succ]
        refine h_call 0 rfl (by kernel_rfl) (by rfl) (fun Kk hK => ?_)
        go_simp
        clear hHeld
        refine hK.out _ _ KD (fun hHeld => ?_)
        clear hK Kk
        try simp only [Act.put, List.setIfInBounds_toArray, List.set_cons_zero, List.set_cons_succ]
        obtain ⟨gk, hgke⟩ : ∃ g, W1.heap.size = g := ⟨_, rfl⟩
        rw [hgke] at HZ hgk ⊢
        obtain ⟨W2, hW2⟩ : ∃ W, W1.alloc (.cells (Array.replicate 32 (.int .u8 0)) 5) = W := ⟨_, rfl⟩
        rw [hW2] at BW HO1 HZ KD hHeld ⊢
        clear hW2 hgke KC
        have hSr : Hid (Sr (W2.alloc (.cells #[.slice (some ⟨gk, 0, none⟩) 32 32, .slice (some ⟨gv, 0, none⟩) 32 32, .int .u64 q0, .int .u64 q1, .int .u64 q2, .int .u64 q3] 46)) W2.heap.size begin0 q ∧ Below V.heap.size V (W2.alloc (.cells #[.slice (some ⟨gk, 0, none⟩) 32 32, .slice (some ⟨gv, 0, none⟩) 32 32, .int .u64 q0, .int .u64 q1, .int .u64 q2, .int .u64 q3] 46)) ∧ ∀ c, c < V.heap.size → Avoid (W2.alloc (.cells #[.slice (some ⟨gk, 0, none⟩) 32 32, .slice (some ⟨gv, 0, none⟩) 32 32, .int .u64 q0, .int .u64 q1, .int .u64 q2, .int .u64 q3] 46)) W2.heap.size c) := by
          have hs := sr_new q W2 gk gv HZ.out HO1.out 46 rfl #[.slice (some ⟨gk, 0, none⟩) 32 32, .slice (some ⟨gv, 0, none⟩) 32 32, .int .u64 q0, .int .u64 q1, .int .u64 q2, .int .u64 q3] (by rw [hfq.out])
          have ha : At 46 (W2.alloc (.cells #[.slice (some ⟨gk, 0, none⟩) 32 32, .slice (some ⟨gv, 0, none⟩) 32 32, .int .u64 q0, .int .u64 q1, .int .u64 q2, .int .u64 q3] 46)) W2.heap.size [.slice (some ⟨gk, 0, none⟩) 32 32, .slice (some ⟨gv, 0, none⟩) 32 32, .int .u64 q0, .int .u64 q1, .int .u64 q2, .int .u64 q3] := at_new _ _ _
          exact ⟨hs, BW.out.alloc BW.out.size _, fun c hc => avoid_at ha (off_new (Nat.lt_of_lt_of_le hc hgk.out)) (off_new (Nat.lt_of_lt_of_le hc hgv.out))⟩
        have KE : (W2.alloc (.cells #[.slice (some ⟨gk, 0, none⟩) 32 32, .slice (some ⟨gv, 0, none⟩) 32 32, .int .u64 q0, .int .u64 q1, .int .u64 q2, .int .u64 q3] 46)).cell? ⟨w.heap.size, 0, none⟩ = some (.int .u64 q0) ∧ (W2.alloc (.cells #[.slice (some ⟨gk, 0, none⟩) 32 32, .slice (some ⟨gv, 0, none⟩) 32 32, .int .u64 q0, .int .u64 q1, .int .u64 q2, .int .u64 q3] 46)).cell? ⟨w.heap.size, 1, none⟩ = some (.int .u64 q1) ∧ (W2.alloc (.cells #[.slice (some ⟨gk, 0, none⟩) 32 32, .slice (some ⟨gv, 0, none⟩) 32 32, .int .u64 q0, .int .u64 q1, .int .u64 q2, .int .u64 q3] 46)).cell? ⟨w.heap.size, 2, none⟩ = some (.int .u64 q2) ∧ (W2.alloc (.cells #[.slice (some ⟨gk, 0, none⟩) 32 32, .slice (some ⟨gv, 0, none⟩) 32 32, .int .u64 q0, .int .u64 q1, .int .u64 q2, .int .u64 q3] 46)).cell? ⟨w.heap.size, 3, none⟩ = some (.int .u64 q3) := ⟨(Q3.out.below (BW.out.alloc BW.out.size _)).cell 0, (Q3.out.below (BW.out.alloc BW.out.size _)).cell 1, (Q3.out.below (BW.out.alloc BW.out.size _)).cell 2, (Q3.out.below (BW.out.alloc BW.out.size _)).cell 3⟩
        have KW : W2.cell? ⟨w.heap.size, 0, none⟩ = some (.int .u64 q0) ∧ W2.cell? ⟨w.heap.size, 1, none⟩ = some (.int .u64 q1) ∧ W2.cell? ⟨w.heap.size, 2, none⟩ = some (.int .u64 q2) ∧ W2.cell? ⟨w.heap.size, 3, none⟩ = some (.int .u64 q3) := ⟨(Q3.out.below BW.out).cell 0, (Q3.out.below BW.out).cell 1, (Q3.out.below BW.out).cell 2, (Q3.out.below BW.out).cell 3⟩
        refine h_call 3 rfl (by kernel_rfl) (by rfl) (fun Kk hK => ?_)
        go_simp
        clear hHeld
        refine hK.out _ _ KW (fun hHeld => ?_)
        clear hK Kk
        try simp only [Act.put, List.setIfInBounds_toArray, List.set_cons_zero, List.set_cons_succ]
        refine h_call 5 rfl (by kernel_rfl) (by rfl) (fun Kk hK => ?_)
        go_simp
        clear hHeld
        refine hK.out _ _ KW (fun hHeld => ?_)
        clear hK Kk
        try simp only [Act.put, List.setIfInBounds_toArray, List.set_cons_zero, List.set_cons_succ]
        refine h_call 6 rfl (by kernel_rfl) (by rfl) (fun Kk hK => ?_)
        go_simp
        clear hHeld
        refine hK.out _ _ KE (fun hHeld => ?_)
        clear hK Kk
        try simp only [Act.put, List.setIfInBounds_toArray, List.set_cons_zero, List.set_cons_succ]
        refine h_call 7 rfl (by kernel_rfl) (by rfl) (fun Kk hK => ?_)
        go_simp
        clear hHeld
        refine hK.out _ _ KE (fun hHeld => ?_)
        clear hK Kk
        try simp only [Act.put, List.setIfInBounds_toArray, List.set_cons_zero, List.set_cons_succ]
        refine wpAnyH_done (by kernel_rfl) ?_ _
        go_wp2_with fail
        go_meet
        exact ⟨_, rfl, BW.out.size, hSr.out⟩
  case rest =>
    obtain ⟨b, rfl, hVb, HC⟩ := hcut
    obtain ⟨hS, hB, hAv⟩ := HC.out
    obtain ⟨U, hU⟩ : ∃ U, wc = U := ⟨_, rfl⟩
    rw [hU] at hS hB hAv ⊢
    have QU : Hid (At 24 U w.heap.size [.int .u64 q0, .int .u64 q1, .int .u64 q2, .int .u64 q3]) := Q3.out.below hB
    have XU : Hid (At 24 U (w.heap.size + 1) [.int .u64 x0, .int .u64 x1, .int .u64 x2, .int .u64 x3]) := X3.out.below hB
    have HU : Hid (At 24 U gh [.int .u64 h0, .int .u64 h1, .int .u64 h2, .int .u64 h3]) := hH.out.below hB
    have SU : Hid (Sr U b begin0 q) := hS
    have BU : Hid (Below w.heap.size w U) := B3.out.trans (hB.mono B3.out.size)
    have AU : Hid (∀ c, c < V.heap.size → Avoid U b c) := hAv
    have hbw : Hid (w.heap.size ≤ b) := Nat.le_trans B3.out.size hVb.out
    have hVU : Hid (V.heap.size ≤ U.heap.size) := hB.size
    clear hS hB hAv HC hU kR hmk
    go_wp2_with fail
    have K0 : U.drew.cell? ⟨w.heap.size, 0, none⟩ = some (.int .u64 q0) ∧ U.drew.cell? ⟨w.heap.size, 1, none⟩ = some (.int .u64 q1) ∧ U.drew.cell? ⟨w.heap.size, 2, none⟩ = some (.int .u64 q2) ∧ U.drew.cell? ⟨w.heap.size, 3, none⟩ = some (.int .u64 q3) ∧ U.drew.cell? ⟨w.heap.size + 1, 0, none⟩ = some (.int .u64 x0) ∧ U.drew.cell? ⟨w.heap.size + 1, 1, none⟩ = some (.int .u64 x1) ∧ U.drew.cell? ⟨w.heap.size + 1, 2, none⟩ = some (.int .u64 x2) ∧ U.drew.cell? ⟨w.heap.size + 1, 3, none⟩ = some (.int .u64 x3) ∧ U.drew.cell? ⟨gh, 0, none⟩ = some (.int .u64 h0) ∧ U.drew.cell? ⟨gh, 1, none⟩ = some (.int .u64 h1) ∧ U.drew.cell? ⟨gh, 2, none⟩ = some (.int .u64 h2) ∧ U.drew.cell? ⟨gh, 3, none⟩ = some (.int .u64 h3) := ⟨QU.out.drew.cell 0, QU.out.drew.cell 1, QU.out.drew.cell 2, QU.out.drew.cell 3, XU.out.drew.cell 0, XU.out.drew.cell 1, XU.out.drew.cell 2, XU.out.drew.cell 3, HU.out.drew.cell 0, HU.out.drew.cell 1, HU.out.drew.cell 2, HU.out.drew.cell 3⟩
    refine wp_region_held_drew (S := fun w' => w'.cell? ⟨w.heap.size, 0, none⟩ = some (.int .u64 q0) ∧ w'.cell? ⟨w.heap.size, 1, none⟩ = some (.int .u64 q1) ∧ w'.cell? ⟨w.heap.size, 2, none⟩ = some (.int .u64 q2) ∧ w'.cell? ⟨w.heap.size, 3, none⟩ = some (.int .u64 q3) ∧ w'.cell? ⟨w.heap.size + 1, 0, none⟩ = some (.int .u64 x0) ∧ w'.cell? ⟨w.heap.size + 1, 1, none⟩ = some (.int .u64 x1) ∧ w'.cell? ⟨w.heap.size + 1, 2, none⟩ = some (.int .u64 x2) ∧ w'.cell? ⟨w.heap.size + 1, 3, none⟩ = some (.int .u64 x3) ∧ w'.cell? ⟨gh, 0, none⟩ = some (.int .u64 h0) ∧ w'.cell? ⟨gh, 1, none⟩ = some (.int .u64 h1) ∧ w'.cell? ⟨gh, 2, none⟩ = some (.int .u64 h2) ∧ w'.cell? ⟨gh, 3, none⟩ = some (.int .u64 h3)) (by kernel_rfl) K0 (fun hHeld => ?_)
    refine h_take 0 (v := ?vs0) rfl (by kernel_rfl) (by kernel_rfl) (by kernel_rfl) (fun _ _ _ h => h) (by rfl) ?hys0 (by assumption) ?_
    case hys0 =>
      intro w' hSw
      try dsimp only at hSw
      go_simp
      try with_reducible rfl
    try simp only [Act.put, List.setIfInBounds_toArray, List.set_cons_zero, List.set_cons_succ]
    refine h_take 1 (v := ?vs1) rfl (by kernel_rfl) (by kernel_rfl) (by kernel_rfl) (fun _ _ _ h => h) (by rfl) ?hys1 (by assumption) ?_
    case hys1 =>
      intro w' hSw
      try dsimp only at hSw
      go_simp
      try with_reducible rfl
    try simp only [Act.put, List.setIfInBounds_toArray, List.set_cons_zero, List.set_cons_succ]
    refine h_take 3 (v := ?vs3) rfl (by kernel_rfl) (by kernel_rfl) (by kernel_rfl) (fun _ _ _ h => h) (by rfl) ?hys3 (by assumption) ?_
    case hys3 =>
      intro w' hSw
      try dsimp only at hSw
      go_simp
      try with_reducible rfl
    try simp only [Act.put, List.setIfInBounds_toArray, List.set_cons_zero, List.set_cons_succ]
    refine h_take 4 (v := ?vs4) rfl (by kernel_rfl) (by kernel_rfl) (by kernel_rfl) (fun _ _ _ h => h) (by rfl) ?hys4 (by assumption) ?_
    case hys4 =>
      intro w' hSw
      try dsimp only at hSw
      go_simp
      try with_reducible rfl
    try simp only [Act.put, List.setIfInBounds_toArray, List.set_cons_zero, List.set_cons_succ]
    refine h_call 2 rfl (by kernel_rfl) (by rfl) (fun Kk hK => ?_)
    go_simp
    refine (kX.out _).mono ?_
    rintro e W1 ⟨gs, rfl, hgs, hsgs, g1⟩
    have Q1 : Hid (At 24 W1 w.heap.size [.int .u64 q0, .int .u64 q1, .int .u64 q2, .int .u64 q3]) := QU.out.below ((Below.refl _ _).drew.trans g1)
    have X1 : Hid (At 24 W1 (w.heap.size + 1) [.int .u64 x0, .int .u64 x1, .int .u64 x2, .int .u64 x3]) := XU.out.below ((Below.refl _ _).drew.trans g1)
    have H1 : Hid (At 24 W1 gh [.int .u64 h0, .int .u64 h1, .int .u64 h2, .int .u64 h3]) := HU.out.below ((Below.refl _ _).drew.trans g1)
    have S1 : Hid (Sr W1 b begin0 q) := SU.out.below ((Below.refl _ _).drew.trans g1)
    have B1 : Hid (Below w.heap.size w W1) := BU.out.trans (Below.mono ((Below.refl _ _).drew.trans g1) BU.out.size)
    have A1 : Hid (∀ c, c < V.heap.size → Avoid W1 b c) := fun c hc => (AU.out c hc).below SU.out.lt ((Below.refl _ _).drew.trans g1)
    have Z1 : Hid (SK .u8 W1 (.slice (some ⟨gs, 0, none⟩) 32 32) (beB (x % q) 32)) := hsgs
    have K1 : W1.cell? ⟨w.heap.size, 0, none⟩ = some (.int .u64 q0) ∧ W1.cell? ⟨w.heap.size, 1, none⟩ = some (.int .u64 q1) ∧ W1.cell? ⟨w.heap.size, 2, none⟩ = some (.int .u64 q2) ∧ W1.cell? ⟨w.heap.size, 3, none⟩ = some (.int .u64 q3) ∧ W1.cell? ⟨w.heap.size + 1, 0, none⟩ = some (.int .u64 x0) ∧ W1.cell? ⟨w.heap.size + 1, 1, none⟩ = some (.int .u64 x1) ∧ W1.cell? ⟨w.heap.size + 1, 2, none⟩ = some (.int .u64 x2) ∧ W1.cell? ⟨w.heap.size + 1, 3, none⟩ = some (.int .u64 x3) ∧ W1.cell? ⟨gh, 0, none⟩ = some (.int .u64 h0) ∧ W1.cell? ⟨gh, 1, none⟩ = some (.int .u64 h1) ∧ W1.cell? ⟨gh, 2, none⟩ = some (.int .u64 h2) ∧ W1.cell? ⟨gh, 3, none⟩ = some (.int .u64 h3) := ⟨Q1.out.cell 0, Q1.out.cell 1, Q1.out.cell 2, Q1.out.cell 3, X1.out.cell 0, X1.out.cell 1, X1.out.cell 2, X1.out.cell 3, H1.out.cell 0, H1.out.cell 1, H1.out.cell 2, H1.out.cell 3⟩
    clear hsgs K0
    clear hHeld
    refine hK.out _ _ K1 (fun hHeld => ?_)
    clear hK Kk
    try simp only [Act.put, List.setIfInBounds_toArray, List.set_cons_zero, List.set_cons_succ]
    refine h_call 5 rfl (by kernel_rfl) (by rfl) (fun Kk hK => ?_)
    go_simp
    refine (kH.out _).mono ?_
    rintro e W4 ⟨gm, rfl, hgm, hsgm, g4⟩
    have Q4 : Hid (At 24 W4 w.heap.size [.int .u64 q0, .int .u64 q1, .int .u64 q2, .int .u64 q3]) := Q1.out.below g4
    have X4 : Hid (At 24 W4 (w.heap.size + 1) [.int .u64 x0, .int .u64 x1, .int .u64 x2, .int .u64 x3]) := X1.out.below g4
    have H4 : Hid (At 24 W4 gh [.int .u64 h0, .int .u64 h1, .int .u64 h2, .int .u64 h3]) := H1.out.below g4
    have S4 : Hid (Sr W4 b begin0 q) := S1.out.below g4
    have B4 : Hid (Below w.heap.size w W4) := B1.out.trans (Below.mono g4 B1.out.size)
    have A4 : Hid (∀ c, c < V.heap.size → Avoid W4 b c) := fun c hc => (A1.out c hc).below S1.out.lt g4
    have Z4 : Hid (SK .u8 W4 (.slice (some ⟨gs, 0, none⟩) 32 32) (beB (x % q) 32)) := Z1.out.below g4
    have M4' : Hid (SK .u8 W4 (.slice (some ⟨gm, 0, none⟩) 32 32) (beB (H % q) 32)) := hsgm
    have K4 : W4.cell? ⟨w.heap.size, 0, none⟩ = some (.int .u64 q0) ∧ W4.cell? ⟨w.heap.size, 1, none⟩ = some (.int .u64 q1) ∧ W4.cell? ⟨w.heap.size, 2, none⟩ = some (.int .u64 q2) ∧ W4.cell? ⟨w.heap.size, 3, none⟩ = some (.int .u64 q3) ∧ W4.cell? ⟨w.heap.size + 1, 0, none⟩ = some (.int .u64 x0) ∧ W4.cell? ⟨w.heap.size + 1, 1, none⟩ = some (.int .u64 x1) ∧ W4.cell? ⟨w.heap.size + 1, 2, none⟩ = some (.int .u64 x2) ∧ W4.cell? ⟨w.heap.size + 1, 3, none⟩ = some (.int .u64 x3) ∧ W4.cell? ⟨gh, 0, none⟩ = some (.int .u64 h0) ∧ W4.cell? ⟨gh, 1, none⟩ = some (.int .u64 h1) ∧ W4.cell? ⟨gh, 2, none⟩ = some (.int .u64 h2) ∧ W4.cell? ⟨gh, 3, none⟩ = some (.int .u64 h3) := ⟨Q4.out.cell 0, Q4.out.cell 1, Q4.out.cell 2, Q4.out.cell 3, X4.out.cell 0, X4.out.cell 1, X4.out.cell 2, X4.out.cell 3, H4.out.cell 0, H4.out.cell 1, H4.out.cell 2, H4.out.cell 3⟩
    have hgmb : Hid (b < gm) := Nat.lt_of_lt_of_le S1.out.lt hgm
    have hV4 : Hid (V.heap.size ≤ W4.heap.size) := Nat.le_trans hVU.out (Nat.le_trans g1.size g4.size)
    clear hsgm g4 g1 hgm K1 Q1 X1 H1 S1 B1 A1 Z1
    clear hHeld
    refine hK.out _ _ K4 (fun hHeld => ?_)
    clear hK Kk
    try simp only [Act.put, List.setIfInBounds_toArray, List.set_cons_zero, List.set_cons_succ]
    refine h_call 6 rfl (by kernel_rfl) (by rfl) (fun Kk hK => ?_)
    go_simp
    clear hHeld
    refine hK.out _ _ K4 (fun hHeld => ?_)
    clear hK Kk
    try simp only [Act.put, List.setIfInBounds_toArray, List.set_cons_zero, List.set_cons_succ]
    refine h_call 7 rfl (by kernel_rfl) (by rfl) (fun Kk hK => ?_)
    go_simp
    clear hHeld
    refine hK.out _ _ K4 (fun hHeld => ?_)
    clear hK Kk
    try simp only [Act.put, List.setIfInBounds_toArray, List.set_cons_zero, List.set_cons_succ]
    refine wpAnyH_done (by kernel_rfl) ?_ _
    clear hHeld K4 Q4 X4 H4
    have hob : Hid (Off b (.slice (some ⟨gs, 0, none⟩) 32 32)) := off_new (Nat.lt_of_lt_of_le SU.out.lt hgs)
    have hom : Hid (Off b (.slice (some ⟨gm, 0, none⟩) 32 32)) := off_new hgmb.out
    have hbc : Hid (2 < b) := Nat.lt_of_lt_of_le HG.out.lt hbw.out
    have kX2 : Hid (∀ (m : Nat) (s' : KV) (W : World), m < 256 → s'.ok → Gl5 W → Sr W b s' q → SK .u8 W (.slice (some ⟨gs, 0, none⟩) 32 32) (beB (x % q) 32) → SK .u8 W (.slice (some ⟨gm, 0, none⟩) 32 32) (beB (H % q) 32) → Calls Tryd.prog 17 #[.pointer (some ⟨b, 0, none⟩), .int .u8 (m : Int), .slice (some ⟨W.heap.size, 0, none⟩) 2 2] (W.alloc (.cells #[.slice (some ⟨gs, 0, none⟩) 32 32, .slice (some ⟨gm, 0, none⟩) 32 32] 25)) fun e w' => e = .returned (.tuple #[]) ∧ Went W w' b (s'.mix (m :: both q x H)) q) := by
      intro m s' W hm h1 h2 h3 h4 h5
      have g : Below W.heap.size W (W.alloc (.cells #[.slice (some ⟨gs, 0, none⟩) 32 32, .slice (some ⟨gm, 0, none⟩) 32 32] 25)) := (Below.refl _ _).alloc (Nat.le_refl _) _
      have hP : Parts (W.alloc (.cells #[.slice (some ⟨gs, 0, none⟩) 32 32, .slice (some ⟨gm, 0, none⟩) 32 32] 25)) (.slice (some ⟨W.heap.size, 0, none⟩) 2 2) [.slice (some ⟨gs, 0, none⟩) 32 32, .slice (some ⟨gm, 0, none⟩) 32 32] := by
        refine Or.inr ⟨W.heap.size, 0, rfl, by simp, fun j u hj => ?_⟩
        have := (at_new 25 W [.slice (some ⟨gs, 0, none⟩) 32 32, .slice (some ⟨gm, 0, none⟩) 32 32]).cell j
        rw [Nat.zero_add, ← hj]
        exact this
      have h := mix_any s' h1 q _ (h2.grown g) b hbc.out (h3.below g) m hm (.slice (some ⟨W.heap.size, 0, none⟩) 2 2) _ [beB (x % q) 32, beB (H % q) 32] hP ((((Rows8.nil _).cons (h5.below g) (beB_bb _ _))).cons (h4.below g) (beB_bb _ _)) (by simp) (by simp [beB_length])
      have e : [beB (x % q) 32, beB (H % q) 32].flatten = both q x H := by simp [both]
      rw [e] at h
      exact h.mono fun e w' ⟨k1, k2⟩ => ⟨k1, k2.sr, (oth_of g b).trans k2.oth, fun c hc ha => k2.av c (Nat.lt_of_lt_of_le hc g.size) (ha.below h3.lt g)⟩
    have k1 : Hid (Calls Tryd.prog 17 #[.pointer (some ⟨b, 0, none⟩), .int .u8 0, .slice (some ⟨W4.heap.size, 0, none⟩) 2 2] (W4.alloc (.cells #[.slice (some ⟨gs, 0, none⟩) 32 32, .slice (some ⟨gm, 0, none⟩) 32 32] 25)) fun e w' => e = .returned (.tuple #[]) ∧ Went W4 w' b (begin0.mix (0 :: both q x H)) q) := kX2.out 0 begin0 W4 (by omega) begin0_ok (HG.out.grown B4.out) S4.out Z4.out M4'.out
    go_wp2_with fail
    refine k1.out.mono ?_
    rintro e W5 ⟨rfl, hW5⟩
    have B5 : Hid (Below w.heap.size w W5) := Oth.bel B4.out hW5.oth hbw.out
    have S5 : Hid (Sr W5 b (begin0.mix (0 :: both q x H)) q) := hW5.sr
    have A5 : Hid (∀ c, c < V.heap.size → Avoid W5 b c) := fun c hc => hW5.av c (Nat.lt_of_lt_of_le hc hV4.out) (A4.out c hc)
    have hV5 : Hid (V.heap.size ≤ W5.heap.size) := Nat.le_trans hV4.out hW5.oth.size
    have k2 : Hid (Calls Tryd.prog 17 #[.pointer (some ⟨b, 0, none⟩), .int .u8 1, .slice (some ⟨W5.heap.size, 0, none⟩) 2 2] (W5.alloc (.cells #[.slice (some ⟨gs, 0, none⟩) 32 32, .slice (some ⟨gm, 0, none⟩) 32 32] 25)) fun e w' => e = .returned (.tuple #[]) ∧ Went W5 w' b (begins q x H) q) := kX2.out 1 _ W5 (by omega) (begin0_ok.mix _) (HG.out.grown B5.out) S5.out (Z4.out.oth hW5.oth hob.out) (M4'.out.oth hW5.oth hom.out)
    clear hW5 B4 S4 A4 hV4 Z4 M4' k1 kX2
    go_wp2_with fail
    refine k2.out.mono ?_
    rintro e W6 ⟨rfl, hW6⟩
    have B6 : Hid (Below w.heap.size w W6) := Oth.bel B5.out hW6.oth hbw.out
    have A6 : Hid (∀ c, c < V.heap.size → Avoid W6 b c) := fun c hc => hW6.av c (Nat.lt_of_lt_of_le hc hV5.out) (A5.out c hc)
    have S6 : Hid (Sr W6 b (begins q x H) q) := hW6.sr
    clear hW6 B5 S5 A5 hV5 k2
    go_wp2_with fail
    exact bodyPost_ret (v := .tuple #[.pointer (some ⟨b, 0, none⟩), .int .i64 0]) (by simp [results, Tryd.results6, go_sem]) rfl ⟨b, rfl, hbw.out, S6.out, B6.out, fun c hc => A6.out c (Nat.lt_of_lt_of_le hc B3.out.size)⟩
end Go.Proofs.YtlpmbhneffdcfaaDoor

/-
  RFC 6979's example, as plain numbers: what the source of P-256's order tells first. Conditions: as each theorem says.
-/
namespace Go.Proofs.YtlpmbhneffdcfaaDoor
open Go.RowKit
set_option linter.unusedVariables false
set_option linter.unusedSimpArgs false

def exQ : Nat := 115792089210356248762697446949407573529996955224135760342422259061068512044369
def exX : Nat := 91225253027397101270059260515990221874496108017261222445699397644687913215777
def exN : Nat := 75486370184466523516702714224272210659255809472406410223340475427961162083680
def exM : List Nat := [115, 97, 109, 112, 108, 101]
def ex_sH : List Nat := [175, 43, 219, 225, 170, 155, 110, 193, 226, 173, 225, 214, 148, 244, 31, 199, 26, 131, 29, 2, 104, 233, 137, 21, 98, 17, 61, 138, 98, 173, 209, 191]
def ex_bX : List Nat := [201, 175, 169, 216, 69, 186, 117, 22, 107, 92, 33, 87, 103, 177, 214, 147, 78, 80, 195, 219, 54, 232, 155, 18, 123, 138, 98, 43, 18, 15, 103, 33]
def ex_bH : List Nat := [175, 43, 219, 225, 170, 155, 110, 193, 226, 173, 225, 214, 148, 244, 31, 199, 26, 131, 29, 2, 104, 233, 137, 21, 98, 17, 61, 138, 98, 173, 209, 191]
def ex_aK1 : List Nat := [18, 45, 177, 222, 152, 218, 228, 223, 163, 63, 45, 168, 233, 132, 148, 200, 11, 255, 128, 123, 71, 159, 215, 146, 97, 179, 126, 37, 242, 103, 238, 88]
def ex_aV1 : List Nat := [201, 148, 120, 3, 167, 71, 252, 96, 194, 53, 53, 253, 204, 19, 181, 202, 86, 107, 72, 34, 28, 166, 125, 73, 100, 210, 45, 170, 72, 39, 88, 68]
def ex_aK2 : List Nat := [182, 212, 249, 142, 186, 231, 10, 161, 90, 34, 56, 173, 228, 226, 10, 179, 35, 252, 30, 119, 125, 34, 240, 197, 130, 216, 239, 46, 107, 167, 53, 105]
def ex_aV2 : List Nat := [186, 229, 127, 226, 86, 222, 45, 232, 6, 177, 6, 53, 73, 114, 55, 231, 186, 233, 103, 84, 88, 37, 102, 56, 76, 71, 198, 195, 65, 100, 148, 209]
def ex_aV3 : List Nat := [166, 227, 197, 125, 208, 26, 190, 144, 8, 101, 56, 57, 131, 85, 221, 76, 59, 23, 170, 135, 51, 130, 176, 242, 77, 97, 41, 73, 61, 138, 173, 96]
set_option maxRecDepth 100000 in
theorem ex1 : sumB exM = ex_sH := by decide +kernel
set_option maxRecDepth 100000 in
theorem ex2 : beB (exX % exQ) 32 = ex_bX := by decide +kernel
set_option maxRecDepth 100000 in
theorem ex3 : beB (hvN ex_sH 32 % exQ) 32 = ex_bH := by decide +kernel
set_option maxRecDepth 100000 in
theorem ex4 : macB (List.replicate 32 0) (List.replicate 32 1 ++ 0 :: (ex_bX ++ ex_bH)) = ex_aK1 := by decide +kernel
set_option maxRecDepth 100000 in
theorem ex5 : macB ex_aK1 (List.replicate 32 1) = ex_aV1 := by decide +kernel
set_option maxRecDepth 100000 in
theorem ex6 : macB ex_aK1 (ex_aV1 ++ 1 :: (ex_bX ++ ex_bH)) = ex_aK2 := by decide +kernel
set_option maxRecDepth 100000 in
theorem ex7 : macB ex_aK2 ex_aV1 = ex_aV2 := by decide +kernel
set_option maxRecDepth 100000 in
theorem ex8 : macB ex_aK2 ex_aV2 = ex_aV3 := by decide +kernel
set_option maxRecDepth 100000 in
theorem ex9 : hvN ex_aV3 32 = exN := by decide +kernel
set_option maxRecDepth 100000 in
theorem ex_begins : begins exQ exX (hvN (sumB exM) 32) = ⟨ex_aK2, ex_aV2⟩ := by
  have h1 : begin0.mix (0 :: (ex_bX ++ ex_bH)) = ⟨ex_aK1, ex_aV1⟩ := by
    show (⟨macB (List.replicate 32 0) (List.replicate 32 1 ++ 0 :: (ex_bX ++ ex_bH)), macB (macB (List.replicate 32 0) (List.replicate 32 1 ++ 0 :: (ex_bX ++ ex_bH))) (List.replicate 32 1)⟩ : KV) = _
    rw [ex4, ex5]
  have h2 : KV.mix ⟨ex_aK1, ex_aV1⟩ (1 :: (ex_bX ++ ex_bH)) = ⟨ex_aK2, ex_aV2⟩ := by
    show (⟨macB ex_aK1 (ex_aV1 ++ 1 :: (ex_bX ++ ex_bH)), macB (macB ex_aK1 (ex_aV1 ++ 1 :: (ex_bX ++ ex_bH))) ex_aV1⟩ : KV) = _
    rw [ex6, ex7]
  unfold begins both
  rw [ex1, ex2, ex3, h1, h2]
set_option maxRecDepth 100000 in
theorem ex_num : (begins exQ exX (hvN (sumB exM) 32)).num = exN := by
  have e : (⟨ex_aK2, ex_aV2⟩ : KV).num = hvN (macB ex_aK2 ex_aV2) 32 := rfl
  rw [ex_begins, e, ex8, ex9]
set_option maxRecDepth 100000 in
theorem ex_tells : Tells (begins exQ exX (hvN (sumB exM) 32)) exQ exN true ((begins exQ exX (hvN (sumB exM) 32)).at 1) := by
  refine Or.inl ⟨0, by omega, fun j hj => by omega, ?_, ?_, rfl, rfl⟩
  · show fit exQ (begins exQ exX (hvN (sumB exM) 32)).num
    rw [ex_num]
    decide
  · show exN = (begins exQ exX (hvN (sumB exM) 32)).num
    rw [ex_num]
end Go.Proofs.YtlpmbhneffdcfaaDoor

/-
  The contract of awake of layer 8. Conditions: as the theorem says.
-/
namespace Go.Proofs.YtlpmbhneffdcfaaDoor
open Go.RowKit
set_option linter.unusedVariables false
set_option linter.unusedSimpArgs false

theorem ex_fq : four exQ = .agg #[.int .u64 17562291160714782033, .int .u64 13611842547513532036, .int .u64 18446744073709551615, .int .u64 18446744069414584320] := by kernel_rfl
theorem ex_fx : four exX = .agg #[.int .u64 8902035550577321761, .int .u64 5643225679381699346, .int .u64 7736094919201248915, .int .u64 14533021268895757590] := by kernel_rfl
theorem ex_fn : four exN = .agg #[.int .u64 5575783208203234656, .int .u64 4258059470363603186, .int .u64 604951544618933580, .int .u64 12025672574162353808] := by kernel_rfl
theorem ex_bits : nbits exQ = 256 := by decide +kernel
theorem ex_q4 : exQ < M4 := by decide +kernel
theorem ex_x4 : exX < M4 := by decide +kernel
theorem exM_bb : Bb exM := bb_dec _ (by decide)

set_option maxRecDepth 100000 in
set_option maxHeartbeats 4000000 in
theorem awake8 (w : World) (hg : Gl5 w) :
    Calls Tryd.prog 5 #[] w fun e w' => e = .returned (.bool true) ∧ Below w.heap.size w w' := by
  have kS : Hid (∀ (W : World) (a : Option Addr) (c : Nat), Gl5 W → SK .u8 W (.slice a 6 c) exM → Calls Tryd.prog 12 #[.slice a 6 c] W fun e w' => ∃ v', e = .returned v' ∧ SK .u8 w' v' (sumB exM) ∧ Below W.heap.size W w') := fun W a c h1 h2 => sum_any exM exM_bb (by decide) _ W h1 h2
  have kN : Hid (∀ (W : World) (v : Value), Gl5 W → SK .u8 W v (sumB exM) → Calls Tryd.prog 6 #[.agg #[.int .u64 17562291160714782033, .int .u64 13611842547513532036, .int .u64 18446744073709551615, .int .u64 18446744069414584320], .agg #[.int .u64 8902035550577321761, .int .u64 5643225679381699346, .int .u64 7736094919201248915, .int .u64 14533021268895757590], v] W fun e w' => ∃ b, e = .returned (.tuple #[.pointer (some ⟨b, 0, none⟩), .int .i64 0]) ∧ W.heap.size ≤ b ∧ Sr w' b (begins exQ exX (hvN (sumB exM) 32)) exQ ∧ Below W.heap.size W w') := by
    intro W v h1 h2
    have h := new_yes exQ exX ex_q4 ex_x4 (sumB exM) (sumB_length _) (sumB_bb _) v W h1 ex_bits h2
    rw [ex_fq, ex_fx] at h
    exact h.mono fun e w' ⟨b, k1, k2, k3, k4, _⟩ => ⟨b, k1, k2, k3, k4⟩
  have kT : Hid (∀ (W : World) (b : Nat), Gl5 W → 2 < b → Sr W b (begins exQ exX (hvN (sumB exM) 32)) exQ → Calls Tryd.prog 9 #[.pointer (some ⟨b, 0, none⟩)] W fun e w' => e = .returned (.tuple #[.agg #[.int .u64 5575783208203234656, .int .u64 4258059470363603186, .int .u64 604951544618933580, .int .u64 12025672574162353808], .bool true]) ∧ Oth b W w') := by
    intro W b h1 h2 h3
    have h := next_any (begins exQ exX (hvN (sumB exM) 32)) (begins_ok _ _ _) exQ ex_q4 (top_bit exQ ex_q4 ex_bits) exN true _ ex_tells W h1 b h2 h3
    rw [ex_fn] at h
    exact h.mono fun e w' ⟨k1, k2⟩ => ⟨k1, k2.oth⟩
  have HG : Hid (Gl5 w) := hg
  obtain ⟨S, hSe⟩ : ∃ S, Hid (sumB exM = S) := ⟨_, rfl⟩
  obtain ⟨P, hPe⟩ : ∃ P, Hid (begins exQ exX (hvN (sumB exM) 32) = P) := ⟨_, rfl⟩
  rw [hPe.out] at kN kT
  rw [hSe.out] at kS kN
  have hSl : Hid (S.length = 32) := by unfold Hid; rw [← hSe.out]; exact sumB_length _
  clear hg hPe hSe
  have XQ : Hid (At 24 ((w.alloc (.cells #[.int .u64 17562291160714782033, .int .u64 13611842547513532036, .int .u64 18446744073709551615, .int .u64 18446744069414584320] 24)).alloc (.cells #[.int .u64 8902035550577321761, .int .u64 5643225679381699346, .int .u64 7736094919201248915, .int .u64 14533021268895757590] 24)) w.heap.size [.int .u64 17562291160714782033, .int .u64 13611842547513532036, .int .u64 18446744073709551615, .int .u64 18446744069414584320]) := by
    have h : At 24 (w.alloc (.cells #[.int .u64 17562291160714782033, .int .u64 13611842547513532036, .int .u64 18446744073709551615, .int .u64 18446744069414584320] 24)) w.heap.size [.int .u64 17562291160714782033, .int .u64 13611842547513532036, .int .u64 18446744073709551615, .int .u64 18446744069414584320] := at_new _ _ _
    exact h.below ((Below.refl _ _).alloc (Nat.le_refl _) _)
  have XX : Hid (At 24 ((w.alloc (.cells #[.int .u64 17562291160714782033, .int .u64 13611842547513532036, .int .u64 18446744073709551615, .int .u64 18446744069414584320] 24)).alloc (.cells #[.int .u64 8902035550577321761, .int .u64 5643225679381699346, .int .u64 7736094919201248915, .int .u64 14533021268895757590] 24)) (w.heap.size + 1) [.int .u64 8902035550577321761, .int .u64 5643225679381699346, .int .u64 7736094919201248915, .int .u64 14533021268895757590]) := by
    have h := at_new 24 (w.alloc (.cells #[.int .u64 17562291160714782033, .int .u64 13611842547513532036, .int .u64 18446744073709551615, .int .u64 18446744069414584320] 24)) [.int .u64 8902035550577321761, .int .u64 5643225679381699346, .int .u64 7736094919201248915, .int .u64 14533021268895757590]
    have e : (w.alloc (.cells #[.int .u64 17562291160714782033, .int .u64 13611842547513532036, .int .u64 18446744073709551615, .int .u64 18446744069414584320] 24)).heap.size = w.heap.size + 1 := by simp
    rw [e] at h
    exact h
  have B0 : Hid (Below w.heap.size w ((w.alloc (.cells #[.int .u64 17562291160714782033, .int .u64 13611842547513532036, .int .u64 18446744073709551615, .int .u64 18446744069414584320] 24)).alloc (.cells #[.int .u64 8902035550577321761, .int .u64 5643225679381699346, .int .u64 7736094919201248915, .int .u64 14533021268895757590] 24))) := ((Below.refl _ _).alloc (Nat.le_refl _) _).alloc (by simp) _
  go_enter Tryd.func5, Tryd.ntmps5
  go_wp2_with fail
  obtain ⟨g, hge⟩ : ∃ g, Hid (w.heap.size = g) := ⟨_, rfl⟩
  rw [hge.out] at XQ XX ⊢
  obtain ⟨V, hV⟩ : ∃ V, ((w.alloc (.cells #[.int .u64 17562291160714782033, .int .u64 13611842547513532036, .int .u64 18446744073709551615, .int .u64 18446744069414584320] 24)).alloc (.cells #[.int .u64 8902035550577321761, .int .u64 5643225679381699346, .int .u64 7736094919201248915, .int .u64 14533021268895757590] 24)) = V := ⟨_, rfl⟩
  rw [hV] at XQ XX B0 ⊢
  clear hV
  have g2 : Below V.heap.size V ((V.alloc (.cells #[.int .u8 115, .int .u8 97, .int .u8 109, .int .u8 112, .int .u8 108, .int .u8 101] 5)).drew) := ((Below.refl _ _).alloc (Nat.le_refl _) _).drew
  have hm : Hid (SK .u8 ((V.alloc (.cells #[.int .u8 115, .int .u8 97, .int .u8 109, .int .u8 112, .int .u8 108, .int .u8 101] 5)).drew) (.slice (some ⟨V.heap.size, 0, none⟩) 6 6) exM) := (Row.newA (k := .u8) V _ exM 5 rfl).sk
  have K0 : V.drew.cell? ⟨g, 0, none⟩ = some (.int .u64 17562291160714782033) ∧ V.drew.cell? ⟨g, 1, none⟩ = some (.int .u64 13611842547513532036) ∧ V.drew.cell? ⟨g, 2, none⟩ = some (.int .u64 18446744073709551615) ∧ V.drew.cell? ⟨g, 3, none⟩ = some (.int .u64 18446744069414584320) ∧ V.drew.cell? ⟨g + 1, 0, none⟩ = some (.int .u64 8902035550577321761) ∧ V.drew.cell? ⟨g + 1, 1, none⟩ = some (.int .u64 5643225679381699346) ∧ V.drew.cell? ⟨g + 1, 2, none⟩ = some (.int .u64 7736094919201248915) ∧ V.drew.cell? ⟨g + 1, 3, none⟩ = some (.int .u64 14533021268895757590) := ⟨XQ.out.drew.cell 0, XQ.out.drew.cell 1, XQ.out.drew.cell 2, XQ.out.drew.cell 3, XX.out.drew.cell 0, XX.out.drew.cell 1, XX.out.drew.cell 2, XX.out.drew.cell 3⟩
  have K2 : ((V.alloc (.cells #[.int .u8 115, .int .u8 97, .int .u8 109, .int .u8 112, .int .u8 108, .int .u8 101] 5)).drew).cell? ⟨g, 0, none⟩ = some (.int .u64 17562291160714782033) ∧ ((V.alloc (.cells #[.int .u8 115, .int .u8 97, .int .u8 109, .int .u8 112, .int .u8 108, .int .u8 101] 5)).drew).cell? ⟨g, 1, none⟩ = some (.int .u64 13611842547513532036) ∧ ((V.alloc (.cells #[.int .u8 115, .int .u8 97, .int .u8 109, .int .u8 112, .int .u8 108, .int .u8 101] 5)).drew).cell? ⟨g, 2, none⟩ = some (.int .u64 18446744073709551615) ∧ ((V.alloc (.cells #[.int .u8 115, .int .u8 97, .int .u8 109, .int .u8 112, .int .u8 108, .int .u8 101] 5)).drew).cell? ⟨g, 3, none⟩ = some (.int .u64 18446744069414584320) ∧ ((V.alloc (.cells #[.int .u8 115, .int .u8 97, .int .u8 109, .int .u8 112, .int .u8 108, .int .u8 101] 5)).drew).cell? ⟨g + 1, 0, none⟩ = some (.int .u64 8902035550577321761) ∧ ((V.alloc (.cells #[.int .u8 115, .int .u8 97, .int .u8 109, .int .u8 112, .int .u8 108, .int .u8 101] 5)).drew).cell? ⟨g + 1, 1, none⟩ = some (.int .u64 5643225679381699346) ∧ ((V.alloc (.cells #[.int .u8 115, .int .u8 97, .int .u8 109, .int .u8 112, .int .u8 108, .int .u8 101] 5)).drew).cell? ⟨g + 1, 2, none⟩ = some (.int .u64 7736094919201248915) ∧ ((V.alloc (.cells #[.int .u8 115, .int .u8 97, .int .u8 109, .int .u8 112, .int .u8 108, .int .u8 101] 5)).drew).cell? ⟨g + 1, 3, none⟩ = some (.int .u64 14533021268895757590) := ⟨(XQ.out.below g2).cell 0, (XQ.out.below g2).cell 1, (XQ.out.below g2).cell 2, (XQ.out.below g2).cell 3, (XX.out.below g2).cell 0, (XX.out.below g2).cell 1, (XX.out.below g2).cell 2, (XX.out.below g2).cell 3⟩
  refine wp_region_held_drew (S := fun w' => w'.cell? ⟨g, 0, none⟩ = some (.int .u64 17562291160714782033) ∧ w'.cell? ⟨g, 1, none⟩ = some (.int .u64 13611842547513532036) ∧ w'.cell? ⟨g, 2, none⟩ = some (.int .u64 18446744073709551615) ∧ w'.cell? ⟨g, 3, none⟩ = some (.int .u64 18446744069414584320) ∧ w'.cell? ⟨g + 1, 0, none⟩ = some (.int .u64 8902035550577321761) ∧ w'.cell? ⟨g + 1, 1, none⟩ = some (.int .u64 5643225679381699346) ∧ w'.cell? ⟨g + 1, 2, none⟩ = some (.int .u64 7736094919201248915) ∧ w'.cell? ⟨g + 1, 3, none⟩ = some (.int .u64 14533021268895757590)) (by kernel_rfl) K0 (fun hHeld => ?_)
  refine h_take 0 (v := ?v0) rfl (by kernel_rfl) (by kernel_rfl) (by kernel_rfl) (fun _ _ _ h => h) (by rfl) ?hy0 (by assumption) ?_
  case hy0 =>
    intro w' hSw
    try dsimp only at hSw
    go_simp
    try with_reducible rfl
  try simp only [Act.put, List.setIfInBounds_toArray, List.set_cons_zero, List.set_cons_succ]
  refine h_take 1 (v := ?v1) rfl (by kernel_rfl) (by kernel_rfl) (by kernel_rfl) (fun _ _ _ h => h) (by rfl) ?hy1 (by assumption) ?_
  case hy1 =>
    intro w' hSw
    try dsimp only at hSw
    go_simp
    try with_reducible rfl
  try simp only [Act.put, List.setIfInBounds_toArray, List.set_cons_zero, List.set_cons_succ]
  refine h_call 2 rfl (by kernel_rfl) (by rfl) (fun Kk hK => ?_)
  go_simp
  clear hHeld
  refine hK.out _ _ K2 (fun hHeld => ?_)
  clear hK Kk
  try simp only [Act.put, List.setIfInBounds_toArray, List.set_cons_zero, List.set_cons_succ]
  refine h_call 3 rfl (by kernel_rfl) (by rfl) (fun Kk hK => ?_)
  go_simp
  refine (kS.out ((V.alloc (.cells #[.int .u8 115, .int .u8 97, .int .u8 109, .int .u8 112, .int .u8 108, .int .u8 101] 5)).drew) _ _ ((HG.out.grown B0.out).grown g2) hm.out).mono ?_
  rintro e W1 ⟨v1, rfl, hs1, g3⟩
  obtain ⟨a1, c1, e1⟩ := hs1.shape
  rw [hSl.out] at e1
  subst e1
  have B1 : Hid (Below V.heap.size V W1) := g2.trans (g3.mono g2.size)
  have S1 : Hid (SK .u8 W1 (.slice a1 32 c1) S) := hs1
  have K3 : W1.cell? ⟨g, 0, none⟩ = some (.int .u64 17562291160714782033) ∧ W1.cell? ⟨g, 1, none⟩ = some (.int .u64 13611842547513532036) ∧ W1.cell? ⟨g, 2, none⟩ = some (.int .u64 18446744073709551615) ∧ W1.cell? ⟨g, 3, none⟩ = some (.int .u64 18446744069414584320) ∧ W1.cell? ⟨g + 1, 0, none⟩ = some (.int .u64 8902035550577321761) ∧ W1.cell? ⟨g + 1, 1, none⟩ = some (.int .u64 5643225679381699346) ∧ W1.cell? ⟨g + 1, 2, none⟩ = some (.int .u64 7736094919201248915) ∧ W1.cell? ⟨g + 1, 3, none⟩ = some (.int .u64 14533021268895757590) := ⟨(XQ.out.below B1.out).cell 0, (XQ.out.below B1.out).cell 1, (XQ.out.below B1.out).cell 2, (XQ.out.below B1.out).cell 3, (XX.out.below B1.out).cell 0, (XX.out.below B1.out).cell 1, (XX.out.below B1.out).cell 2, (XX.out.below B1.out).cell 3⟩
  clear hs1 g3
  clear hHeld
  refine hK.out _ _ K3 (fun hHeld => ?_)
  clear hK Kk
  try simp only [Act.put, List.setIfInBounds_toArray, List.set_cons_zero, List.set_cons_succ]
  refine h_call 4 rfl (by kernel_rfl) (by rfl) (fun Kk hK => ?_)
  go_simp
  refine (kN.out W1 _ ((HG.out.grown B0.out).grown B1.out) S1.out).mono ?_
  rintro e W2 ⟨b, rfl, hb, hS2, g4⟩
  have B2 : Hid (Below V.heap.size V W2) := B1.out.trans (g4.mono B1.out.size)
  have S2 : Hid (Sr W2 b P exQ) := hS2
  have hbV : Hid (V.heap.size ≤ b) := Nat.le_trans B1.out.size hb
  have K4 : W2.cell? ⟨g, 0, none⟩ = some (.int .u64 17562291160714782033) ∧ W2.cell? ⟨g, 1, none⟩ = some (.int .u64 13611842547513532036) ∧ W2.cell? ⟨g, 2, none⟩ = some (.int .u64 18446744073709551615) ∧ W2.cell? ⟨g, 3, none⟩ = some (.int .u64 18446744069414584320) ∧ W2.cell? ⟨g + 1, 0, none⟩ = some (.int .u64 8902035550577321761) ∧ W2.cell? ⟨g + 1, 1, none⟩ = some (.int .u64 5643225679381699346) ∧ W2.cell? ⟨g + 1, 2, none⟩ = some (.int .u64 7736094919201248915) ∧ W2.cell? ⟨g + 1, 3, none⟩ = some (.int .u64 14533021268895757590) := ⟨(XQ.out.below B2.out).cell 0, (XQ.out.below B2.out).cell 1, (XQ.out.below B2.out).cell 2, (XQ.out.below B2.out).cell 3, (XX.out.below B2.out).cell 0, (XX.out.below B2.out).cell 1, (XX.out.below B2.out).cell 2, (XX.out.below B2.out).cell 3⟩
  clear hS2 g4 B1 S1 K3 K0 K2
  go_wp2_with fail
  clear hHeld
  refine hK.out _ _ K4 (fun hHeld => ?_)
  clear hK Kk
  try simp only [Act.put, List.setIfInBounds_toArray, List.set_cons_zero, List.set_cons_succ]
  refine h_take 5 (v := ?v5) rfl (by kernel_rfl) (by kernel_rfl) (by kernel_rfl) (fun _ _ _ h => h) (by rfl) ?hy5 (by assumption) ?_
  case hy5 =>
    intro w' hSw
    try dsimp only at hSw
    go_simp
    try with_reducible rfl
  try simp only [Act.put, List.setIfInBounds_toArray, List.set_cons_zero, List.set_cons_succ]
  refine h_take 6 (v := ?v6) rfl (by kernel_rfl) (by kernel_rfl) (by kernel_rfl) (fun _ _ _ h => h) (by rfl) ?hy6 (by assumption) ?_
  case hy6 =>
    intro w' hSw
    try dsimp only at hSw
    go_simp
    try with_reducible rfl
  try simp only [Act.put, List.setIfInBounds_toArray, List.set_cons_zero, List.set_cons_succ]
  refine h_take 7 (v := ?v7) rfl (by kernel_rfl) (by kernel_rfl) (by kernel_rfl) (fun _ _ _ h => h) (by rfl) ?hy7 (by assumption) ?_
  case hy7 =>
    intro w' hSw
    try dsimp only at hSw
    go_simp
    try with_reducible rfl
  try simp only [Act.put, List.setIfInBounds_toArray, List.set_cons_zero, List.set_cons_succ]
  refine h_take 8 (v := ?v8) rfl (by kernel_rfl) (by kernel_rfl) (by kernel_rfl) (fun _ _ _ h => h) (by rfl) ?hy8 (by assumption) ?_
  case hy8 =>
    intro w' hSw
    try dsimp only at hSw
    go_simp
    try with_reducible rfl
  try simp only [Act.put, List.setIfInBounds_toArray, List.set_cons_zero, List.set_cons_succ]
  refine h_take 9 (v := ?v9) rfl (by kernel_rfl) (by kernel_rfl) (by kernel_rfl) (fun _ _ _ h => h) (by rfl) ?hy9 (by assumption) ?_
  case hy9 =>
    intro w' hSw
    try dsimp only at hSw
    go_simp
    try with_reducible rfl
  try simp only [Act.put, List.setIfInBounds_toArray, List.set_cons_zero, List.set_cons_succ]
  refine wpAnyH_done (by kernel_rfl) ?_ _
  clear hHeld K4
  have hbc : Hid (2 < b) := Nat.lt_of_lt_of_le (HG.out.grown B0.out).lt hbV.out
  have BW2 : Hid (Below w.heap.size w W2) := B0.out.trans (B2.out.mono B0.out.size)
  have kM := hid_calls (kT.out W2 b (HG.out.grown BW2.out) hbc.out S2.out)
  go_wp2_with fail
  refine kM.out.mono ?_
  rintro e W3 ⟨rfl, hO3⟩
  have BW3 : Hid (Below w.heap.size w W3) := Oth.bel BW2.out hO3 (Nat.le_trans B0.out.size hbV.out)
  clear hO3 kM kT S2 BW2 B2
  go_wp2_with fail
  go_ret
  exact ⟨rfl, BW3.out.alloc BW3.out.size _⟩
end Go.Proofs.YtlpmbhneffdcfaaDoor
