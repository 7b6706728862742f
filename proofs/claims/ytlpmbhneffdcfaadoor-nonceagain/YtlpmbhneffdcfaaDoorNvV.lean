/-
  Layer 8 as plain functions of lists: the pair that sums go on with, what a new V tells, which of the tries is told. Conditions: as each theorem says.
-/
import Derived.Test.YtlpmbhneffdcfaaDoorMcV
import Derived.Test.YtlpmbhneffdcfaaDoorLimbOf
import Derived.Test.YtlpmbhneffdcfaaDoorLimbSel
import Derived.Test.YtlpmbhneffdcfaaDoorLimbCmp
import Derived.Test.YtlpmbhneffdcfaaDoorLimbSum
import Derived.Test.YtlpmbhneffdcfaaDoorExt
namespace Go.Proofs.YtlpmbhneffdcfaaDoor
open Go.RowKit
set_option linter.unusedVariables false
set_option linter.unusedSimpArgs false

/-- K and V. -/
structure KV where
  k : List Nat
  v : List Nat
/-- Both have 32 bytes. -/
structure KV.ok (s : KV) : Prop where
  kl : s.k.length = 32
  vl : s.v.length = 32
  kb : Bb s.k
  vb : Bb s.v
theorem macB_bb (key m : List Nat) : Bb (macB key m) := sumB_bb _
/-- A new K out of V and p, and a new V. -/
def KV.mix (s : KV) (p : List Nat) : KV := ⟨macB s.k (s.v ++ p), macB (macB s.k (s.v ++ p)) s.v⟩
/-- A new V. -/
def KV.draw (s : KV) : KV := ⟨s.k, macB s.k s.v⟩
def KV.next (s : KV) : KV := s.draw.mix [0]
/-- The number that is tried. -/
def KV.num (s : KV) : Nat := hvN s.draw.v 32
/-- Behind i tries. -/
def KV.at (s : KV) : Nat → KV
  | 0 => s
  | i + 1 => (s.at i).next
theorem KV.ok.mix {s : KV} (h : s.ok) (p : List Nat) : (s.mix p).ok := ⟨macB_length _ _, macB_length _ _, macB_bb _ _, macB_bb _ _⟩
theorem KV.ok.draw {s : KV} (h : s.ok) : s.draw.ok := ⟨h.kl, macB_length _ _, h.kb, macB_bb _ _⟩
theorem KV.ok.next {s : KV} (h : s.ok) : s.next.ok := h.draw.mix _
theorem KV.ok.at {s : KV} (h : s.ok) : ∀ i, (s.at i).ok
  | 0 => h
  | i + 1 => (h.at i).next
theorem hvN_M4 (l : List Nat) (h : Bb l) : hvN l 32 < M4 := Nat.lt_of_lt_of_le (hvN_lt l h 32) (by unfold M4; decide)
theorem KV.num_lt (s : KV) : s.num < M4 := hvN_M4 _ (macB_bb _ _)
/-- A number from 1 to below q. -/
def fit (q n : Nat) : Prop := n ≠ 0 ∧ n < q
instance (q n : Nat) : Decidable (fit q n) := by unfold fit; infer_instance
/-- What Next tells of a source of the order q whose pair is s, and the pair behind it. -/
def Tells (s : KV) (q n : Nat) (f : Bool) (t : KV) : Prop :=
  (∃ i, i < 1000 ∧ (∀ j, j < i → ¬ fit q (s.at j).num) ∧ fit q (s.at i).num ∧ n = (s.at i).num ∧ f = true ∧ t = s.at (i + 1)) ∨
  ((∀ j, j < 1000 → ¬ fit q (s.at j).num) ∧ n = 0 ∧ f = false ∧ t = s)
theorem tells_first (p : Nat → Prop) (hp : ∀ i, Decidable (p i)) : ∀ t, (∃ i, i < t ∧ (∀ j, j < i → ¬ p j) ∧ p i) ∨ (∀ j, j < t → ¬ p j)
  | 0 => Or.inr fun j hj => by omega
  | t + 1 => by
    rcases tells_first p hp t with ⟨i, h1, h2, h3⟩ | h
    · exact Or.inl ⟨i, by omega, h2, h3⟩
    · by_cases ht : p t
      · exact Or.inl ⟨t, by omega, h, ht⟩
      · refine Or.inr fun j hj => ?_
        by_cases e : j = t
        · subst e; exact ht
        · exact h j (by omega)
theorem tells_some (s : KV) (q : Nat) : ∃ n f t, Tells s q n f t := by
  rcases tells_first (fun i => fit q (s.at i).num) (fun i => inferInstance) 1000 with ⟨i, h1, h2, h3⟩ | h
  · exact ⟨_, _, _, Or.inl ⟨i, h1, h2, h3, rfl, rfl, rfl⟩⟩
  · exact ⟨_, _, _, Or.inr ⟨h, rfl, rfl, rfl⟩⟩
theorem Tells.ok {s : KV} {q n : Nat} {f : Bool} {t : KV} (h : Tells s q n f t) (hs : s.ok) : t.ok := by
  rcases h with ⟨i, -, -, -, -, -, rfl⟩ | ⟨-, -, -, rfl⟩
  · exact hs.at _
  · exact hs
theorem Tells.rng {s : KV} {q n : Nat} {f : Bool} {t : KV} (h : Tells s q n f t) : (f = true ∧ n ≠ 0 ∧ n < q) ∨ (f = false ∧ n = 0) := by
  rcases h with ⟨i, -, -, ⟨h1, h2⟩, rfl, rfl, -⟩ | ⟨-, rfl, rfl, -⟩
  · exact Or.inl ⟨rfl, h1, h2⟩
  · exact Or.inr ⟨rfl, rfl⟩
theorem Tells.lt {s : KV} {q n : Nat} {f : Bool} {t : KV} (h : Tells s q n f t) : n < M4 := by
  rcases h with ⟨i, -, -, -, rfl, -, -⟩ | ⟨-, rfl, -, -⟩
  · exact KV.num_lt _
  · unfold M4; omega
/-- The pair that a source begins with. -/
def begin0 : KV := ⟨List.replicate 32 0, List.replicate 32 1⟩
def both (q x h : Nat) : List Nat := beB (x % q) 32 ++ beB (h % q) 32
def begins (q x h : Nat) : KV := (begin0.mix (0 :: both q x h)).mix (1 :: both q x h)
theorem bb_rep' (n d : Nat) (hd : d < 256) : Bb (List.replicate n d) := fun j => by
  rw [List.getD_eq_getElem?_getD, List.getElem?_replicate]; split <;> simp <;> omega
theorem begin0_ok : begin0.ok := ⟨by simp [begin0], by simp [begin0], bb_rep' _ _ (by omega), bb_rep' _ _ (by omega)⟩
theorem begins_ok (q x h : Nat) : (begins q x h).ok := (begin0_ok.mix _).mix _

/-- limb's bytes of a number, the highest first, as a list. -/
theorem filled_sk {x B : Nat} {W : World} (h : Filled true x B 32 W) : SK .u8 W (.slice (some ⟨B, 0, none⟩) 32 32) (beB x 32) := by
  refine ⟨some ⟨B, 0, none⟩, 32, by rw [beB_length], by rw [beB_length]; omega, fun e => by simp at e, fun j hj => ⟨B, 0, rfl, h.size, ?_⟩⟩
  rw [beB_length] at hj
  have c := h.cell (31 - j) (by omega)
  rw [if_pos (by omega)] at c
  have e : pl true (31 - j) = 0 + j := by simp [pl]; omega
  rw [e] at c
  rw [c, beB_get _ _ _ hj]
  unfold byteAt
  rw [show 32 - 1 - j = 31 - j by omega]
theorem vb_hvN (l : List Nat) : ∀ t, vb (fun j => ((l.getD (t - 1 - j) 0 : Nat) : Int)) t = hvN l t
  | 0 => rfl
  | t + 1 => by
    have h := vb_add (fun j => ((l.getD (t + 1 - 1 - j) 0 : Nat) : Int)) 1 t
    rw [show 1 + t = t + 1 by omega] at h
    rw [h]
    have e : (fun j => ((l.getD (t + 1 - 1 - (1 + j)) 0 : Nat) : Int)) = fun j => ((l.getD (t - 1 - j) 0 : Nat) : Int) := by
      funext j
      rw [show t + 1 - 1 - (1 + j) = t - 1 - j by omega]
    rw [e, vb_hvN l t]
    simp only [hvN, vb]
    simp
    omega
theorem of_sk (l : List Nat) (hl : l.length = 32) (hb : Bb l) (va : Value) (w : World) (hs : SK .u8 w va l) :
    Calls Tryd.prog 14 #[va, .bool true] w fun e w' => e = .returned (.tuple #[four (hvN l 32), .int .i64 0]) ∧ Below w.heap.size w w' := by
  obtain ⟨b, o, c, rfl, h1, h2, h3⟩ := hs.words hl (by omega)
  have hf : ∀ j, 0 ≤ ((l.getD j 0 : Nat) : Int) ∧ ((l.getD j 0 : Nat) : Int) ≤ 255 := fun j => by have := hb j; omega
  have h := of_any (fun j => ((l.getD j 0 : Nat) : Int)) true b o c hf w h1 h3
  have e : (fun j => ((l.getD (pl true j) 0 : Nat) : Int)) = fun j => ((l.getD (32 - 1 - j) 0 : Nat) : Int) := by
    funext j; simp [pl]
  rw [e, vb_hvN l 32] at h
  exact h
theorem of_not (a : Option Addr) (n cap : Nat) (big : Bool) (w : World) (hn : n ≠ 32) :
    Calls Tryd.prog 14 #[.slice a n cap, .bool big] w fun e w' => e = .returned (.tuple #[.agg #[.int .u64 0, .int .u64 0, .int .u64 0, .int .u64 0], .int .i64 2]) ∧ Below w.heap.size w w' := by
  have hb0 : ((n : Int) == 32) = false := beq_eq_false_iff_ne.2 (by omega)
  have hb1 : ((n : Int) != 32) = true := by simp [bne, hb0]
  have hb2 : ¬ (n : Int) = 32 := by omega
  go_enter Tryd.func14, Tryd.ntmps14
  go_wp2
  refine bodyPost_ret (v := .tuple #[.agg #[.int .u64 0, .int .u64 0, .int .u64 0, .int .u64 0], .int .i64 2]) (by simp [results, Tryd.results14, go_sem]) rfl ⟨rfl, ?_⟩
  repeat (first | exact Below.refl _ _ | refine Below.drew ?_ | refine Below.alloc ?_ (by simp <;> omega) _)
end Go.Proofs.YtlpmbhneffdcfaaDoor

/-
  The contracts of layer 8's reduced; numbers of four words compared; slices of slices that are a call's own. Conditions: as each theorem says.
-/
namespace Go.Proofs.YtlpmbhneffdcfaaDoor
open Go.RowKit
set_option linter.unusedVariables false
set_option linter.unusedSimpArgs false

theorem q_eqlIn (a0 a1 a2 a3 b0 b1 b2 b3 : Int) (w : World) :
    (Op.equalIn 10000 24 (.agg #[.int .u64 a0, .int .u64 a1, .int .u64 a2, .int .u64 a3]) (.agg #[.int .u64 b0, .int .u64 b1, .int .u64 b2, .int .u64 b3])).run Tryd.prog w = .ok (decide (a0 = b0 ∧ a1 = b1 ∧ a2 = b2 ∧ a3 = b3)) w := by
  rw [show (10000 : Nat) = 9998 + 1 + 1 from rfl]
  unfold Op.equalIn
  have r : List.range' 0 4 = [0, 1, 2, 3] := rfl
  simp only [Sem.run_bind, run_underlying Tryd.underlying24, Result.andThen_ok]
  by_cases h0 : a0 = b0 <;> by_cases h1 : a1 = b1 <;> by_cases h2 : a2 = b2 <;> by_cases h3 : a3 = b3 <;> simp [go_sem, r, h0, h1, h2, h3]
theorem four_parts (x y : Nat) (hx : x < M4) (hy : y < M4) (a0 a1 a2 a3 b0 b1 b2 b3 : Int) (ex : four x = .agg #[.int .u64 a0, .int .u64 a1, .int .u64 a2, .int .u64 a3]) (ey : four y = .agg #[.int .u64 b0, .int .u64 b1, .int .u64 b2, .int .u64 b3]) :
    (a0 = b0 ∧ a1 = b1 ∧ a2 = b2 ∧ a3 = b3) ↔ x = y := by
  constructor
  · rintro ⟨rfl, rfl, rfl, rfl⟩
    exact four_inj hx hy (by rw [ex, ey])
  · rintro rfl
    rw [ex] at ey
    simp only [Value.agg.injEq, Array.mk.injEq, List.cons.injEq, Value.int.injEq, true_and, and_true] at ey
    exact ⟨ey.1, ey.2.1, ey.2.2.1, ey.2.2.2⟩
theorem q_neq (x y : Nat) (hx : x < M4) (hy : y < M4) (w : World) : (binOp .neq 24 (four x) (four y)).run Tryd.prog w = .ok (.bool (decide (x ≠ y))) w := by
  obtain ⟨a0, a1, a2, a3, -, -, -, -, ex, -⟩ := four_open x hx
  obtain ⟨b0, b1, b2, b3, -, -, -, -, ey, -⟩ := four_open y hy
  have h := four_parts x y hx hy _ _ _ _ _ _ _ _ ex ey
  rw [ex, ey]
  by_cases e : x = y
  · have h' := h.2 e
    simp [go_sem, q_eqlIn, h', e]
  · have h' : ¬ (a0 = b0 ∧ a1 = b1 ∧ a2 = b2 ∧ a3 = b3) := fun q => e (h.1 q)
    simp only [go_sem, q_eqlIn]
    simp [h', e]
theorem q_eql (x y : Nat) (hx : x < M4) (hy : y < M4) (w : World) : (binOp .eql 24 (four x) (four y)).run Tryd.prog w = .ok (.bool (decide (x = y))) w := by
  obtain ⟨a0, a1, a2, a3, -, -, -, -, ex, -⟩ := four_open x hx
  obtain ⟨b0, b1, b2, b3, -, -, -, -, ey, -⟩ := four_open y hy
  have h := four_parts x y hx hy _ _ _ _ _ _ _ _ ex ey
  rw [ex, ey]
  by_cases e : x = y
  · have h' := h.2 e
    simp [go_sem, q_eqlIn, h', e]
  · have h' : ¬ (a0 = b0 ∧ a1 = b1 ∧ a2 = b2 ∧ a3 = b3) := fun q => e (h.1 q)
    simp only [go_sem, q_eqlIn]
    simp [h', e]

set_option maxHeartbeats 1000000 in
theorem reduced_any (a q : Nat) (ha : a < M4) (hq : q < M4) (h2 : M4 ≤ 2 * q) (w : World) :
    Calls Tryd.prog 16 #[four a, four q] w fun e w' => ∃ b, e = .returned (.slice (some ⟨b, 0, none⟩) 32 32) ∧ w.heap.size ≤ b ∧ SK .u8 w' (.slice (some ⟨b, 0, none⟩) 32 32) (beB (a % q) 32) ∧ Below w.heap.size w w' := by
  obtain ⟨r, hr⟩ : ∃ r, (a + M4 - q) % M4 = r := ⟨_, rfl⟩
  obtain ⟨c, hc⟩ : ∃ c, bor a q = c := ⟨_, rfl⟩
  obtain ⟨m, hm⟩ : ∃ m, a % q = m := ⟨_, rfl⟩
  have hrl : r < M4 := by rw [← hr]; exact mod_M4 _
  have hml : m < M4 := by rw [← hm]; exact Nat.lt_trans (Nat.mod_lt _ (by unfold M4 at h2; omega)) hq
  have hsel : (bits .and .u64 c 1 = 1 ∧ m = a) ∨ (bits .and .u64 c 1 = 0 ∧ m = r) := by
    by_cases h : a < q
    · refine Or.inl ⟨?_, ?_⟩
      · rw [← hc]; unfold bor; rw [if_pos h]; decide
      · rw [← hm]; exact Nat.mod_eq_of_lt h
    · refine Or.inr ⟨?_, ?_⟩
      · rw [← hc]; unfold bor; rw [if_neg h]; decide
      · rw [← hm, ← hr, Nat.mod_eq_sub_mod (by omega), Nat.mod_eq_of_lt (by omega)]
        rw [show a + M4 - q = (a - q) + M4 by omega, Nat.add_mod_right, Nat.mod_eq_of_lt (by omega)]
  have kS : Hid (∀ W : World, Calls Tryd.prog 38 #[four a, four q] W fun e w' => e = .returned (.tuple #[four r, .int .u64 c]) ∧ Below W.heap.size W w') := fun W => by rw [← hr, ← hc]; exact sub_any a q ha hq W
  have kC : Hid (∀ W : World, Calls Tryd.prog 40 #[.int .u64 c, four a, four r] W fun e w' => e = .returned (four m) ∧ Below W.heap.size W w') := fun W => select_any c a r m ha hrl hsel W
  have kB : Hid (∀ W : World, Calls Tryd.prog 39 #[four m, .bool true] W fun e w' => e = .returned (.slice (some ⟨W.heap.size + 1, 0, none⟩) 32 32) ∧ Filled true m (W.heap.size + 1) 32 w' ∧ Below W.heap.size W w') := fun W => bytes_any m true hml W
  rw [hm]
  clear hr hc hm hsel
  obtain ⟨a0, a1, a2, a3, -, -, -, -, ea, -⟩ := four_open a ha
  obtain ⟨q0, q1, q2, q3, -, -, -, -, eq, -⟩ := four_open q hq
  obtain ⟨r0, r1, r2, r3, -, -, -, -, er, -⟩ := four_open r hrl
  obtain ⟨m0, m1, m2, m3, -, -, -, -, em, -⟩ := four_open m hml
  rw [ea, eq, er] at kS
  rw [ea, er, em] at kC
  rw [em] at kB
  rw [ea, eq]
  clear ea eq er em hrl hml ha hq h2
  go_enter Tryd.func16, Tryd.ntmps16
  go_wp2_with fail
  have X0 : Hid (Box ((w.alloc (.cells #[.int .u64 a0, .int .u64 a1, .int .u64 a2, .int .u64 a3] 24)).alloc (.cells #[.int .u64 q0, .int .u64 q1, .int .u64 q2, .int .u64 q3] 24)) w.heap.size a0 a1 a2 a3) := (Box.new w a0 a1 a2 a3 _).alloc _
  refine (kS.out _).mono ?_
  rintro e W1 ⟨rfl, g1⟩
  have X1 := X0.out.below g1
  obtain ⟨x0, x1, x2, x3, x4⟩ := X1
  have B1 : Hid (Below w.heap.size w W1) := Below.trans (by (repeat (first | exact Below.refl _ _ | refine Below.drew ?_ | refine Below.alloc ?_ (by first | omega | (simp <;> omega)) _ | refine Below.setCell ?_ (by first | omega | (simp <;> omega)) _)); done) (g1.mono (by simp <;> omega))
  clear g1 kS
  go_wp2_with fail
  refine (kC.out _).mono ?_
  rintro e W2 ⟨rfl, g2⟩
  have B2 : Hid (Below w.heap.size w W2) := (B1.out.alloc B1.out.size _).trans (g2.mono (by have := B1.out.size; simp; omega))
  clear g2 kC B1 x0 x1 x2 x3 x4
  go_wp2_with fail
  refine (kB.out W2).mono ?_
  rintro e W3 ⟨rfl, hF, g3⟩
  have B3 : Hid (Below w.heap.size w W3) := B2.out.trans (g3.mono B2.out.size)
  have hz : Hid (w.heap.size ≤ W2.heap.size + 1) := Nat.le_succ_of_le B2.out.size
  have hS : Hid (SK .u8 W3 (.slice (some ⟨W2.heap.size + 1, 0, none⟩) 32 32) (beB m 32)) := filled_sk hF
  clear g3 kB B2 hF
  obtain ⟨b, hb⟩ : ∃ b, W2.heap.size + 1 = b := ⟨_, rfl⟩
  rw [hb] at hz hS ⊢
  clear hb
  go_wp2_with fail
  go_ret
  exact ⟨b, rfl, hz.out, hS.out, B3.out⟩
end Go.Proofs.YtlpmbhneffdcfaaDoor
