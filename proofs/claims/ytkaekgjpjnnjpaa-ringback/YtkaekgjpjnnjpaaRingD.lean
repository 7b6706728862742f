/-
  A ring's whole block of memory; the contract of ring's numeral. Conditions: as each theorem says.
-/
import Derived.Test.YtkaekgjpjnnjpaaRingC
import Derived.Test.YtkaekgjpjnnjpaaRingN
namespace Go.Proofs.Ytkaekgjpjnnjpaa
open Go.RowKit
set_option linter.unusedVariables false

theorem Blk.new_at (W : World) (g : Nat) (v0 v1 v2 v3 : Int) (t : TypeId) (h : g = W.heap.size) : Blk (W.alloc (.cells #[.int .u64 v0, .int .u64 v1, .int .u64 v2, .int .u64 v3] t)) g v0 v1 v2 v3 := h ▸ Blk.new W v0 v1 v2 v3 t

/-- Four words that stand behind one another in a block. -/
structure At4 (W : World) (b k : Nat) (v0 v1 v2 v3 : Int) : Prop where
  lt : b < W.heap.size
  c0 : W.cell? ⟨b, k, none⟩ = some (.int .u64 v0)
  c1 : W.cell? ⟨b, k + 1, none⟩ = some (.int .u64 v1)
  c2 : W.cell? ⟨b, k + 2, none⟩ = some (.int .u64 v2)
  c3 : W.cell? ⟨b, k + 3, none⟩ = some (.int .u64 v3)
theorem At4.below {W W' : World} {b k : Nat} {v0 v1 v2 v3 : Int} (h : At4 W b k v0 v1 v2 v3) (hb : Below W.heap.size W W') : At4 W' b k v0 v1 v2 v3 :=
  ⟨Nat.lt_of_lt_of_le h.lt hb.size, (hb.cell (p := ⟨b, k, none⟩) h.lt).trans h.c0, (hb.cell (p := ⟨b, k + 1, none⟩) h.lt).trans h.c1, (hb.cell (p := ⟨b, k + 2, none⟩) h.lt).trans h.c2, (hb.cell (p := ⟨b, k + 3, none⟩) h.lt).trans h.c3⟩

/-- A number below 2^256 in a block, from a place on. -/
def Nu (W : World) (b k x : Nat) : Prop := x < M4 ∧ ∃ v0 v1 v2 v3 : Int, four x = .agg #[.int .u64 v0, .int .u64 v1, .int .u64 v2, .int .u64 v3] ∧ At4 W b k v0 v1 v2 v3
theorem Nu.below {W W' : World} {b k x : Nat} (h : Nu W b k x) (hb : Below W.heap.size W W') : Nu W' b k x := by
  obtain ⟨h1, v0, v1, v2, v3, h2, h3⟩ := h
  exact ⟨h1, v0, v1, v2, v3, h2, h3.below hb⟩

/-- A ring in memory. -/
def Rg (W : World) (b m : Nat) : Prop := Md W b m ∧ Nu W b 5 (M4 % m) ∧ Nu W b 9 (M4 * M4 % m)
theorem Rg.below {W W' : World} {b m : Nat} (h : Rg W b m) (hb : Below W.heap.size W W') : Rg W' b m := ⟨h.1.below hb, h.2.1.below hb, h.2.2.below hb⟩

theorem red_numeral (m x : Nat) (ho : m % 2 = 1) (hm : 1 < m) : red m (x * (M4 * M4 % m)) = x * M4 % m := by
  rw [red_mul_right, ← Nat.mul_assoc, red_up m _ ho hm]

set_option maxHeartbeats 1000000 in
theorem numeral_any (W : World) (b m x : Nat) (hR : Rg W b m) (hx : x < M4) :
    Calls Try.prog 39 #[.pointer (some ⟨b, 0, none⟩), four x] W fun e w' => e = .returned (four (x * M4 % m)) ∧ Below W.heap.size W w' := by
  have HR : Hid (Rg W b m) := hR
  obtain ⟨⟨h1, h2, h3, -⟩, -, hsM, s0, s1, s2, s3, es, hs⟩ := hR
  have hzM : x * M4 % m < M4 := Nat.lt_trans (Nat.mod_lt _ (by omega)) h3
  obtain ⟨x0, x1, x2, x3, -, -, -, -, ex, -⟩ := four_open x hx
  obtain ⟨z0, z1, z2, z3, -, -, -, -, ez, -⟩ := four_open _ hzM
  have cM : Hid (∀ w, Below W.heap.size W w → Calls Try.prog 34 #[.pointer (some ⟨b, 0, none⟩), .agg #[.int .u64 x0, .int .u64 x1, .int .u64 x2, .int .u64 x3], .agg #[.int .u64 s0, .int .u64 s1, .int .u64 s2, .int .u64 s3]] w fun e w' => e = .returned (.agg #[.int .u64 z0, .int .u64 z1, .int .u64 z2, .int .u64 z3]) ∧ Below w.heap.size w w') := by
    intro w hw; have := mulR_raw w b m x (M4 * M4 % m) (HR.out.1.below hw) hx hsM (Or.inr (Nat.mod_lt _ (by omega))); rwa [red_numeral m x h1 h2, ex, es, ez] at this
  rw [ex, ez]
  clear ex es ez hzM HR hsM hx h1 h2 h3
  obtain ⟨l, c0, c1, c2, c3⟩ := hs
  simp only [Nat.reduceAdd] at c1 c2 c3
  have l1 : b < W.heap.size + 1 := by omega
  have l2 : b < W.heap.size + 1 + 1 := by omega
  have n0 : ¬ b = W.heap.size := by omega
  have n1 : ¬ b = W.heap.size + 1 := by omega
  go_enter Try.func39, Try.ntmps39
  go_wp2_with fail
  go_region_with (go_at_call 34; refine (cM.out _ (by (repeat (first | exact Below.refl _ _ | refine Below.drew ?_ | refine Below.alloc ?_ (by first | omega | (simp <;> omega)) _ | refine Below.setCell ?_ (by first | omega | (simp <;> omega)) _)); done)).mono ?_; rintro e w1 ⟨rfl, g1⟩; have bZ : Blk w1 (W.heap.size + 1) 0 0 0 0 := Blk.below (by (repeat (first | exact Blk.new_at _ _ _ _ _ _ _ (by simp) | refine Blk.drew ?_ | refine Blk.alloc ?_ _)); done) g1; obtain ⟨k0, k1, k2, k3, k4, k5⟩ := bZ)
  all_goals
    go_wp2_with fail
    refine bodyPost_ret (v := .agg #[.int .u64 z0, .int .u64 z1, .int .u64 z2, .int .u64 z3]) (by simp [results, Try.results39, go_sem, k1, k2, k3, k4]) rfl ⟨rfl, ?_⟩
    have gs := g1.size
    simp at gs
    repeat (first | exact Below.refl _ _ | refine Below.drew ?_ | refine Below.setCell ?_ (by first | omega | (simp <;> omega)) _ | refine Below.alloc ?_ (by first | omega | (simp <;> omega)) _ | refine Below.trans ?_ (g1.mono (by first | omega | (simp <;> omega))))

end Go.Proofs.Ytkaekgjpjnnjpaa
