/-
  The contract of a ring's Exp: for any number and any exponent it returns the numeral of the power, and changes no memory that was there. Conditions: as the theorem says.
-/
import Derived.Test.YtkaekgjpjnnjpaaRingU
import Derived.Test.YtkaekgjpjnnjpaaRingE
import Derived.Test.YtkaekgjpjnnjpaaRound
namespace Go.Proofs.Ytkaekgjpjnnjpaa
open Go.RowKit Go.Shelf
set_option linter.unusedVariables false
attribute [local go_sem] Oper.semAt_some

/-- What bits make, the highest first. -/
def valB (l : List Nat) : Nat := l.foldl (fun v b => 2 * v + b) 0
theorem valB_snoc (l : List Nat) (b : Nat) : valB (l ++ [b]) = 2 * valB l + b := by simp [valB]
theorem nbits_lt (x : Nat) : x < 2 ^ nbits x := by
  unfold nbits
  by_cases h : x = 0
  · rw [if_pos h, h]; decide
  · rw [if_neg h]; exact Nat.lt_log2_self
theorem valB_bits (x : Nat) : ∀ k, k ≤ nbits x → valB (bitsB x k) = x / 2 ^ (nbits x - k)
  | 0, _ => by
    rw [Nat.sub_zero, Nat.div_eq_of_lt (nbits_lt x)]; rfl
  | k + 1, h => by
    rw [bitsB_succ, valB_snoc, valB_bits x k (by omega)]
    have e : nbits x - k = (nbits x - 1 - k) + 1 := by omega
    have e2 : nbits x - (k + 1) = nbits x - 1 - k := by omega
    rw [e, e2, Nat.pow_succ, ← Nat.div_div_eq_div_mul]
    omega
theorem valB_all (x : Nat) : valB (bitsB x (nbits x)) = x := by rw [valB_bits x _ (Nat.le_refl _), Nat.sub_self, Nat.pow_zero, Nat.div_one]

/-- The numeral of a power of the residue of a. -/
def pwr (m a v : Nat) : Nat := red m a ^ v * M4 % m
theorem pwr_lt (m a v : Nat) (hm : 1 < m) : pwr m a v < m := Nat.mod_lt _ (by omega)
theorem pwr_zero (m a : Nat) : pwr m a 0 = M4 % m := by unfold pwr; rw [Nat.pow_zero, Nat.one_mul]
theorem pwr_square (m a v : Nat) (ho : m % 2 = 1) (hm : 1 < m) : red m (pwr m a v * pwr m a v) = pwr m a (2 * v) := by
  unfold pwr
  rw [red_mul_left, red_mul_right, ← Nat.mul_assoc, red_up m _ ho hm, Nat.mul_right_comm, ← Nat.pow_add, Nat.two_mul]
theorem pwr_times (m a v : Nat) (ho : m % 2 = 1) (hm : 1 < m) : red m (a * pwr m a v) = pwr m a (v + 1) := by
  unfold pwr
  rw [red_mul_right, ← Nat.mul_assoc, red_up m _ ho hm, Nat.pow_succ, ← up_red m (a * red m a ^ v) ho hm]
  rw [← mul_mod_left' (red m a ^ v * red m a) M4 m]
  congr 2
  unfold red
  rw [mul_mod_right', Nat.mul_right_comm, Nat.mul_comm (a * ri m)]

theorem block_kept {W W' : World} {row : Option Nat} {a : Addr} {v : Value} (h : W.cell? a = some v) (hg : W.grownBy W' row) (hrow : ∀ r, row = some r → ∃ o : Obj, W.heap[r]? = some o ∧ o.isCells = false) : W'.heap[a.block]? = W.heap[a.block]? := by
  obtain ⟨o, ho, hc⟩ := cells_of_cell h
  exact grownBy_keeps_cells hg hrow ho hc
theorem Blk.kept {W W' : World} {g : Nat} {v0 v1 v2 v3 : Int} {row : Option Nat} (h : Blk W g v0 v1 v2 v3) (hg : W.grownBy W' row) (hrow : ∀ r, row = some r → ∃ o : Obj, W.heap[r]? = some o ∧ o.isCells = false) : Blk W' g v0 v1 v2 v3 := by
  have hb := block_kept h.c0 hg hrow
  exact ⟨Nat.lt_of_lt_of_le h.lt hg.size, cell_kept h.c0 hg hrow, cell_kept h.c1 hg hrow, cell_kept h.c2 hg hrow, cell_kept h.c3 hg hrow, fun j => (World.frozen?_of_block (a := ⟨g, j, none⟩) hb).trans (h.fr j)⟩
theorem keeps_of_below {W W' : World} (h : Below W.heap.size W W') : KeepsOthers W W' :=
  ⟨h.size, fun k o hk _ => (h.block k (by rcases Nat.lt_or_ge k W.heap.size with h' | h'; exact h'; rw [Array.getElem?_eq_none h'] at hk; cases hk)).trans hk⟩
theorem wpIn_cut {F : Fence} {n : Nat} {P : Program} {c : Code} {Q : Exit → Act → World → Prop} {a : Act} {w : World} (G : World → Prop) (h : G w) (k : ∀ w', G w' → c.wpIn F n P Q a w') : c.wpIn F n P Q a w := k w h

/-- What holds of Exp's variables when the power stands at v. -/
def Xi (w W : World) (b m a v : Nat) (a0 a1 a2 a3 : Int) : Prop :=
  w.heap.size + 1 + 1 + 1 + 1 + 1 < W.heap.size ∧ W.cell? ⟨w.heap.size, 0, none⟩ = some (.pointer (some ⟨b, 0, none⟩)) ∧ Blk W (w.heap.size + 1) a0 a1 a2 a3 ∧ Blk W (w.heap.size + 1 + 1 + 1) 0 0 0 0 ∧ ∃ p0 p1 p2 p3 : Int, four (pwr m a v) = .agg #[.int .u64 p0, .int .u64 p1, .int .u64 p2, .int .u64 p3] ∧ Blk W (w.heap.size + 1 + 1 + 1 + 1) p0 p1 p2 p3
theorem Xi.kept {w W W' : World} {b m a v : Nat} {a0 a1 a2 a3 : Int} {row : Option Nat} (h : Xi w W b m a v a0 a1 a2 a3) (hg : W.grownBy W' row) (hrow : ∀ r, row = some r → ∃ o : Obj, W.heap[r]? = some o ∧ o.isCells = false) : Xi w W' b m a v a0 a1 a2 a3 := by
  obtain ⟨h0, h1, h2, h3, p0, p1, p2, p3, h4, h5⟩ := h
  exact ⟨Nat.lt_of_lt_of_le h0 hg.size, cell_kept h1 hg hrow, h2.kept hg hrow, h3.kept hg hrow, p0, p1, p2, p3, h4, h5.kept hg hrow⟩
theorem Xi.below {w W W' : World} {b m a v : Nat} {a0 a1 a2 a3 : Int} (h : Xi w W b m a v a0 a1 a2 a3) (hb : Below W.heap.size W W') : Xi w W' b m a v a0 a1 a2 a3 := h.kept (grown_of_below hb) (fun r e => by cases e)
theorem Kp4.set {n₀ B g : Nat} {W W' : World} (h : Kp4 n₀ B W W') (hn : n₀ ≤ g) (hg : g ≠ B) (i : Nat) (v : Value) : Kp4 n₀ B W (W'.setCell ⟨g, i, none⟩ v) :=
  ⟨h.1.setCell (p := ⟨g, i, none⟩) hn v, by simpa using h.2.1, (Below.heap_setCell W' ⟨g, i, none⟩ v B (by simpa using Ne.symm hg)).trans h.2.2⟩
theorem kp4_of_below {n₀ B : Nat} {W W' : World} (h : Below W.heap.size W W') (hn : n₀ ≤ W.heap.size) (hB : B < W.heap.size) : Kp4 n₀ B W W' := ⟨h.mono hn, h.size, h.block B hB⟩
theorem kp4_b {n₀ Bs : Nat} {w0 : World} (hn : n₀ ≤ w0.heap.size) (hB : Bs < w0.heap.size) (W : World) (l : Nat) (o o' : Obj) (hl : w0.heap.size ≤ l) (h : W.heap[l]? = some o) (hc : o.isCells = false) (hk : o.isWalk = false) : Kp4 n₀ Bs W (W.putObj l o') :=
  ⟨belowK_b hn W l o o' hl h hc hk, by simp, World.putObj_heap_other (show Bs ≠ l by omega)⟩
theorem xi_store {w W w1 : World} {b m a v u : Nat} {a0 a1 a2 a3 q0 q1 q2 q3 : Int} (hX : Xi w W b m a v a0 a1 a2 a3) (hB : Below w.heap.size w W) (g : Below W.heap.size W w1) (eq : four (pwr m a u) = .agg #[.int .u64 q0, .int .u64 q1, .int .u64 q2, .int .u64 q3]) :
    KeepsOthers W ((((w1.setCell ⟨w.heap.size + 1 + 1 + 1 + 1, 0, none⟩ (.int .u64 q0)).setCell ⟨w.heap.size + 1 + 1 + 1 + 1, 1, none⟩ (.int .u64 q1)).setCell ⟨w.heap.size + 1 + 1 + 1 + 1, 2, none⟩ (.int .u64 q2)).setCell ⟨w.heap.size + 1 + 1 + 1 + 1, 3, none⟩ (.int .u64 q3)) ∧ Kp4 w.heap.size (w.heap.size + 1 + 1 + 1 + 1 + 1) W ((((w1.setCell ⟨w.heap.size + 1 + 1 + 1 + 1, 0, none⟩ (.int .u64 q0)).setCell ⟨w.heap.size + 1 + 1 + 1 + 1, 1, none⟩ (.int .u64 q1)).setCell ⟨w.heap.size + 1 + 1 + 1 + 1, 2, none⟩ (.int .u64 q2)).setCell ⟨w.heap.size + 1 + 1 + 1 + 1, 3, none⟩ (.int .u64 q3)) ∧ Xi w ((((w1.setCell ⟨w.heap.size + 1 + 1 + 1 + 1, 0, none⟩ (.int .u64 q0)).setCell ⟨w.heap.size + 1 + 1 + 1 + 1, 1, none⟩ (.int .u64 q1)).setCell ⟨w.heap.size + 1 + 1 + 1 + 1, 2, none⟩ (.int .u64 q2)).setCell ⟨w.heap.size + 1 + 1 + 1 + 1, 3, none⟩ (.int .u64 q3)) b m a u a0 a1 a2 a3 ∧ Below w.heap.size w ((((w1.setCell ⟨w.heap.size + 1 + 1 + 1 + 1, 0, none⟩ (.int .u64 q0)).setCell ⟨w.heap.size + 1 + 1 + 1 + 1, 1, none⟩ (.int .u64 q1)).setCell ⟨w.heap.size + 1 + 1 + 1 + 1, 2, none⟩ (.int .u64 q2)).setCell ⟨w.heap.size + 1 + 1 + 1 + 1, 3, none⟩ (.int .u64 q3)) := by
  obtain ⟨j0, j1, j2, j3, r0, r1, r2, r3, -, j5⟩ := hX.below g
  have hs := g.size
  have h0 := hX.1
  refine ⟨?_, ?_, ⟨by simpa using j0, ?_, ?_, ?_, q0, q1, q2, q3, eq, j5.set _ _ _ _⟩, ?_⟩
  · exact ((((keeps_of_below g).trans (KeepsOthers.setCell _ _ _)).trans (KeepsOthers.setCell _ _ _)).trans (KeepsOthers.setCell _ _ _)).trans (KeepsOthers.setCell _ _ _)
  · exact ((((kp4_of_below g (by omega) h0).set (by omega) (by omega) _ _).set (by omega) (by omega) _ _).set (by omega) (by omega) _ _).set (by omega) (by omega) _ _
  · have hne : ∀ i, (⟨w.heap.size + 1 + 1 + 1 + 1, i, none⟩ : Addr) ≠ ⟨w.heap.size, 0, none⟩ := fun i q => by have := congrArg Addr.block q; simp only at this; omega
    rw [World.cell?_setCell_other _ _ _ _ (hne 3), World.cell?_setCell_other _ _ _ _ (hne 2), World.cell?_setCell_other _ _ _ _ (hne 1), World.cell?_setCell_other _ _ _ _ (hne 0)]
    exact j1
  · exact (((j2.other _ _ _ (by omega)).other _ _ _ (by omega)).other _ _ _ (by omega)).other _ _ _ (by omega)
  · exact (((j3.other _ _ _ (by omega)).other _ _ _ (by omega)).other _ _ _ (by omega)).other _ _ _ (by omega)
  · have := hB.trans (g.mono (by omega))
    exact (((this.setCell (by simp; omega) _).setCell (by simp; omega) _).setCell (by simp; omega) _).setCell (by simp; omega) _

end Go.Proofs.Ytkaekgjpjnnjpaa
