/-
  The plain arithmetic of nat's DivWord: word by word from above. And a row of words in memory that a loop over a function keeps. Conditions: none beyond those written.
-/
import Derived.Test.YtdlocljnmaeikaaNatM
import Derived.Test.YtdlocljnmaeikaaDiv
import Derived.Test.YtdlocljnmaeikaaRound
namespace Go.Proofs.Ytdlocljnmaeikaa
open Go.RowKit Go.Shelf
set_option linter.unusedVariables false

/-- One word more is divided. -/
def stepQ (m : Nat) (st : List Nat × Nat) (p : Nat × Nat) : List Nat × Nat := (st.1.set p.1 ((st.2 * 18446744073709551616 + p.2) / m), (st.2 * 18446744073709551616 + p.2) % m)
def stQ (n m : Nat) (ps : List (Nat × Nat)) : List Nat × Nat := ps.foldl (stepQ m) (List.replicate n 0, 0)
theorem stQ_snoc (n m : Nat) (ps : List (Nat × Nat)) (p : Nat × Nat) : stQ n m (ps ++ [p]) = stepQ m (stQ n m ps) p := by simp [stQ]
theorem stQ_lt (n m : Nat) (hm : 0 < m) (ps : List (Nat × Nat)) : (stQ n m ps).2 < m := by
  rcases List.eq_nil_or_concat ps with rfl | ⟨qs, q, rfl⟩
  · exact hm
  · rw [List.concat_eq_append, stQ_snoc]; exact Nat.mod_lt _ hm
theorem foldQ_length (m : Nat) : ∀ (ps : List (Nat × Nat)) (st : List Nat × Nat), (ps.foldl (stepQ m) st).1.length = st.1.length
  | [], _ => rfl
  | p :: ps, st => by rw [List.foldl_cons, foldQ_length m ps]; simp [stepQ]
theorem stQ_length (n m : Nat) (ps : List (Nat × Nat)) : (stQ n m ps).1.length = n := by
  unfold stQ; rw [foldQ_length]; simp
theorem word_quo (l x m : Nat) (hl : l < m) (hx : x < 18446744073709551616) : (l * 18446744073709551616 + x) / m < 18446744073709551616 := by
  refine Nat.div_lt_of_lt_mul ?_
  have : (l + 1) * 18446744073709551616 ≤ m * 18446744073709551616 := Nat.mul_le_mul_right _ hl
  omega
/-- Behind k words the state is the quotient and the rest of the words above. -/
theorem stQ_at (la : List Nat) (hw : Ww la) (m : Nat) (hm : 0 < m) : ∀ k, k ≤ la.length →
    Ww (stQ la.length m (pairsB la k)).1 ∧ (∀ j, j < la.length - k → (stQ la.length m (pairsB la k)).1.getD j 0 = 0) ∧
    valW (stQ la.length m (pairsB la k)).1 = 18446744073709551616 ^ (la.length - k) * (valW (la.drop (la.length - k)) / m) ∧ (stQ la.length m (pairsB la k)).2 = valW (la.drop (la.length - k)) % m := by
  intro k
  induction k with
  | zero =>
    intro _
    have e : stQ la.length m (pairsB la 0) = (List.replicate la.length 0, 0) := by simp [stQ, pairsB]
    rw [e, Nat.sub_zero, List.drop_length]
    refine ⟨Ww.zeros _, fun j _ => ?_, ?_, ?_⟩
    · dsimp only; rw [List.getD_eq_getElem?_getD, List.getElem?_replicate]; split <;> rfl
    · dsimp only; rw [valW_zeros]; simp [valW]
    · simp [valW]
  | succ k ih =>
    intro hk
    obtain ⟨h1, h2, h3, h4⟩ := ih (by omega)
    have hlen := stQ_length la.length m (pairsB la k)
    rw [pairsB_succ, stQ_snoc]
    generalize stQ la.length m (pairsB la k) = st at *
    obtain ⟨o, l⟩ := st
    dsimp only at h1 h2 h3 h4 hlen
    simp only [stepQ]
    obtain ⟨i, hi⟩ : ∃ i, la.length - 1 - k = i := ⟨_, rfl⟩
    have hi2 : la.length - k = i + 1 := by omega
    have hi3 : la.length - (k + 1) = i := by omega
    rw [hi, hi3]
    rw [hi2] at h2 h3 h4
    have hx := hw i
    have hd := valW_drop' la i
    generalize la.getD i 0 = x at *
    generalize hH : valW (la.drop (i + 1)) = H at *
    have hlm : l < m := by rw [h4]; exact Nat.mod_lt _ hm
    have hq := word_quo l x m hlm hx
    have hHd := Nat.div_add_mod H m
    rw [← h4] at hHd
    have hX : valW (la.drop i) = m * (18446744073709551616 * (H / m)) + (l * 18446744073709551616 + x) := by
      rw [hd, ← Nat.mul_left_comm 18446744073709551616 m]
      generalize m * (H / m) = Z at *
      omega
    refine ⟨h1.set (by omega) hq, fun j hj => ?_, ?_, ?_⟩
    · rw [getD_set _ _ _ _ (by omega), if_neg (by omega)]; exact h2 j (by omega)
    · have e := valW_set o i ((l * 18446744073709551616 + x) / m) (by omega)
      rw [h2 i (by omega), Nat.mul_zero, Nat.add_zero] at e
      rw [e, h3, hX, Nat.mul_add_div hm, Nat.mul_add, Nat.pow_succ, Nat.mul_assoc]
    · rw [hX, Nat.mul_add_mod]
theorem stQ_done (la : List Nat) (hw : Ww la) (m : Nat) (hm : 0 < m) : Ww (stQ la.length m (pairsB la la.length)).1 ∧ valW (stQ la.length m (pairsB la la.length)).1 = valW la / m ∧ (stQ la.length m (pairsB la la.length)).2 = valW la % m := by
  obtain ⟨h1, h2, h3, h4⟩ := stQ_at la hw m hm la.length (Nat.le_refl _)
  rw [Nat.sub_self, List.drop_zero] at h3 h4
  exact ⟨h1, by rw [h3, Nat.pow_zero, Nat.one_mul], h4⟩

/-- Block g holds the words l. -/
structure RowC (g : Nat) (l : List Nat) (W : World) : Prop where
  cell : ∀ j, j < l.length → W.cell? ⟨g, j, none⟩ = some (.int .u64 (l.getD j 0 : Int))
  free : ∀ j, j < l.length → W.frozen? ⟨g, j, none⟩ = false
  lt : g < W.heap.size
theorem Row.rowC {base g : Nat} {l : List Nat} {W : World} (h : Row .u64 base g l W) : RowC g l W := ⟨h.cell, fun j _ => h.free j, h.lt⟩
theorem RowC.kept {g : Nat} {l : List Nat} {W W' : World} {row : Option Nat} (h : RowC g l W) (hg : W.grownBy W' row) (hr : ∀ r, row = some r → ∃ o : Obj, W.heap[r]? = some o ∧ o.isCells = false) : RowC g l W' :=
  ⟨fun j hj => cell_kept (h.cell j hj) hg hr, fun j hj => (frozen_kept (h.cell j hj) hg hr).trans (h.free j hj), Nat.lt_of_lt_of_le h.lt hg.size⟩
theorem RowC.below {g : Nat} {l : List Nat} {W W' : World} (h : RowC g l W) (hb : Below W.heap.size W W') : RowC g l W' :=
  ⟨fun j hj => (hb.cell (p := ⟨g, j, none⟩) h.lt).trans (h.cell j hj), fun j hj => (hb.frozen (p := ⟨g, j, none⟩) h.lt).trans (h.free j hj), Nat.lt_of_lt_of_le h.lt hb.size⟩
theorem RowC.set {g : Nat} {l : List Nat} {W : World} (h : RowC g l W) (i v : Nat) (hi : i < l.length) : RowC g (l.set i v) (W.setCell ⟨g, i, none⟩ (.int .u64 (v : Int))) := by
  refine ⟨fun j hj => ?_, fun j hj => ?_, by simpa using h.lt⟩
  · rw [List.length_set] at hj
    rw [getD_set l i j v hi]
    by_cases e : j = i
    · subst e
      rw [World.cell?_setCell_same _ _ _ (h.cell j hj), if_pos rfl]
    · rw [World.cell?_setCell_other _ _ _ _ (fun q => e (by simpa using (congrArg Addr.off q).symm)), h.cell j hj, if_neg e]
  · rw [List.length_set] at hj
    rw [← h.free j hj]; simp
theorem RowC.other {g : Nat} {l : List Nat} {W : World} (h : RowC g l W) (b o : Nat) (v : Value) (hb : b ≠ g) : RowC g l (W.setCell ⟨b, o, none⟩ v) :=
  ⟨fun j hj => by rw [World.cell?_setCell_other _ _ _ _ (fun q => hb (by simpa using (congrArg Addr.block q)))]; exact h.cell j hj, fun j hj => by rw [World.frozen?_setCell]; exact h.free j hj, by simpa using h.lt⟩
theorem RowC.sk {g : Nat} {l : List Nat} {W : World} (h : RowC g l W) : SK .u64 W (.slice (some ⟨g, 0, none⟩) l.length l.length) l :=
  ⟨some ⟨g, 0, none⟩, l.length, rfl, Nat.le_refl _, fun h => by simp at h, fun j hj => ⟨g, 0, rfl, h.lt, by rw [Nat.zero_add]; exact h.cell j hj⟩⟩

end Go.Proofs.Ytdlocljnmaeikaa
