/-
  What the digest has gone through so far, in memory; a slice cut, and bytes copied into a part of a block, as laws of the walk. Conditions: as each theorem says.
-/
import Derived.Test.YteoaiamfpefcbaaDoorDgC
import Derived.Laws.CopyOwn
namespace Go.Proofs.YteoaiamfpefcbaaDoor
open Go.RowKit
set_option linter.unusedVariables false
set_option linter.unusedSimpArgs false

/-- The words behind k blocks of m. -/
def bl (m : List Nat) : Nat → S8
  | 0 => h0
  | k + 1 => tk (bl m k) ((m.drop (64 * k)).take 64)
theorem bl_ok (m : List Nat) : ∀ k, (bl m k).ok
  | 0 => h0_ok
  | k + 1 => tk_ok _ _
theorem bl_app (m p : List Nat) : ∀ k, 64 * k ≤ m.length → bl (m ++ p) k = bl m k
  | 0, _ => rfl
  | k + 1, h => by
    simp only [bl]
    rw [bl_app m p k (by omega), List.drop_append_of_le_length (by omega), List.take_append_of_le_length (by simp; omega)]
/-- A hash's cells: words, bytes that wait, how many came, and that it was made. -/
def hc (s : S8) (r : List Nat) (n : Nat) : List Value := uv s.list ++ (bv8 r ++ [.int .i64 (n : Int), .bool true])
theorem hc_length (s : S8) (r : List Nat) (n : Nat) (hr : r.length = 64) : (hc s r n).length = 74 := by simp [hc, uv_length, bv8_length, S8.list_length, hr]
theorem hc_rest (s : S8) (r : List Nat) (n : Nat) (hr : r.length = 64) (j : Nat) (hj : j < 64) : (hc s r n)[8 + j]? = some (.int .u8 (r.getD j 0 : Int)) := by
  unfold hc
  rw [List.getElem?_append_right (by rw [uv_length, S8.list_length]; omega), uv_length, S8.list_length, show 8 + j - 8 = j by omega, List.getElem?_append_left (by rw [bv8_length]; omega), bv8_get r j (by omega)]
theorem hc_len (s : S8) (r : List Nat) (n : Nat) (hr : r.length = 64) : (hc s r n)[72]? = some (.int .i64 (n : Int)) := by
  unfold hc
  rw [List.getElem?_append_right (by rw [uv_length, S8.list_length]; omega), uv_length, S8.list_length, List.getElem?_append_right (by rw [bv8_length]; omega), bv8_length, hr]
  rfl
theorem hc_made (s : S8) (r : List Nat) (n : Nat) (hr : r.length = 64) : (hc s r n)[73]? = some (.bool true) := by
  unfold hc
  rw [List.getElem?_append_right (by rw [uv_length, S8.list_length]; omega), uv_length, S8.list_length, List.getElem?_append_right (by rw [bv8_length]; omega), bv8_length, hr]
  rfl
theorem hc_set_len (s : S8) (r : List Nat) (n n' : Nat) (hr : r.length = 64) : (hc s r n).set 72 (.int .i64 (n' : Int)) = hc s r n' := by
  unfold hc
  rw [List.set_append_right _ _ (by rw [uv_length, S8.list_length]; omega), uv_length, S8.list_length, List.set_append_right _ _ (by rw [bv8_length]; omega), bv8_length, hr]
  rfl
theorem hc_splice (s : S8) (r : List Nat) (n q : Nat) (x : List Nat) (hr : r.length = 64) (h : q + x.length ≤ 64) : splice (hc s r n) (8 + q) (bv8 x) = hc s (splice r q x) n := by
  have e1 : (uv s.list).length = 8 := by rw [uv_length, S8.list_length]
  have e2 : (bv8 r).length = 64 := by rw [bv8_length, hr]
  have e3 : bv8 (splice r q x) = splice (bv8 r) q (bv8 x) := by simp [bv8, splice]
  unfold hc
  rw [e3]
  unfold splice
  rw [bv8_length, List.take_append, List.drop_append, e1, show 8 + q - 8 = q by omega, show 8 + q + x.length - 8 = q + x.length by omega]
  rw [List.take_of_length_le (by omega), List.drop_eq_nil_of_le (by omega), List.nil_append, List.take_append_of_le_length (by omega), List.drop_append_of_le_length (by omega)]
  simp only [List.append_assoc]

/-- The hash in block b has gone through the bytes m. -/
def HH (W : World) (b : Nat) (m : List Nat) : Prop := ∃ r : List Nat, r.length = 64 ∧ (∀ j, j < m.length % 64 → r.getD j 0 = m.getD (64 * (m.length / 64) + j) 0) ∧ At 44 W b (hc (bl m (m.length / 64)) r m.length)
theorem HH.lt {W : World} {b : Nat} {m : List Nat} (h : HH W b m) : b < W.heap.size := by obtain ⟨r, _, _, h⟩ := h; exact h.lt
theorem HH.below {W W' : World} {b : Nat} {m : List Nat} (h : HH W b m) (hb : Below W.heap.size W W') : HH W' b m := by
  obtain ⟨r, h1, h2, h3⟩ := h; exact ⟨r, h1, h2, h3.below hb⟩
theorem HH.oth {W W' : World} {b c : Nat} {m : List Nat} (h : HH W c m) (hb : Oth b W W') (hc : c ≠ b) : HH W' c m := by
  obtain ⟨r, h1, h2, h3⟩ := h; exact ⟨r, h1, h2, hb.at h3 hc⟩

end Go.Proofs.YteoaiamfpefcbaaDoor
