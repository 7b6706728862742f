/-
  The contracts of the document's own upper and of Barrett's way to the rest (Red). Conditions: as each theorem says.
-/
import Derived.Test.YtkaekgjpjnnjpaaRefR
import Derived.Test.YtkaekgjpjnnjpaaExt
namespace Go.Proofs.Ytkaekgjpjnnjpaa
open Go.RowKit
set_option linter.unusedVariables false

theorem valD_div (l : List Nat) (h : Dg l) (n : Nat) : valD l / 16777216 ^ n = valD (l.drop n) := by
  have ht : valD (l.take n) < 16777216 ^ n := by
    have h1 : Dg (l.take n) := fun j => by
      have := h j
      rw [List.getD_eq_getElem?_getD] at this ⊢
      rw [List.getElem?_take]
      split
      · exact this
      · simp
    have h2 := valD_lt _ h1
    exact Nat.lt_of_lt_of_le h2 (Nat.pow_le_pow_right (by omega) (by rw [List.length_take]; omega))
  rw [valD_split l n, Nat.add_mul_div_left _ _ (Nat.pos_of_ne_zero (by simp)), Nat.div_eq_of_lt ht, Nat.zero_add]
theorem num_len {w : World} {a : Option Addr} {c d N : Nat} (h : Num w (.slice a c d) N) : N < 16777216 ^ c ∧ (0 < N → 0 < c ∧ 16777216 ^ (c - 1) ≤ N) := by
  obtain ⟨l, ⟨a', cap, e, -⟩, h2, h3, rfl⟩ := h
  simp only [Value.slice.injEq] at e
  obtain ⟨-, rfl, -⟩ := e
  refine ⟨valD_lt l h2, fun hp => ?_⟩
  rcases h3 with rfl | h3
  · simp [valD] at hp
  · have hl : 0 < l.length := by
      rcases l with _ | ⟨x, l⟩
      · simp [valD] at hp
      · simp
    refine ⟨hl, ?_⟩
    have ht := valD_take l (l.length - 1)
    rw [show l.length - 1 + 1 = l.length by omega, List.take_length] at ht
    rw [ht]
    have : 16777216 ^ (l.length - 1) * 1 ≤ 16777216 ^ (l.length - 1) * l.getD (l.length - 1) 0 := Nat.mul_le_mul_left _ (by omega)
    omega
theorem Num.nil (w : World) : Num w (.slice none 0 0) 0 := ⟨[], Sl.nil w, Dg.nil, Or.inl rfl, rfl⟩

set_option maxHeartbeats 400000 in
theorem upper_num (A n : Nat) (va : Value) (w : World) (ha : Num w va A) (hn : n ≤ 100000) :
    Calls Try.prog 76 #[va, .int .i64 (n : Int)] w fun e w' => ∃ v, e = .returned v ∧ Num w' v (A / 16777216 ^ n) ∧ w' = w := by
  obtain ⟨l, ⟨a, cap, rfl, hc, hz, hcell⟩, h2, h3, rfl⟩ := ha
  have hn' : (n : Int) ≤ 100000 := by omega
  by_cases hlt : l.length ≤ n
  · have hd : decide ((l.length : Int) ≤ (n : Int)) = true := by simp; omega
    have H : Hid (Num w (.slice none 0 0) (valD l / 16777216 ^ n)) := by
      unfold Hid
      rw [Nat.div_eq_of_lt (Nat.lt_of_lt_of_le (valD_lt l h2) (Nat.pow_le_pow_right (by omega) hlt))]
      exact Num.nil w
    clear hz hcell
    go_enter Try.func76, Try.ntmps76
    go_wp2
    go_ret
    exact ⟨_, rfl, H.out, rfl⟩
  · have hd : decide ((l.length : Int) ≤ (n : Int)) = false := by simp; omega
    have hlen : (n : Int) ≤ l.length := by omega
    obtain ⟨b, o, rfl, hb, -⟩ := hcell 0 (by omega)
    have hcap : (l.length : Int) ≤ cap := by omega
    have H : Hid (Num w (.slice (some ⟨b, o + n, none⟩) (l.length - n) (cap - n)) (valD l / 16777216 ^ n)) := by
      unfold Hid
      rw [valD_div l h2]
      refine ⟨l.drop n, ⟨some ⟨b, o + n, none⟩, cap - n, by rw [List.length_drop], by rw [List.length_drop]; omega, fun h => by simp at h, fun j hj => ?_⟩, ?_, ?_, rfl⟩
      · rw [List.length_drop] at hj
        obtain ⟨b', o', e, e1, e2⟩ := hcell (n + j) (by omega)
        simp only [Option.some.injEq, Addr.mk.injEq, and_true] at e
        obtain ⟨rfl, rfl⟩ := e
        refine ⟨b, o + n, rfl, e1, ?_⟩
        rw [Nat.add_assoc, e2, List.getD_eq_getElem?_getD, List.getD_eq_getElem?_getD, List.getElem?_drop]
      · intro j
        have := h2 (n + j)
        rw [List.getD_eq_getElem?_getD] at this ⊢
        rwa [List.getElem?_drop]
      · rcases h3 with rfl | h3
        · exact Or.inl (by simp)
        · right
          rw [List.length_drop, List.getD_eq_getElem?_getD, List.getElem?_drop, show n + (l.length - n - 1) = l.length - 1 by omega, ← List.getD_eq_getElem?_getD]
          exact h3
    clear hz hcell
    go_enter Try.func76, Try.ntmps76
    go_wp2
    go_ret
    exact ⟨_, rfl, H.out, rfl⟩

end Go.Proofs.Ytkaekgjpjnnjpaa
