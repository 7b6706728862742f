/-
  The document's own tables and primes: what Constants and Begin give, and the n-th prime, for the first 80. Conditions: as each theorem says.
-/
import Derived.Test.YthmpbblljbihgaaDoorBrM
namespace Go.Proofs.YthmpbblljbihgaaDoor.Br
open Go.RowKit
set_option linter.unusedVariables false
set_option linter.unusedSimpArgs false

set_option maxRecDepth 100000 in
set_option maxHeartbeats 4000000 in
theorem constants_any (w : World) : Calls Tryd.prog 10 #[] w fun e w' => e = .returned (.slice (some ⟨w.heap.size, 0, none⟩) 80 80) ∧ w' = w.alloc (.cells (uv kk).toArray 30) := by
  go_enter Tryd.func10, Tryd.ntmps10
  go_wp2
  go_ret
  exact ⟨rfl, rfl⟩
theorem begin_any (w : World) : Calls Tryd.prog 11 #[] w fun e w' => e = .returned (.slice (some ⟨w.heap.size, 0, none⟩) 8 8) ∧ w' = w.alloc (.cells (uv h0.list).toArray 30) := by
  go_enter Tryd.func11, Tryd.ntmps11
  go_wp2
  go_ret
  exact ⟨rfl, rfl⟩

/-- The first 80 primes. -/
def pL : List Nat := [2, 3, 5, 7, 11, 13, 17, 19, 23, 29, 31, 37, 41, 43, 47, 53, 59, 61, 67, 71, 73, 79, 83, 89, 97, 101, 103, 107, 109, 113, 127, 131, 137, 139, 149, 151, 157, 163, 167, 173, 179, 181, 191, 193, 197, 199, 211, 223, 227, 229, 233, 239, 241, 251, 257, 263, 269, 271, 277, 281, 283, 293, 307, 311, 313, 317, 331, 337, 347, 349, 353, 359, 367, 373, 379, 383, 389, 397, 401, 409]
def pP (n : Nat) : Nat := pL.getD n 0
theorem pP_all : (List.range 80).all (fun n => 2 ≤ pP n && pP n < 1000 && ct (pP n - 2) == n && (n == 0 && pP n == 2 || 3 ≤ pP n && ct (pP n - 3) + 1 == n)) = true := by decide +kernel
theorem pP_is (n : Nat) (h : n < 80) : 2 ≤ pP n ∧ pP n < 1000 ∧ ct (pP n - 2) = n ∧ (n = 0 ∧ pP n = 2 ∨ 3 ≤ pP n ∧ ct (pP n - 3) + 1 = n) := by
  have := List.all_eq_true.1 pP_all n (by simpa using h)
  simpa [and_assoc] using this

set_option maxHeartbeats 1000000 in
theorem prime_any (n0 : Nat) (hn : n0 < 80) (w : World) : Calls Tryd.prog 12 #[.int .i64 (n0 : Int)] w fun e w' => e = .returned (.int .i64 (pP n0 : Int)) ∧ w' = w := by
  obtain ⟨h2, h3, h4, h5⟩ := pP_is n0 hn
  obtain ⟨P, hP⟩ : ∃ P, Hid (pP n0 = P) := ⟨_, rfl⟩
  rw [hP.out] at h2 h3 h4 h5 ⊢
  have H4 : Hid (ct (P - 2) = n0) := h4
  have H5 : Hid (n0 = 0 ∧ P = 2 ∨ 3 ≤ P ∧ ct (P - 3) + 1 = n0) := h5
  clear h4 h5
  go_enter Tryd.func12, Tryd.ntmps12
  go_wp2
  go_loop [0, 3] (fun x y => ∃ n k : Nat, x = .int .i64 (n : Int) ∧ y = .int .i64 (((k + 2 : Nat) : Int)) ∧ Hid (ct k + n = n0) ∧ k + 2 ≤ P) (fun _ y => P - (intOf y).toNat)
  case atStart => exact ⟨n0, 0, rfl, rfl, by unfold Hid; simp [ct], h2⟩
  case round =>
    obtain ⟨n, k, rfl, rfl, hct, hk⟩ := hrel
    by_cases hz : n = 0
    · subst hz
      have hkP : k + 2 = P := by
        have h1 := hct.out
        rcases H5.out with ⟨a, b⟩ | ⟨a, b⟩
        · omega
        · rcases Nat.lt_or_ge (k + 2) P with h | h
          · have := ct_le k (P - 3 - k)
            rw [show k + (P - 3 - k) = P - 3 by omega] at this
            omega
          · omega
      rw [hkP]
      go_wp2
      go_ret
      exact ⟨rfl, rfl⟩
    · have hn0 : (0 : Int) < n := by omega
      have hnn : (n : Int) ≤ 80 := by have := hct.out; omega
      have hlt : k + 3 ≤ P := by
        rcases Nat.lt_or_ge (k + 2) P with h | h
        · omega
        · have h1 := hct.out; have h2 := H4.out
          rw [show P - 2 = k by omega] at h2
          omega
      obtain ⟨p, hp⟩ : ∃ p, Hid (k + 3 = p) := ⟨_, rfl⟩
      have ep : ((k + 2 : Nat) : Int) = (p : Int) - 1 := by have := hp.out; omega
      rw [ep]
      have hp3 : 3 ≤ p := by have := hp.out; omega
      have hpP : p ≤ P := by have := hp.out; omega
      have hstep : Hid (ct (k + 1) = ct k + if np p p then 1 else 0) := by unfold Hid; rw [← hp.out]; rfl
      have e1 : (p : Int) - 1 + 1 = p := by omega
      go_wp2
      go_loop [4, 5] (fun x y => ∃ i : Nat, 2 ≤ i ∧ i ≤ p ∧ x = .bool (np p i) ∧ y = .int .i64 (i : Int)) (fun _ y => p - (intOf y).toNat)
      case atStart => exact ⟨2, by omega, by omega, rfl, rfl⟩
      case round =>
        obtain ⟨i, hi2, hip, rfl, rfl⟩ := hrel
        by_cases hlti : i < p
        · have hlti' : (i : Int) < p := by omega
          have hm : (p : Int) % (i : Int) = ((p % i : Nat) : Int) := by simp
          have hq : Hid (np p (i + 1) = (np p i && p % i != 0)) := by unfold Hid; rw [np, if_neg (by omega)]
          obtain ⟨q, hqq⟩ : ∃ q, Hid (p % i = q) := ⟨_, rfl⟩
          rw [hqq.out] at hm hq
          have hi0 : ¬ ((i : Int) = 0) := by omega
          obtain ⟨bb, hbb⟩ : ∃ b, np p i = b := ⟨_, rfl⟩
          rw [hbb] at hq ⊢
          by_cases hq0 : q = 0
          · have hq0' : (q : Int) = 0 := by omega
            go_wp2
            go_round
            case rel => exact ⟨i + 1, by omega, by omega, by rw [hq.out, hq0]; simp, by go_num⟩
            case measure => simp [intOf] <;> omega
          · have hq0' : ¬ ((q : Int) = 0) := by omega
            go_wp2
            go_round
            case rel => exact ⟨i + 1, by omega, by omega, by rw [hq.out]; simp [hq0], by go_num⟩
            case measure => simp [intOf] <;> omega
        · obtain rfl : i = p := by omega
          cases hnp : np i i with
          | true =>
            rw [hnp] at hstep
            go_wp2
            go_round
            case rel => exact ⟨n - 1, k + 1, by go_num, by have := hp.out; go_num, by have := hstep.out; have := hct.out; unfold Hid; simp at *; omega, by omega⟩
            case measure => have := hp.out; simp [intOf]; omega
          | false =>
            rw [hnp] at hstep
            go_wp2
            go_round
            case rel => exact ⟨n, k + 1, rfl, by have := hp.out; go_num, by have := hstep.out; have := hct.out; unfold Hid; simp at *; omega, by omega⟩
            case measure => have := hp.out; simp [intOf]; omega
end Go.Proofs.YthmpbblljbihgaaDoor.Br
