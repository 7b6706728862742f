/-
  The contracts of limb's Left and Right: for a number below 2^256 and any int they return the document's answer and change no memory that was there. Conditions: as each theorem says.
-/
import Derived.Test.YtkaekgjpjnnjpaaLimbBits
namespace Go.Proofs.Ytkaekgjpjnnjpaa
open Go.RowKit
set_option linter.unusedVariables false

set_option maxHeartbeats 2000000 in
theorem left_any (x n : Nat) (hx : x < M4) (h1 : n ≤ 9223372036854775807) (w : World) :
    Calls Try.prog 51 #[four x, .int .i64 (n : Int)] w fun e w' => e = .returned (four (x * 2 ^ n % M4)) ∧ Below w.heap.size w w' := by
  obtain ⟨a0, a1, a2, a3, ha0, ha1, ha2, ha3, ea, hxa⟩ := four_open x hx
  have word := fun i w => word_any x i hx w
  rw [ea] at word ⊢
  have Hw := (show Hid _ from word)
  clear word
  clear hxa ea
  have hX : x < 2 ^ 256 := hx
  obtain ⟨q, hq⟩ : ∃ q, (n : Int) / 64 = q := ⟨_, rfl⟩
  obtain ⟨r, hr⟩ : ∃ r, (n : Int) % 64 = r := ⟨_, rfl⟩
  have h0 : 0 ≤ (n : Int) := by omega
  have hn : (n : Int) ≤ 9223372036854775807 := by omega
  have q0 : 0 ≤ q := by omega
  have q1 : q ≤ 144115188075855872 := by omega
  have r0 : 0 ≤ r := by omega
  have r1 : r ≤ 63 := by omega
  have wr : IntKind.i64.wrap (64 - r) = 64 - r := wrapI _ (by omega) (by omega)
  have pr : 0 ≤ 64 - r := by omega
  have w0 : IntKind.i64.wrap (-q) = -q := wrapI _ (by omega) (by omega)
  have w01 : IntKind.i64.wrap (-q - 1) = -q - 1 := wrapI _ (by omega) (by omega)
  have w1 : IntKind.i64.wrap (1 - q) = 1 - q := wrapI _ (by omega) (by omega)
  have w11 : IntKind.i64.wrap (1 - q - 1) = 1 - q - 1 := wrapI _ (by omega) (by omega)
  have w2 : IntKind.i64.wrap (2 - q) = 2 - q := wrapI _ (by omega) (by omega)
  have w21 : IntKind.i64.wrap (2 - q - 1) = 2 - q - 1 := wrapI _ (by omega) (by omega)
  have w3 : IntKind.i64.wrap (3 - q) = 3 - q := wrapI _ (by omega) (by omega)
  have w31 : IntKind.i64.wrap (3 - q - 1) = 3 - q - 1 := wrapI _ (by omega) (by omega)
  have V : Hid (four (x * 2 ^ n % M4) = .agg #[.int .u64 (bits .or .u64 (IntKind.u64.wrap (wordAt x (-q) * 2 ^ r.toNat)) (wordAt x (-q - 1) / 2 ^ (64 - r).toNat)), .int .u64 (bits .or .u64 (IntKind.u64.wrap (wordAt x (1 - q) * 2 ^ r.toNat)) (wordAt x (1 - q - 1) / 2 ^ (64 - r).toNat)), .int .u64 (bits .or .u64 (IntKind.u64.wrap (wordAt x (2 - q) * 2 ^ r.toNat)) (wordAt x (2 - q - 1) / 2 ^ (64 - r).toNat)), .int .u64 (bits .or .u64 (IntKind.u64.wrap (wordAt x (3 - q) * 2 ^ r.toNat)) (wordAt x (3 - q - 1) / 2 ^ (64 - r).toNat))]) := four_words _ _ _ _ _ (left_word x n hX q r hq hr 0 _ _ (by omega) (by omega)) (left_word x n hX q r hq hr 1 _ _ (by omega) (by omega)) (left_word x n hX q r hq hr 2 _ _ (by omega) (by omega)) (left_word x n hX q r hq hr 3 _ _ (by omega) (by omega))
  clear hX
  go_enter Try.func51, Try.ntmps51
  go_wp2
  refine wp_unr 5 ?_
  refine unr_succ ?_
  go_wp2
  go_region_held3 (fun w' => w'.cell? ⟨w.heap.size, 0, none⟩ = some (.int .u64 a0) ∧ w'.cell? ⟨w.heap.size, 1, none⟩ = some (.int .u64 a1) ∧ w'.cell? ⟨w.heap.size, 2, none⟩ = some (.int .u64 a2) ∧ w'.cell? ⟨w.heap.size, 3, none⟩ = some (.int .u64 a3)) (simp [go_sem, World.cell?_alloc_past])
    (first
      | (go_at_call 71; refine (Hw.out _ _).mono ?_; rintro e w' ⟨rfl, o1, rfl⟩))
  go_wp2
  refine unr_succ ?_
  go_wp2
  go_region_held3 (fun w' => w'.cell? ⟨w.heap.size, 0, none⟩ = some (.int .u64 a0) ∧ w'.cell? ⟨w.heap.size, 1, none⟩ = some (.int .u64 a1) ∧ w'.cell? ⟨w.heap.size, 2, none⟩ = some (.int .u64 a2) ∧ w'.cell? ⟨w.heap.size, 3, none⟩ = some (.int .u64 a3)) (simp [go_sem, World.cell?_alloc_past])
    (first
      | (go_at_call 71; refine (Hw.out _ _).mono ?_; rintro e w' ⟨rfl, o1, rfl⟩))
  go_wp2
  refine unr_succ ?_
  go_wp2
  go_region_held3 (fun w' => w'.cell? ⟨w.heap.size, 0, none⟩ = some (.int .u64 a0) ∧ w'.cell? ⟨w.heap.size, 1, none⟩ = some (.int .u64 a1) ∧ w'.cell? ⟨w.heap.size, 2, none⟩ = some (.int .u64 a2) ∧ w'.cell? ⟨w.heap.size, 3, none⟩ = some (.int .u64 a3)) (simp [go_sem, World.cell?_alloc_past])
    (first
      | (go_at_call 71; refine (Hw.out _ _).mono ?_; rintro e w' ⟨rfl, o1, rfl⟩))
  go_wp2
  refine unr_succ ?_
  go_wp2
  go_region_held3 (fun w' => w'.cell? ⟨w.heap.size, 0, none⟩ = some (.int .u64 a0) ∧ w'.cell? ⟨w.heap.size, 1, none⟩ = some (.int .u64 a1) ∧ w'.cell? ⟨w.heap.size, 2, none⟩ = some (.int .u64 a2) ∧ w'.cell? ⟨w.heap.size, 3, none⟩ = some (.int .u64 a3)) (simp [go_sem, World.cell?_alloc_past])
    (first
      | (go_at_call 71; refine (Hw.out _ _).mono ?_; rintro e w' ⟨rfl, o1, rfl⟩))
  go_wp2
  refine unr_succ ?_
  go_wp2
  refine bodyPost_ret (v := .agg #[.int .u64 (bits .or .u64 (IntKind.u64.wrap (wordAt x (-q) * 2 ^ r.toNat)) (wordAt x (-q - 1) / 2 ^ (64 - r).toNat)), .int .u64 (bits .or .u64 (IntKind.u64.wrap (wordAt x (1 - q) * 2 ^ r.toNat)) (wordAt x (1 - q - 1) / 2 ^ (64 - r).toNat)), .int .u64 (bits .or .u64 (IntKind.u64.wrap (wordAt x (2 - q) * 2 ^ r.toNat)) (wordAt x (2 - q - 1) / 2 ^ (64 - r).toNat)), .int .u64 (bits .or .u64 (IntKind.u64.wrap (wordAt x (3 - q) * 2 ^ r.toNat)) (wordAt x (3 - q - 1) / 2 ^ (64 - r).toNat))]) (by simp [results, Try.results51, go_sem]) rfl ⟨?_, ?_⟩
  · rw [V.out]
  · repeat (first | exact Below.refl _ _ | refine Below.drew ?_ | refine Below.alloc ?_ (by simp <;> omega) _)

theorem left_neg (x : Nat) (n : Int) (hx : x < M4) (h1 : n < 0) (w : World) :
    Calls Try.prog 51 #[four x, .int .i64 n] w fun e w' => e = .returned (four x) ∧ Below w.heap.size w w' := by
  obtain ⟨a0, a1, a2, a3, ha0, ha1, ha2, ha3, ea, hxa⟩ := four_open x hx
  rw [ea]
  clear hxa ea
  go_enter Try.func51, Try.ntmps51
  go_wp2
  refine bodyPost_ret (v := .agg #[.int .u64 a0, .int .u64 a1, .int .u64 a2, .int .u64 a3]) (by simp [results, Try.results51, go_sem]) rfl ⟨rfl, ?_⟩
  repeat (first | exact Below.refl _ _ | refine Below.drew ?_ | refine Below.alloc ?_ (by simp <;> omega) _)

end Go.Proofs.Ytkaekgjpjnnjpaa
