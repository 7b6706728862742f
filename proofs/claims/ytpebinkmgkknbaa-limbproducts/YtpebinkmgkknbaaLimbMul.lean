/-
  The contract of limb's MulWord: for a number below 2^256 and a word it returns the product's lowest four words and the word above, and changes no memory that was there. Conditions: as the theorem says.
-/
import Derived.Test.YtpebinkmgkknbaaBase
namespace Go.Proofs.Ytpebinkmgkknbaa
open Go.RowKit

set_option maxHeartbeats 2000000 in
theorem mulWord_raw (x n : Nat) (hx : x < M4) (hn : n < 18446744073709551616) (w : World) :
    Calls Try.prog 22 #[four x, .int .u64 (n : Int)] w fun e w' => e = .returned (.tuple #[four ((x * n) % M4), .int .u64 (((x * n) / M4 : Nat) : Int)]) ∧ ∃ c1 c2 c3 : Array Value, w' = ((w.alloc (.cells c1 24)).alloc (.cells c2 24)).alloc (.cells c3 24) := by
  obtain ⟨a0, a1, a2, a3, ha0, ha1, ha2, ha3, ea, hxa⟩ := four_open x hx
  obtain ⟨u, hu⟩ : ∃ u : Int, (n : Int) = u := ⟨_, rfl⟩
  have hw : Wd u := by unfold Wd; omega
  obtain ⟨h0, l0, hl0, hh0, P0, Q0⟩ := mul_step a0 u ha0 hw
  obtain ⟨h1, l1, hl1, hh1, P1, Q1⟩ := mul_step a1 u ha1 hw
  obtain ⟨h2, l2, hl2, hh2, P2, Q2⟩ := mul_step a2 u ha2 hw
  obtain ⟨h3, l3, hl3, hh3, P3, Q3⟩ := mul_step a3 u ha3 hw
  obtain ⟨s0, c0, hs0, hc0, E0, R0⟩ := add_step l0 0 0 hl0 ⟨by omega, by omega⟩ ⟨by omega, by omega⟩
  obtain ⟨t0, T0⟩ : ∃ t, t = h0 + c0 := ⟨_, rfl⟩
  obtain ⟨s1, c1, hs1, hc1, E1, R1⟩ := add_step l1 t0 0 hl1 (by unfold Wd; omega) ⟨by omega, by omega⟩
  obtain ⟨t1, T1⟩ : ∃ t, t = h1 + c1 := ⟨_, rfl⟩
  obtain ⟨s2, c2, hs2, hc2, E2, R2⟩ := add_step l2 t1 0 hl2 (by unfold Wd; omega) ⟨by omega, by omega⟩
  obtain ⟨t2, T2⟩ : ∃ t, t = h2 + c2 := ⟨_, rfl⟩
  obtain ⟨s3, c3, hs3, hc3, E3, R3⟩ := add_step l3 t2 0 hl3 (by unfold Wd; omega) ⟨by omega, by omega⟩
  obtain ⟨t3, T3⟩ : ∃ t, t = h3 + c3 := ⟨_, rfl⟩
  have V : Hid (four ((x * n) % M4) = .agg #[.int .u64 s0, .int .u64 s1, .int .u64 s2, .int .u64 s3] ∧ (((x * n) / M4 : Nat) : Int) = t3) :=
    mulV x u _ _ _ _ _ _ _ _ _ _ _ _ _ _ _ _ _ _ _ _ _ _ _ _ n hu hs0 hs1 hs2 hs3 hxa P0 P1 P2 P3 E0 E1 E2 E3 T0 T1 T2 T3
  rw [ea, hu]
  clear hxa ea hx hn hu E0 E1 E2 E3 P0 P1 P2 P3
  have T0' : h0 + c0 = t0 := T0.symm
  have T1' : h1 + c1 = t1 := T1.symm
  have T2' : h2 + c2 = t2 := T2.symm
  have T3' : h3 + c3 = t3 := T3.symm
  have g0 : 0 ≤ h0 + c0 := by omega
  clear T0 T1 T2 T3
  go_enter Try.func22, Try.ntmps22
  go_wp2
  refine wp_unr 5 ?_
  refine unr_succ ?_
  go_wp2_with (go_at_call 44; refine (Q0 _).mono ?_; rintro e w' ⟨rfl, rfl⟩)
  refine unr_succ ?_
  go_wp2_with (go_at_call 44; refine (Q1 _).mono ?_; rintro e w' ⟨rfl, rfl⟩)
  refine unr_succ ?_
  go_wp2_with (go_at_call 44; refine (Q2 _).mono ?_; rintro e w' ⟨rfl, rfl⟩)
  refine unr_succ ?_
  go_wp2_with (go_at_call 44; refine (Q3 _).mono ?_; rintro e w' ⟨rfl, rfl⟩)
  refine unr_succ ?_
  go_wp2
  refine bodyPost_ret (v := .tuple #[.agg #[.int .u64 s0, .int .u64 s1, .int .u64 s2, .int .u64 s3], .int .u64 t3]) (by simp [results, Try.results22, go_sem]) rfl ⟨?_, ?_⟩
  · rw [V.out.1, V.out.2]
  · exact ⟨_, _, _, rfl⟩

theorem mulWord_any (x n : Nat) (hx : x < M4) (hn : n < 18446744073709551616) (w : World) :
    Calls Try.prog 22 #[four x, .int .u64 (n : Int)] w fun e w' => e = .returned (.tuple #[four ((x * n) % M4), .int .u64 (((x * n) / M4 : Nat) : Int)]) ∧ Below w.heap.size w w' :=
  (mulWord_raw x n hx hn w).mono fun _ _ ⟨he, _, _, _, hw⟩ => ⟨he, by subst hw; repeat (first | exact Below.refl _ _ | refine Below.alloc ?_ (by simp <;> omega) _)⟩

end Go.Proofs.Ytpebinkmgkknbaa
