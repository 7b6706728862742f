/-
  The contracts of limb's Add, Sub, MulWord: for numbers below 2^256 (MulWord: and a word) they return the document's answer and change no memory that was there. Conditions: as each theorem says.
-/
import Derived.Test.YtlpmbhneffdcfaaDoorBase
namespace Go.Proofs.YtlpmbhneffdcfaaDoor
open Go.RowKit

set_option maxHeartbeats 1000000 in
theorem sub_any (x y : Nat) (hx : x < M4) (hy : y < M4) (w : World) :
    Calls Tryd.prog 38 #[four x, four y] w fun e w' => e = .returned (.tuple #[four ((x + M4 - y) % M4), .int .u64 (bor x y)]) ∧ Below w.heap.size w w' := by
  obtain ⟨a0, a1, a2, a3, ha0, ha1, ha2, ha3, ea, hxa⟩ := four_open x hx
  obtain ⟨b0, b1, b2, b3, hb0, hb1, hb2, hb3, eb, hyb⟩ := four_open y hy
  obtain ⟨s0, c0, hs0, hc0, E0, R0⟩ := sub_step a0 b0 0 ha0 hb0 ⟨by omega, by omega⟩
  obtain ⟨s1, c1, hs1, hc1, E1, R1⟩ := sub_step a1 b1 c0 ha1 hb1 hc0
  obtain ⟨s2, c2, hs2, hc2, E2, R2⟩ := sub_step a2 b2 c1 ha2 hb2 hc1
  obtain ⟨s3, c3, hs3, hc3, E3, R3⟩ := sub_step a3 b3 c2 ha3 hb3 hc2
  have V : Hid (four ((x + M4 - y) % M4) = .agg #[.int .u64 s0, .int .u64 s1, .int .u64 s2, .int .u64 s3] ∧ bor x y = c3) := by
    exact subV x y hy _ _ _ _ _ _ _ _ _ _ _ _ _ _ _ _ hs0 hs1 hs2 hs3 hc3 hxa hyb E0 E1 E2 E3
  rw [ea, eb]
  clear hxa hyb ea eb hx hy E0 E1 E2 E3
  go_enter Tryd.func38, Tryd.ntmps38
  go_wp2
  refine wp_unr 5 ?_
  refine unr_succ ?_
  go_wp2
  go_region
  go_wp2
  refine unr_succ ?_
  go_wp2
  go_region
  go_wp2
  refine unr_succ ?_
  go_wp2
  go_region
  go_wp2
  refine unr_succ ?_
  go_wp2
  go_region
  go_wp2
  refine unr_succ ?_
  go_wp2
  refine bodyPost_ret (v := .tuple #[.agg #[.int .u64 s0, .int .u64 s1, .int .u64 s2, .int .u64 s3], .int .u64 c3]) (by simp [results, Tryd.results38, go_sem]) rfl ⟨?_, ?_⟩
  · rw [V.out.1, V.out.2]
  · repeat (first | exact Below.refl _ _ | refine Below.drew ?_ | refine Below.alloc ?_ (by simp <;> omega) _)

end Go.Proofs.YtlpmbhneffdcfaaDoor
