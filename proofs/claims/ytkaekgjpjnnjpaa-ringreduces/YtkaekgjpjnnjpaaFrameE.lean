/-
  How an argument that is an array of eight words is opened: it is the eight words of a number below 2^512. Conditions: none beyond those written.
-/
import Derived.Test.YtkaekgjpjnnjpaaFrame
namespace Go.Proofs.Ytkaekgjpjnnjpaa
open Go.ChangeShapes Go.WideShapes Go.ChangeAt Go.RowKit
set_option linter.unusedVariables false

theorem arr8 {α : Type} {cs : Array α} (h : cs.size = 8) : ∃ c0 c1 c2 c3 c4 c5 c6 c7, cs = #[c0, c1, c2, c3, c4, c5, c6, c7] := by
  obtain ⟨l⟩ := cs
  match l, h with
  | [c0, c1, c2, c3, c4, c5, c6, c7], _ => exact ⟨c0, c1, c2, c3, c4, c5, c6, c7, rfl⟩
theorem eight_of (a0 a1 a2 a3 a4 a5 a6 a7 : Int) (h0 : Wd a0) (h1 : Wd a1) (h2 : Wd a2) (h3 : Wd a3) (h4 : Wd a4) (h5 : Wd a5) (h6 : Wd a6) (h7 : Wd a7) : ∃ x : Nat, x < M4 * M4 ∧ eight x = .agg #[.int .u64 a0, .int .u64 a1, .int .u64 a2, .int .u64 a3, .int .u64 a4, .int .u64 a5, .int .u64 a6, .int .u64 a7] := by
  refine ⟨(a0 + 18446744073709551616 * a1 + 340282366920938463463374607431768211456 * a2 + 6277101735386680763835789423207666416102355444464034512896 * a3 + 115792089237316195423570985008687907853269984665640564039457584007913129639936 * a4 + 2135987035920910082395021706169552114602704522356652769947041607822219725780640550022962086936576 * a5 + 39402006196394479212279040100143613805079739270465446667948293404245721771497210611414266254884915640806627990306816 * a6 + 726838724295606890549323807888004534353641360687318060281490199180639288113397923326191050713763565560762521606266177933534601628614656 * a7).toNat, ?_, ?_⟩
  · show _ < 13407807929942597099574024998205846127479365820592393377723561443721764030073546976801874298166903427690031858186486050853753882811946569946433649006084096
    unfold Wd at *; omega
  · refine eight_eq _ _ _ _ _ _ _ _ _ h0 h1 h2 h3 h4 h5 h6 h7 ?_
    unfold Wd at *; omega
theorem open_eight {H : Type} {enc : TypeId × Value → H} {W : World} {b base : Nat} {r : Reach} {spare : Nat → Bool} {held : Bool} {v : Value} {d : DataW H} {p : List MemPlace}
    (hv : Value.okWide Try.prog W r base 26 v) (h : DataW.Trod enc Try.prog W b spare held 26 v d p) : ∃ x : Nat, x < M4 * M4 ∧ v = eight x := by
  unfold Value.okWide at hv
  rw [Try.underlying26] at hv
  obtain ⟨cs, rfl, hsz, _⟩ := hv
  obtain ⟨c0, c1, c2, c3, c4, c5, c6, c7, rfl⟩ := arr8 (hsz.trans (by kernel_rfl))
  obtain ⟨fuel, hf⟩ := h
  obtain ⟨xs, n, _, _, _, hl, hx⟩ := DataW.trod_array Try.underlying26 hf
  have hc : Try.prog.cellsOf 22 = 1 := by kernel_rfl
  have h0 := hx 0 (by omega)
  have h1 := hx 1 (by omega)
  have h2 := hx 2 (by omega)
  have h3 := hx 3 (by omega)
  have h4 := hx 4 (by omega)
  have h5 := hx 5 (by omega)
  have h6 := hx 6 (by omega)
  have h7 := hx 7 (by omega)
  rw [hc] at h0 h1 h2 h3 h4 h5 h6 h7
  rw [List.getElem?_eq_getElem (by omega)] at h0 h1 h2 h3 h4 h5 h6 h7
  simp only [Value.cells, Nat.mul_one, List.drop_zero] at h0 h1 h2 h3 h4 h5 h6 h7
  obtain ⟨a0, e0, _, w0⟩ := DataW.trod_int Try.underlying22 h0
  obtain ⟨a1, e1, _, w1⟩ := DataW.trod_int Try.underlying22 h1
  obtain ⟨a2, e2, _, w2⟩ := DataW.trod_int Try.underlying22 h2
  obtain ⟨a3, e3, _, w3⟩ := DataW.trod_int Try.underlying22 h3
  obtain ⟨a4, e4, _, w4⟩ := DataW.trod_int Try.underlying22 h4
  obtain ⟨a5, e5, _, w5⟩ := DataW.trod_int Try.underlying22 h5
  obtain ⟨a6, e6, _, w6⟩ := DataW.trod_int Try.underlying22 h6
  obtain ⟨a7, e7, _, w7⟩ := DataW.trod_int Try.underlying22 h7
  simp at e0 e1 e2 e3 e4 e5 e6 e7
  obtain ⟨x, hx, ex⟩ := eight_of a0 a1 a2 a3 a4 a5 a6 a7 (wd_of_wf w0) (wd_of_wf w1) (wd_of_wf w2) (wd_of_wf w3) (wd_of_wf w4) (wd_of_wf w5) (wd_of_wf w6) (wd_of_wf w7)
  exact ⟨x, hx, by rw [ex, e0, e1, e2, e3, e4, e5, e6, e7]⟩

end Go.Proofs.Ytkaekgjpjnnjpaa
