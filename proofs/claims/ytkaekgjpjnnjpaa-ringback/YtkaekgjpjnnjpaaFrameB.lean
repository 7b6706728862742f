/-
  How an argument that is an array of three numbers of four words is opened, and one of two numbers of 32 bits. Conditions: none beyond those written.
-/
import Derived.Test.YtkaekgjpjnnjpaaFrame
namespace Go.Proofs.Ytkaekgjpjnnjpaa
open Go.ChangeShapes Go.WideShapes Go.ChangeAt Go.RowKit
set_option linter.unusedVariables false

theorem arr12 {α : Type} {cs : Array α} (h : cs.size = 12) : ∃ c0 c1 c2 c3 c4 c5 c6 c7 c8 c9 c10 c11, cs = #[c0, c1, c2, c3, c4, c5, c6, c7, c8, c9, c10, c11] := by
  obtain ⟨l⟩ := cs
  match l, h with
  | [c0, c1, c2, c3, c4, c5, c6, c7, c8, c9, c10, c11], _ => exact ⟨c0, c1, c2, c3, c4, c5, c6, c7, c8, c9, c10, c11, rfl⟩
theorem arr2 {α : Type} {cs : Array α} (h : cs.size = 2) : ∃ c0 c1, cs = #[c0, c1] := by
  obtain ⟨l⟩ := cs
  match l, h with
  | [c0, c1], _ => exact ⟨c0, c1, rfl⟩
theorem open_three4 {H : Type} {enc : TypeId × Value → H} {W : World} {b base : Nat} {r : Reach} {spare : Nat → Bool} {held : Bool} {v : Value} {d : DataW H} {p : List MemPlace}
    (hv : Value.okWide Try.prog W r base 46 v) (h : DataW.Trod enc Try.prog W b spare held 46 v d p) :
    ∃ (x y z : Nat) (x0 x1 x2 x3 y0 y1 y2 y3 z0 z1 z2 z3 : Int), x < M4 ∧ y < M4 ∧ z < M4 ∧ four x = .agg #[.int .u64 x0, .int .u64 x1, .int .u64 x2, .int .u64 x3] ∧ four y = .agg #[.int .u64 y0, .int .u64 y1, .int .u64 y2, .int .u64 y3] ∧ four z = .agg #[.int .u64 z0, .int .u64 z1, .int .u64 z2, .int .u64 z3] ∧ v = .agg #[.int .u64 x0, .int .u64 x1, .int .u64 x2, .int .u64 x3, .int .u64 y0, .int .u64 y1, .int .u64 y2, .int .u64 y3, .int .u64 z0, .int .u64 z1, .int .u64 z2, .int .u64 z3] := by
  unfold Value.okWide at hv
  rw [Try.underlying46] at hv
  obtain ⟨cs, rfl, hsz, _⟩ := hv
  obtain ⟨c0, c1, c2, c3, c4, c5, c6, c7, c8, c9, c10, c11, rfl⟩ := arr12 (hsz.trans (by kernel_rfl))
  obtain ⟨fuel, hf⟩ := h
  obtain ⟨xs, n, _, _, _, hl, hx⟩ := DataW.trod_array Try.underlying46 hf
  have hc : Try.prog.cellsOf 24 = 4 := by kernel_rfl
  have h0 := hx 0 (by omega)
  have h1 := hx 1 (by omega)
  have h2 := hx 2 (by omega)
  rw [hc] at h0 h1 h2
  rw [List.getElem?_eq_getElem (by omega)] at h0 h1 h2
  obtain ⟨p00, p01, p02, p03, _, _, k00, k01, k02, k03⟩ := trod_array4 Try.underlying24 (by kernel_rfl) (by simpa [Value.cells] using h0)
  obtain ⟨a00, e00, _, w00⟩ := DataW.trod_int Try.underlying22 k00
  obtain ⟨a01, e01, _, w01⟩ := DataW.trod_int Try.underlying22 k01
  obtain ⟨a02, e02, _, w02⟩ := DataW.trod_int Try.underlying22 k02
  obtain ⟨a03, e03, _, w03⟩ := DataW.trod_int Try.underlying22 k03
  obtain ⟨p10, p11, p12, p13, _, _, k10, k11, k12, k13⟩ := trod_array4 Try.underlying24 (by kernel_rfl) (by simpa [Value.cells] using h1)
  obtain ⟨a10, e10, _, w10⟩ := DataW.trod_int Try.underlying22 k10
  obtain ⟨a11, e11, _, w11⟩ := DataW.trod_int Try.underlying22 k11
  obtain ⟨a12, e12, _, w12⟩ := DataW.trod_int Try.underlying22 k12
  obtain ⟨a13, e13, _, w13⟩ := DataW.trod_int Try.underlying22 k13
  obtain ⟨p20, p21, p22, p23, _, _, k20, k21, k22, k23⟩ := trod_array4 Try.underlying24 (by kernel_rfl) (by simpa [Value.cells] using h2)
  obtain ⟨a20, e20, _, w20⟩ := DataW.trod_int Try.underlying22 k20
  obtain ⟨a21, e21, _, w21⟩ := DataW.trod_int Try.underlying22 k21
  obtain ⟨a22, e22, _, w22⟩ := DataW.trod_int Try.underlying22 k22
  obtain ⟨a23, e23, _, w23⟩ := DataW.trod_int Try.underlying22 k23
  simp only [List.cons.injEq, and_true] at e00 e01 e02 e03 e10 e11 e12 e13 e20 e21 e22 e23
  obtain ⟨x, hx', ex⟩ := four_of a00 a01 a02 a03 (wd_of_wf w00) (wd_of_wf w01) (wd_of_wf w02) (wd_of_wf w03)
  obtain ⟨y, hy, ey⟩ := four_of a10 a11 a12 a13 (wd_of_wf w10) (wd_of_wf w11) (wd_of_wf w12) (wd_of_wf w13)
  obtain ⟨z, hz, ez⟩ := four_of a20 a21 a22 a23 (wd_of_wf w20) (wd_of_wf w21) (wd_of_wf w22) (wd_of_wf w23)
  exact ⟨x, y, z, _, _, _, _, _, _, _, _, _, _, _, _, hx', hy, hz, ex, ey, ez, by rw [e00, e01, e02, e03, e10, e11, e12, e13, e20, e21, e22, e23]⟩
theorem open_pair32 {H : Type} {enc : TypeId × Value → H} {W : World} {b base : Nat} {r : Reach} {spare : Nat → Bool} {held : Bool} {v : Value} {d : DataW H} {p : List MemPlace}
    (hv : Value.okWide Try.prog W r base 48 v) (h : DataW.Trod enc Try.prog W b spare held 48 v d p) : ∃ x y : Nat, x < 4294967296 ∧ y < 4294967296 ∧ v = .agg #[.int .u32 (x : Int), .int .u32 (y : Int)] := by
  unfold Value.okWide at hv
  rw [Try.underlying48] at hv
  obtain ⟨cs, rfl, hsz, _⟩ := hv
  obtain ⟨c0, c1, rfl⟩ := arr2 (hsz.trans (by kernel_rfl))
  obtain ⟨fuel, hf⟩ := h
  obtain ⟨xs, n, _, _, _, hl, hx⟩ := DataW.trod_array Try.underlying48 hf
  have hc : Try.prog.cellsOf 47 = 1 := by kernel_rfl
  have h0 := hx 0 (by omega)
  have h1 := hx 1 (by omega)
  rw [hc] at h0 h1
  rw [List.getElem?_eq_getElem (by omega)] at h0 h1
  simp only [Value.cells, Nat.zero_mul, Nat.one_mul, List.drop_zero] at h0 h1
  obtain ⟨a0, e0, _, w0⟩ := DataW.trod_int Try.underlying47 h0
  obtain ⟨a1, e1, _, w1⟩ := DataW.trod_int Try.underlying47 h1
  simp at e0 e1
  simp [Lit.wf, IntKind.min, IntKind.max, IntKind.signed, IntKind.bits] at w0 w1
  obtain ⟨x, rfl⟩ := Int.eq_ofNat_of_zero_le (show 0 ≤ a0 by omega)
  obtain ⟨y, rfl⟩ := Int.eq_ofNat_of_zero_le (show 0 ≤ a1 by omega)
  exact ⟨x, y, by omega, by omega, by rw [e0, e1]⟩

end Go.Proofs.Ytkaekgjpjnnjpaa
