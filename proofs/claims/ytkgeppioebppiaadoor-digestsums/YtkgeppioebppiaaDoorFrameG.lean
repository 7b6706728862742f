/-
  How an argument that is a slice of slices of bytes is opened; what the digest's two variables, as the program lays them, give a walk; a world in which they are so. Conditions: none beyond those written.
-/
import Derived.Test.YtkgeppioebppiaaDoorFrameN
import Derived.Test.YtkgeppioebppiaaDoorDgM
import Derived.Test.YtkgeppioebppiaaDoorRows
import Derived.Deep.Matrix
import Derived.LaidMore
import Derived.Stop.Joined
namespace Go.Proofs.YtkgeppioebppiaaDoor
open Go.ChangeShapes Go.WideShapes Go.ChangeAt Go.WideMaps Go.WideElems Go.RowKit
set_option linter.unusedVariables false

theorem row_sk {W : World} (A : Option Addr) (L C : Nat) (Z : List Int) (h1 : L ≤ C) (h3 : Z.length = C) (h4 : ∀ n ∈ Z, (Lit.int .u8 n).wf = true) (h5 : A = none → C = 0)
    (h6 : ∀ a, A = some a → ∀ c, c < C → W.cell? (a.add c) = some (.int .u8 (Z.getD c 0))) : ∃ l, SK .u8 W (.slice A L C) l ∧ Bb l := by
  have hwf : ∀ n, (Lit.int .u8 n).wf = true → 0 ≤ n ∧ n < ((256 : Nat) : Int) := fun n hn => by
    simp [Lit.wf, IntKind.min, IntKind.max, IntKind.signed, IntKind.bits] at hn
    omega
  have rng := wf_rng hwf Z h4 (by omega)
  have hlen : ((Z.take L).map Int.toNat).length = L := by simp; omega
  have hget : ∀ j, j < L → ((Z.take L).map Int.toNat).getD j 0 = (Z.getD j 0).toNat := by
    intro j hj
    simp [List.getD_eq_getElem?_getD, hj, show j < Z.length by omega]
  refine ⟨(Z.take L).map Int.toNat, ⟨A, C, by rw [hlen], by omega, fun h => ?_, fun j hj => ?_⟩, fun j => ?_⟩
  · have := h5 h
    obtain rfl : L = 0 := by omega
    exact ⟨by simp, this⟩
  · rw [hlen] at hj
    cases A with
    | none => have := h5 rfl; omega
    | some x =>
      have h0 := h6 x rfl 0 (by omega)
      have hj1 := h6 x rfl j (by omega)
      obtain ⟨b, o, sp⟩ := x
      simp only [Addr.add, if_pos] at h0
      obtain ⟨rfl, hb⟩ := cell_plain' h0
      refine ⟨b, o, rfl, hb, ?_⟩
      rw [hget j hj, Int.toNat_of_nonneg (rng j).1]
      rw [Addr.add_mid] at hj1
      exact hj1
  · by_cases hj : j < L
    · rw [hget j hj]
      have := rng j
      omega
    · rw [getD_ge _ _ (by rw [hlen]; omega)]; omega
theorem open_rows {H : Type} {enc : TypeId × Value → H} {W : World} {base : Nat} {r : Reach} {v : Value} {d : DataW H} {p : List MemPlace}
    (hv : Value.okWide Tryd.prog W r base 32 v) (h : DataW.Trod enc Tryd.prog W 0 (fun _ => true) true 32 v d p) : ∃ ls, LL W v ls := by
  obtain ⟨a0, len0, cap0, rfl⟩ := okWide_slice Tryd.underlying32 hv
  obtain ⟨fuel, hf⟩ := h
  rcases Go.Deep.open_int_rows Tryd.underlying32 Tryd.underlying22 Tryd.underlying5 (by kernel_rfl) (by kernel_rfl) hf with ⟨hcs, _⟩ | ⟨a, len, cap, A, L, C, Z, hcs, _, hl, hm, _, hx⟩
  · simp [Value.cells] at hcs
    obtain ⟨rfl, rfl, rfl⟩ := hcs
    exact ⟨[], none, 0, rfl, Nat.le_refl _, fun j hj => by simp at hj⟩
  · simp [Value.cells] at hcs
    obtain ⟨rfl, rfl, rfl⟩ := hcs
    have each : ∀ j, ∃ l : List Nat, j < len0 → SK .u8 W (.slice (A j) (L j) (C j)) l ∧ Bb l := fun j => by
      by_cases hj : j < len0
      · obtain ⟨_, h1, _, h3, h4, h5, h6⟩ := hx j (by omega)
        obtain ⟨l, h⟩ := row_sk (A j) (L j) (C j) (Z j) h1 h3 h4 h5 (fun a ha => (h6 a ha).2)
        exact ⟨l, fun _ => h⟩
      · exact ⟨[], fun h => absurd h hj⟩
    obtain ⟨f, hf'⟩ := Classical.axiomOfChoice each
    refine ⟨(List.range len0).map f, some a, cap0, by simp, by simpa using hl, fun j hj => ?_⟩
    simp only [List.length_map, List.length_range] at hj
    obtain ⟨h0, _⟩ := hx 0 (by omega)
    obtain ⟨h1, _⟩ := hx j (by omega)
    obtain ⟨b, o, sp⟩ := a
    simp only [Addr.add, if_pos] at h0
    obtain ⟨rfl, hb⟩ := cell_plain' h0
    rw [Addr.add_mid] at h1
    have e : ((List.range len0).map f).getD j [] = f j := by simp [List.getD_eq_getElem?_getD, hj]
    rw [e]
    exact ⟨b, o, _, rfl, hb, h1, (hf' j hj).1, (hf' j hj).2⟩

theorem own5 : ownKnob Tryd.prog.godebug = none := by kernel_rfl
theorem gA5 : Tryd.prog.globalNamed "cleromancy/digest.atFirst" = some 0 := by kernel_rfl
theorem gC5 : Tryd.prog.globalNamed "cleromancy/digest.constants" = some 1 := by kernel_rfl
theorem tA5 : (Tryd.prog.globals[0]?).map (·.type) = some 39 := by kernel_rfl
theorem tC5 : (Tryd.prog.globals[1]?).map (·.type) = some 62 := by kernel_rfl
theorem door_met5 (os : Os) (args : Array Value) : laidMetH Tryd.prog [("cleromancy/digest.atFirst", Rows.laid_cleromancy_digest_atFirst), ("cleromancy/digest.constants", Rows.laid_cleromancy_digest_constants)] ((World.doorLaid Tryd.prog 400 os).forCall (fun _ _ => 0) ⟨#[], args, []⟩).memory :=
  laidMetH_of_parts3 (fuel := 8) (laidMet_of_run' 8 (by kernel_rfl) (by kernel_rfl)) (by kernel_rfl) (by kernel_rfl)
/-- An array of words that reads as these is these. -/
theorem arr_u32 {H : Type} {enc : TypeId × Value → H} {W : World} {b : Nat} {spare : Nat → Bool} {held : Bool} {t : TypeId} {fuel n : Nat} {cs : List Value} {p : List MemPlace} (l : List Nat)
    (ht : Tryd.prog.underlying t = some (.array n 30)) (hn : l.length = n) (h : DataW.trod enc Tryd.prog W b spare held fuel t cs = some (.agg (l.map fun (x : Nat) => .lit (.int .u32 (x : Int))), p)) (j : Nat) (hj : j < n) :
    cs[j]? = some (.int .u32 (l.getD j 0 : Int)) := by
  obtain ⟨xs, m1, rfl, hx1, hlen, hnx, hel⟩ := DataW.trod_array ht h
  have cU : Tryd.prog.cellsOf 30 = 1 := by kernel_rfl
  rw [cU] at hel
  have k := hel j hj
  rw [Nat.mul_one, List.getElem?_eq_getElem (by omega)] at k
  obtain ⟨a, e, d, _⟩ := DataW.trod_int Tryd.underlying30 k
  have hx2 := congrArg Prod.fst hx1
  simp only [DataW.agg.injEq] at hx2
  have hx3 := congrArg (fun l => l[j]?) hx2
  simp only [List.getElem?_map] at hx3
  rw [List.getElem?_eq_getElem (show j < l.length by omega), List.getElem?_eq_getElem (show j < xs.length by omega), d] at hx3
  simp at hx3
  have := congrArg (fun l => l[0]?) e
  simp [List.getElem?_drop] at this
  rw [this, ← hx3]
  simp [List.getD_eq_getElem?_getD, show j < l.length by omega]
theorem of_laid5 {W : World} (h : laidMetH Tryd.prog [("cleromancy/digest.atFirst", Rows.laid_cleromancy_digest_atFirst), ("cleromancy/digest.constants", Rows.laid_cleromancy_digest_constants)] W) : Gl5 W := by
  rw [MakeChecks.laidMetH_plain _ _ _ (by kernel_rfl)] at h
  obtain ⟨ps, ⟨g0, t0, cs0, f0, p0, q0, hg0, ht0, hv0, hd0, ⟨g1, t1, cs1, f1, p1, q1, hg1, ht1, hv1, hd1, _, _⟩, _⟩, _, _⟩ := h
  obtain rfl := Option.some.inj (gA5.symm.trans hg0)
  obtain rfl := Option.some.inj (gC5.symm.trans hg1)
  obtain rfl := Option.some.inj (tA5.symm.trans ht0)
  obtain rfl := Option.some.inj (tC5.symm.trans ht1)
  have k0 := fun j hj => (World.var?_cell hg0 hv0 j).trans ((show cs0[j]? = cs0.toList[j]? by simp).trans (arr_u32 h0.list Tryd.underlying39 rfl hd0 j hj))
  have k1 := fun j hj => (World.var?_cell hg1 hv1 j).trans ((show cs1[j]? = cs1.toList[j]? by simp).trans (arr_u32 kk Tryd.underlying62 rfl hd1 j hj))
  exact ⟨World.block_lt_of_cell? W _ (k1 0 (by omega)), k0, k1⟩
end Go.Proofs.YtkgeppioebppiaaDoor
