/-
  The law EdwardsPairs of layer 10 is true of any two elements. Conditions: the package's variables are as the program lays them.
-/
import Derived.Test.YtkbiiolkekpkiaaDoorEgQ
namespace Go.Proofs.YtkbiiolkekpkiaaDoor.Ed
open Go.RowKit
set_option linter.unusedVariables false
set_option linter.unusedSimpArgs false

/-- No point at all. -/
def P4.nil : P4 := ⟨⟨0, 0, 0, 0, 0⟩, ⟨0, 0, 0, 0, 0⟩, ⟨0, 0, 0, 0, 0⟩, ⟨0, 0, 0, 0, 0⟩⟩
theorem on_num (X Y : Nat) : (Y * Y % P25 + P25 - X * X % P25) % P25 = (1 + D25 * ((X * X % P25) * (Y * Y % P25) % P25) % P25) % P25 ↔ On dd (k X) (k Y) := by
  have h1 : k (Y * Y % P25 + P25 - X * X % P25) = k Y * k Y - k X * k X := by
    have hl := lt_mod (X * X)
    have h := k_sub (Y * Y % P25) (X * X % P25) (by omega)
    rw [k_mod] at h
    rw [h, k_mod, k_mod, k_mul, k_mul]
  have h2 : k (1 + D25 * ((X * X % P25) * (Y * Y % P25) % P25) % P25) = 1 + dd * (k X * k X) * (k Y * k Y) := by
    rw [k_add, k_one, k_mod, k_mul, k_mod, k_mul, k_mod, k_mod, k_mul, k_mul, ← assoc_k]
    rfl
  rw [← k_eq, h1, h2]
  exact Iff.rfl
theorem pairs_any (x y : L5) (hx : x.Wds) (hy : y.Wds) (w : World) (hZ : Gf w) (hD : Gd w) (hU : GbaseX w) (hV : GbaseY w) :
    Calls Tryd.prog 4 #[.agg #[.int .u64 x.l0, .int .u64 x.l1, .int .u64 x.l2, .int .u64 x.l3, .int .u64 x.l4], .agg #[.int .u64 y.l0, .int .u64 y.l1, .int .u64 y.l2, .int .u64 y.l3, .int .u64 y.l4]] w fun e w' => e = .returned (.bool true) ∧ Below w.heap.size w w' := by
  by_cases hT : ¬ 4503599627370496 ≤ x.l0 ∧ ¬ 4503599627370496 ≤ y.l0 ∧ ¬ 4503599627370496 ≤ x.l1 ∧ ¬ 4503599627370496 ≤ y.l1 ∧ ¬ 4503599627370496 ≤ x.l2 ∧ ¬ 4503599627370496 ≤ y.l2 ∧ ¬ 4503599627370496 ≤ x.l3 ∧ ¬ 4503599627370496 ≤ y.l3 ∧ ¬ 4503599627370496 ≤ x.l4 ∧ ¬ 4503599627370496 ≤ y.l4
  · have tx : x.Tm := by
      obtain ⟨h0, h1, h2, h3, h4, h5, h6, h7, h8, h9⟩ := hT
      unfold L5.Wds Wd at hx
      unfold L5.Tm Tame
      omega
    have ty : y.Tm := by
      obtain ⟨h0, h1, h2, h3, h4, h5, h6, h7, h8, h9⟩ := hT
      unfold L5.Wds Wd at hy
      unfold L5.Tm Tame
      omega
    have kx' : k x.nn = kx x := rfl
    have ky' : k y.nn = kx y := rfl
    by_cases hon : On dd (kx x) (kx y)
    · obtain ⟨c, hc, qc⟩ := from_yes_p x y tx ty hon
      exact pairs_true_w c.l c.pl x y x.nn y.nn hT ⟨kx x, kx y, hon⟩ (kx_nn x).symm (kx_nn y).symm (fun u w h => is_yes c _ hc u w h) awake10_any qc (fun w => of_nn x tx w) (fun w => of_nn y ty w)
        (fun v v' w h h' => by
          have h3 := onD_num x.nn y.nn v v' x.nn_lt y.nn_lt w h h'
          rwa [decide_eq_true ((on_num _ _).2 hon)] at h3) w hD hU hV hZ
    · have qc := from_no_p x y tx ty hon
      exact pairs_false_w P4.nil.l P4.nil.pl x y x.nn y.nn hT awake10_any qc (fun w => of_nn x tx w) (fun w => of_nn y ty w)
        (fun v v' w h h' => by
          have h3 := onD_num x.nn y.nn v v' x.nn_lt y.nn_lt w h h'
          rwa [decide_eq_false (fun e => hon ((on_num _ _).1 e))] at h3) w hD hU hV hZ
  · exact pairs_wild_w x y hT awake10_any w hD hU hV hZ
theorem pairs_all (x y : L5) (W : World) (h : Gf W ∧ Gd W ∧ GbaseX W ∧ GbaseY W) (hx : x.Wds) (hy : y.Wds) :
    Calls Tryd.prog 4 #[.agg #[.int .u64 x.l0, .int .u64 x.l1, .int .u64 x.l2, .int .u64 x.l3, .int .u64 x.l4], .agg #[.int .u64 y.l0, .int .u64 y.l1, .int .u64 y.l2, .int .u64 y.l3, .int .u64 y.l4]] W fun e w' => e = .returned (.bool true) ∧ Below W.heap.size W w' := by
  obtain ⟨hZ, hD, hU, hV⟩ := h
  exact pairs_any x y hx hy W hZ hD hU hV
end Go.Proofs.YtkbiiolkekpkiaaDoor.Ed
