/-
  The walk of the law FieldBack: for any three elements it returns true and changes no memory that was there, where the package's variables are as the program lays them. Conditions: as each theorem says.
-/
import Derived.Test.YtedhfimjcpbcpaaDoorKbad
import Derived.Test.YtedhfimjcpbcpaaDoorKbab
import Derived.Test.YtedhfimjcpbcpaaDoorKbaa
import Derived.Deep.MidRow
import Derived.Deep.WholeRow
import Derived.Laws.CopyOwn
import Derived.Laws.AppendOwnNone
import Derived.ArgAppend
import Derived.Deep.RegionHeld3
import Derived.Deep.DeepCutAuto
import Derived.Lib.LazyBuf
import Derived.Test.YtedhfimjcpbcpaaDoorKbac
import Derived.Test.YtedhfimjcpbcpaaDoorRows
import Derived.LaidMore
import Derived.Stop.Joined
import Derived.RangeFuncNested
import Derived.RangeFuncBound
import Derived.RangeFuncCalls
import Derived.RangeFuncLeaves
import Derived.RangeFuncFrom
import Derived.Shelf.Abstract
import Derived.Shelf.RegionOpen
import Derived.WalkKit
import Derived.OwnWalkIn
import Derived.TacticsInMore
import Derived.LoopNIn
import Derived.LoopIn
namespace Go.Proofs.YtedhfimjcpbcpaaDoor
open Go.RowKit
set_option linter.unusedVariables false
set_option linter.unusedSimpArgs false

attribute [local go_sem] ext_cell ext_frozen
theorem nn_same {x y : L5} (h : x.nn = y.nn) : x.num % (P25 : Int) = y.num % (P25 : Int) := by rw [← x.nn_eq, ← y.nn_eq, h]
theorem same_yes (x y : L5) (hx : x.Tm) (hy : y.Tm) (h : x.nn = y.nn) (w : World) : Calls Tryd.prog 65 #[.agg #[.int .u64 x.l0, .int .u64 x.l1, .int .u64 x.l2, .int .u64 x.l3, .int .u64 x.l4], .agg #[.int .u64 y.l0, .int .u64 y.l1, .int .u64 y.l2, .int .u64 y.l3, .int .u64 y.l4]] w fun e w' => e = .returned (.bool true) ∧ Below w.heap.size w w' :=
  same_fe x y hx hy true (by rw [decide_eq_true (nn_same h)]) w
theorem same_no (x y : L5) (hx : x.Tm) (hy : y.Tm) (h : ¬ x.nn = y.nn) (w : World) : Calls Tryd.prog 65 #[.agg #[.int .u64 x.l0, .int .u64 x.l1, .int .u64 x.l2, .int .u64 x.l3, .int .u64 x.l4], .agg #[.int .u64 y.l0, .int .u64 y.l1, .int .u64 y.l2, .int .u64 y.l3, .int .u64 y.l4]] w fun e w' => e = .returned (.bool false) ∧ Below w.heap.size w w' :=
  same_fe x y hx hy false (by rw [decide_eq_false]; intro h2; refine h ?_; rw [← x.nn_eq, ← y.nn_eq] at h2; omega) w
theorem sq_roots {a b : Nat} (ha : a < P25) (hb : b < P25) (h : a * a % P25 = b * b % P25) : a = b ∨ a = (P25 - b) % P25 := by
  have key : ∀ u v : Nat, u < P25 → v < P25 → u ≤ v → u * u % P25 = v * v % P25 → u = v ∨ (u + v) % P25 = 0 := by
    intro u v hu hv huv h
    have h1 : P25 ∣ v * v - u * u := sub_of_mod (Nat.mul_le_mul huv huv) h
    have h2 : v * v - u * u = (v - u) * (v + u) := by
      rw [Nat.sub_mul, Nat.mul_add, Nat.mul_add, Nat.mul_comm u v]; omega
    rw [h2] at h1
    rcases P25_prime.dvd_mul h1 with h3 | h3
    · left
      have := Nat.eq_zero_of_dvd_of_lt h3 (by omega)
      omega
    · right
      rw [Nat.add_comm]
      exact Nat.mod_eq_zero_of_dvd h3
  rcases Nat.le_total a b with hab | hab
  · rcases key a b ha hb hab h with h1 | h1
    · exact Or.inl h1
    · exact Or.inr ((neg_iff ha hb).2 h1)
  · rcases key b a hb ha hab h.symm with h1 | h1
    · exact Or.inl h1.symm
    · exact Or.inr ((neg_iff ha hb).2 (by rw [Nat.add_comm]; exact h1))
theorem evn_lt (n : Nat) (h : n < P25) : evn n < P25 := by
  unfold evn
  split
  · exact Nat.mod_lt _ P25_pos
  · exact h
/-- What is evened is one of the two, and even. -/
theorem evn_or (a : Nat) (ha : a < P25) : (evn a = a ∨ evn a = (P25 - a) % P25) ∧ evn a % 2 = 0 := by
  unfold evn
  by_cases h : a % 2 = 1
  · rw [if_pos h]
    refine ⟨Or.inr rfl, ?_⟩
    rw [Nat.mod_eq_of_lt (show P25 - a < P25 by omega)]
    have : P25 % 2 = 1 := by decide +kernel
    omega
  · rw [if_neg h]
    exact ⟨Or.inl rfl, by omega⟩
theorem neg_sq (a : Nat) (ha : a < P25) : ((P25 - a) % P25) * ((P25 - a) % P25) % P25 = a * a % P25 := by
  rcases Nat.eq_zero_or_pos a with rfl | h0
  · rw [Nat.sub_zero, Nat.mod_self]
  · rw [Nat.mod_eq_of_lt (show P25 - a < P25 by omega)]
    have e : (P25 - a) * (P25 - a) + P25 * (2 * a) = a * a + P25 * P25 := by
      obtain ⟨b, hb⟩ : ∃ b, P25 = a + b := ⟨P25 - a, by omega⟩
      rw [hb, Nat.add_sub_cancel_left]
      grind
    have := congrArg (· % P25) e
    simp only [Nat.add_mul_mod_self_left] at this
    exact this
theorem evn_sq (a : Nat) (ha : a < P25) : evn a * evn a % P25 = a * a % P25 := by
  rcases (evn_or a ha).1 with h | h
  · rw [h]
  · rw [h, neg_sq a ha]
theorem neg_neg (a : Nat) (ha : a < P25) : (P25 - (P25 - a) % P25) % P25 = a := by
  rcases Nat.eq_zero_or_pos a with rfl | h0
  · rw [Nat.sub_zero, Nat.mod_self, Nat.sub_zero, Nat.mod_self]
  · rw [Nat.mod_eq_of_lt (show P25 - a < P25 by omega), show P25 - (P25 - a) = a by omega, Nat.mod_eq_of_lt ha]
/-- Euler: to the half of p - 1 a number is 1 or -1. -/
theorem half_one (a : Nat) (ha : a % P25 ≠ 0) : a ^ ((P25 - 1) / 2) % P25 = 1 ∨ a ^ ((P25 - 1) / 2) % P25 = P25 - 1 := by
  have hf := fermat P25_prime ha
  have he : (P25 - 1) / 2 + (P25 - 1) / 2 = P25 - 1 := by decide +kernel
  have h1 : (a ^ ((P25 - 1) / 2) % P25) * (a ^ ((P25 - 1) / 2) % P25) % P25 = 1 * 1 % P25 := by
    rw [← Nat.mul_mod, ← Nat.pow_add, he, hf]; decide +kernel
  have hl : a ^ ((P25 - 1) / 2) % P25 < P25 := Nat.mod_lt _ P25_pos
  generalize a ^ ((P25 - 1) / 2) % P25 = u at *
  rcases sq_roots hl (by decide +kernel) h1 with h | h
  · exact Or.inl h
  · right; rw [h]; decide +kernel
theorem rt1_exp1 : (P25 + 3) / 8 * 2 * 2 = (P25 - 1) / 2 + 2 := by decide +kernel
theorem rt1_sq (a : Nat) : rt1 (a * a % P25) * rt1 (a * a % P25) % P25 = a ^ ((P25 - 1) / 2) % P25 * (a * a % P25) % P25 := by
  have he := rt1_exp1
  unfold rt1
  generalize (P25 + 3) / 8 = e at *
  generalize (P25 - 1) / 2 = h at *
  rw [← Nat.mul_mod, ← Nat.pow_add, ← Nat.pow_mod, ← Nat.mul_mod, ← Nat.pow_two, ← Nat.pow_mul, show 2 * (e + e) = h + 2 by omega, Nat.pow_add]
theorem rootOk_sq (a : Nat) (ha : a < P25) : rootOk (a * a % P25) = true := by
  rcases Nat.eq_zero_or_pos a with h0 | h0
  · exact (root_zero _ (by rw [h0, Nat.zero_mul, Nat.zero_mod])).1
  · have hs := rt1_sq a
    have hl : a * a % P25 < P25 := Nat.mod_lt _ P25_pos
    unfold rootOk
    rcases half_one a (by rw [Nat.mod_eq_of_lt ha]; omega) with h | h
    · rw [h, Nat.one_mul, Nat.mod_mod] at hs
      rw [if_pos hs]
    · rw [h, Nat.mul_comm (P25 - 1), mul_minus_one P25_pos hl] at hs
      have h2 : rt2 (a * a % P25) * rt2 (a * a % P25) % P25 = a * a % P25 := by
        unfold rt2
        rw [← Nat.mul_mod, show rt1 (a * a % P25) * I25 * (rt1 (a * a % P25) * I25) = (rt1 (a * a % P25) * rt1 (a * a % P25)) * (I25 * I25) by grind, Nat.mul_mod, I25_sq, hs, mul_minus_one P25_pos (Nat.mod_lt _ P25_pos), neg_neg _ hl]
      by_cases h3 : rt1 (a * a % P25) * rt1 (a * a % P25) % P25 = a * a % P25
      · rw [if_pos h3]
      · rw [if_neg h3, if_pos h2]
theorem root_spec (A : Nat) (h : rootOk A = true) : rootN A * rootN A % P25 = A ∧ rootN A % 2 = 0 ∧ rootN A < P25 := by
  unfold rootOk at h
  unfold rootN
  by_cases h1 : rt1 A * rt1 A % P25 = A
  · rw [if_pos h1]
    exact ⟨by rw [evn_sq _ (rt1_lt A), h1], (evn_or _ (rt1_lt A)).2, evn_lt _ (rt1_lt A)⟩
  · rw [if_neg h1] at h ⊢
    by_cases h2 : rt2 A * rt2 A % P25 = A
    · rw [if_pos h2]
      exact ⟨by rw [evn_sq _ (rt2_lt A), h2], (evn_or _ (rt2_lt A)).2, evn_lt _ (rt2_lt A)⟩
    · rw [if_neg h2] at h
      cases h
end Go.Proofs.YtedhfimjcpbcpaaDoor

/-
  Points and their bytes, as numbers of the field: which bytes are a point, and which one; the base. No program is spoken of here. Conditions: as each theorem says.
-/
namespace Go.Proofs.YtedhfimjcpbcpaaDoor.Ed
open Go.RowKit
set_option linter.unusedVariables false
set_option linter.unusedSimpArgs false

theorem evn_low (n : Nat) (h : n < P25) : evn n < P25 := by
  unfold evn
  split
  · exact lt_mod _
  · exact h
theorem rat_lt (U V : Nat) : ratN U V < P25 := by
  unfold ratN
  split
  · decide +kernel
  · unfold rootN
    split
    · exact evn_low _ (rt1_lt _)
    · split
      · exact evn_low _ (rt2_lt _)
      · decide +kernel
/-- A point's bytes. -/
def bytesOf (P : Pt) : List Nat := leB (P.y.val + (if P.x.val % 2 = 1 then 2 ^ 255 else 0)) 32
/-- What the document's ratio's root is. -/
theorem rat_spec (U V : Nat) (hU : U < P25) (hV : V < P25) (h : ratOk U V = true) : ratN U V * ratN U V % P25 * V % P25 = U ∧ ratN U V % 2 = 0 := by
  by_cases hv : V = 0 ∧ 0 < U
  · rw [(rat_no hv).1] at h
    cases h
  · obtain ⟨h1, h2⟩ := rat_of hv
    rw [h1] at h
    rw [h2]
    obtain ⟨s1, s2, s3⟩ := root_spec _ h
    refine ⟨?_, s2⟩
    by_cases hv0 : V = 0
    · have hU0 : U = 0 := by omega
      rw [hv0, hU0, Nat.mul_zero, Nat.zero_mod]
    · have hf := frac_back (U := U) (V := V) hU (by rw [Nat.mod_eq_of_lt hV]; exact hv0)
      rw [s1, hf]
theorem rat_spec_k (U V : Nat) (hU : U < P25) (hV : V < P25) (h : ratOk U V = true) : k (ratN U V) * k (ratN U V) * k V = k U := by
  rw [← k_mul, ← k_mod (ratN U V * ratN U V), ← k_mul, ← k_mod, (rat_spec U V hU hV h).1]
theorem val_lt (a : K) : a.val < P25 := a.isLt
/-- There is a root where there is one. -/
theorem rat_ok (U V : Nat) (hU : U < P25) (hV : V < P25) (hV0 : ¬ V = 0) (x : K) (h : x * x * k V = k U) :
    ratOk U V = true ∧ (ratN U V = x.val ∨ ratN U V = (P25 - x.val) % P25) := by
  have hk : ¬ k V = 0 := fun e => hV0 (by have := (k_nought V).1 e; rwa [Nat.mod_eq_of_lt hV] at this)
  obtain ⟨h1, h2⟩ := rat_of (U := U) (V := V) (fun e => hV0 e.1)
  have hf := frac_back (U := U) (V := V) hU (by rw [Nat.mod_eq_of_lt hV]; exact hV0)
  have hl : U * (V ^ (P25 - 2) % P25) % P25 < P25 := lt_mod _
  rw [h1, h2]
  generalize U * (V ^ (P25 - 2) % P25) % P25 = A at hf hl
  have e1 : k A * k V = x * x * k V := by rw [h, ← k_mul, ← k_mod, hf]
  have e2 : k A = x * x := by
    rcases no_div _ _ (two_eq _ _ _ e1) with e | e
    · exact minus_zero _ _ e
    · exact absurd e hk
  have e3 : A = x.val * x.val % P25 := by
    rw [← k_of x, ← k_mul] at e2
    have := (k_eq _ _).1 e2
    rwa [Nat.mod_eq_of_lt hl] at this
  have o := rootOk_sq x.val (val_lt x)
  rw [← e3] at o
  obtain ⟨s1, s2, s3⟩ := root_spec _ o
  exact ⟨o, sq_roots s3 (val_lt x) (s1.trans e3)⟩
/-- No point has a bottom of nought. -/
theorem quot_ne (y : K) : ¬ dd * (y * y) + 1 = 0 := by
  intro h
  have h1 : dd * (y * y) = k I25 * k I25 := by rw [i_sq]; exact minus_from _ _ h
  have h2 := no_square _ _ h1
  rw [h2] at h
  exact one_ne (by rw [← h]; exact (times_zero _).symm)
theorem uv_k (y a m U V : Nat) (q_a : y * y % P25 = a) (q_u : (a + P25 - 1) % P25 = U) (q_m : D25 * a % P25 = m) (q_v : (m + 1) % P25 = V) :
    k U = k y * k y - 1 ∧ k V = dd * (k y * k y) + 1 ∧ U < P25 ∧ V < P25 ∧ ¬ V = 0 := by
  have hP : 1 ≤ a + P25 := by have : 1 ≤ P25 := by decide +kernel
                              omega
  have ha : k a = k y * k y := by rw [← q_a, k_mod, k_mul]
  have h2 : k V = dd * (k y * k y) + 1 := by rw [← q_v, k_mod, k_add, ← q_m, k_mod, k_mul, ha, k_one]; rfl
  refine ⟨by rw [← q_u, k_sub _ _ hP, ha, k_one], h2, by rw [← q_u]; exact lt_mod _, by rw [← q_v]; exact lt_mod _, fun e => ?_⟩
  rw [e, k_zero] at h2
  exact quot_ne _ h2.symm
/-- What Of gives lies on the curve. -/
theorem of_on (y a m U V : Nat) (q_a : y * y % P25 = a) (q_u : (a + P25 - 1) % P25 = U) (q_m : D25 * a % P25 = m) (q_v : (m + 1) % P25 = V) (hok : ratOk U V = true) :
    On dd (k (ratN U V)) (k y) ∧ On dd (-k (ratN U V)) (k y) := by
  obtain ⟨h1, h2, h3, h4, h5⟩ := uv_k y a m U V q_a q_u q_m q_v
  have h := rat_spec_k U V h3 h4 hok
  exact ⟨on_from _ _ _ _ _ h1 h2 h, on_from _ _ _ _ _ h1 h2 (sq_neg _ _ _ h)⟩
/-- A point's second number has a root, and its root is the first number or its other sign, whichever is even. -/
theorem of_point (P : Pt) (a m U V : Nat) (q_a : P.y.val * P.y.val % P25 = a) (q_u : (a + P25 - 1) % P25 = U) (q_m : D25 * a % P25 = m) (q_v : (m + 1) % P25 = V) :
    ratOk U V = true ∧ (ratN U V = P.x.val ∨ ratN U V = (P25 - P.x.val) % P25) ∧ ratN U V % 2 = 0 := by
  obtain ⟨h1, h2, h3, h4, h5⟩ := uv_k P.y.val a m U V q_a q_u q_m q_v
  rw [k_of] at h1 h2
  have h := rat_ok U V h3 h4 h5 P.x (sq_from _ _ _ _ _ h1 h2 P.on)
  exact ⟨h.1, h.2, (rat_spec U V h3 h4 h.1).2⟩
/-- The sign says which. -/
theorem of_sign (n x : Nat) (hx : x < P25) (h : n = x ∨ n = (P25 - x) % P25) (he : n % 2 = 0) :
    (x % 2 = 0 → n = x) ∧ (x % 2 = 1 → ¬ n = 0 ∧ P25 - n = x) := by
  have hp := P25_odd
  have h0 : 0 < P25 := by decide +kernel
  generalize P25 = p at *
  rcases Nat.eq_zero_or_pos x with z | z
  · subst z
    rw [Nat.sub_zero, Nat.mod_self] at h
    exact ⟨fun _ => by omega, fun e => by omega⟩
  · rw [Nat.mod_eq_of_lt (show p - x < p by omega)] at h
    exact ⟨fun e => by omega, fun e => by omega⟩
theorem bb_turn (l : List Nat) (hf : Bb l) : Bb (turn l) := by
  intro j
  by_cases h : j < l.length
  · rw [turn_get l j h]; exact hf _
  · rw [List.getD_eq_getElem?_getD, List.getElem?_eq_none (by rw [turn_length]; omega)]; simp
theorem hv_digit (l : List Nat) (hb : Bb l) : ∀ t j, j < t → hvN l t / 256 ^ (t - 1 - j) % 256 = l.getD j 0
  | 0, j, h => by omega
  | t + 1, j, h => by
    have hd := hb t
    show (hvN l t * 256 + l.getD t 0) / 256 ^ (t + 1 - 1 - j) % 256 = l.getD j 0
    by_cases e : j = t
    · subst e
      rw [show j + 1 - 1 - j = 0 by omega, Nat.pow_zero, Nat.div_one]
      omega
    · have ih := hv_digit l hb t j (by omega)
      rw [show t + 1 - 1 - j = 1 + (t - 1 - j) by omega, Nat.pow_add, Nat.pow_one, ← Nat.div_div_eq_div_mul, show (hvN l t * 256 + l.getD t 0) / 256 = hvN l t by omega]
      exact ih
theorem le_hv (l : List Nat) (hb : Bb l) (hl : l.length = 32) : leB (hvN (turn l) 32) 32 = l := by
  refine list_of_getD _ _ (by rw [leB_length, hl]) (fun j hj => ?_)
  rw [leB_length] at hj
  have h := hv_digit (turn l) (bb_turn l hb) 32 (31 - j) (by omega)
  rw [turn_get l (31 - j) (by omega), hl, show 32 - 1 - (31 - j) = j by omega] at h
  rw [leB_get _ _ _ hj, Nat.pow_mul]
  exact h
theorem P25_top : P25 < 2 ^ 255 := by decide +kernel
theorem k_small (n : Nat) (h : n < P25) : (k n).val = n := Nat.mod_eq_of_lt h
def bX : Nat := 15112221349535400772501151409588531511454012693041857206046113283949847762202
def bY : Nat := 46316835694926478169428394003475163141307993866256225615783033603165251855960
theorem bX_lt : bX < P25 := by decide +kernel
theorem bY_lt : bY < P25 := by decide +kernel
theorem minus_is (a b c : K) (h : a = c + b) : a - b = c := by rw [h]; exact (minus_plus c b (c + b) rfl).symm
theorem base_on : On dd (k bX) (k bY) := by
  unfold On
  have h : bY * bY % P25 = (1 + D25 * (bX * bX) * (bY * bY) + bX * bX) % P25 := by decide +kernel
  have h2 := (k_eq _ _).2 h
  rw [k_add, k_add, k_mul, k_mul, k_mul, k_mul, k_one] at h2
  simp only [k_mul] at h2
  exact minus_is _ _ _ h2
/-- The base. -/
noncomputable def baseP : Pt := ⟨k bX, k bY, base_on⟩
end Go.Proofs.YtedhfimjcpbcpaaDoor.Ed

/-
  Blocks of memory as lists of cells, what lies beside them, slices cut, bytes copied and appended, pieces, primes counted: laws that speak of no package of the program. Conditions: as each theorem says.
-/
namespace Go.Proofs.YtedhfimjcpbcpaaDoor
open Go.RowKit
set_option linter.unusedVariables false
set_option linter.unusedSimpArgs false

theorem Row.zeros {k : IntKind} (W : World) (cs : Array Value) (n : Nat) (t : TypeId) (h : cs = Array.replicate n (.int k 0)) : Row k W.heap.size W.heap.size (List.replicate n 0) (W.alloc (.cells cs t)) := by
  subst h
  refine ⟨fun j hj => ?_, fun j => by simp [go_sem], by simp, Nat.le_refl _⟩
  rw [List.length_replicate] at hj
  simp [go_sem, hj, List.getD_eq_getElem?_getD]
theorem body_cut' {P : Program} {fn : Func} {Q : Ending → World → Prop} {x : Exit} {a : Act} {w : World} (F : World → Prop) (h : F w) (k : ∀ w', F w' → bodyPost P fn Q x a w') : bodyPost P fn Q x a w := k w h
theorem below_setCells {B : Nat} {w : World} : ∀ {W : World}, Below B w W → ∀ {b : Nat}, B ≤ b → ∀ (o : Nat) (vs : List Value), Below B w (W.setCells b o vs)
  | W, h, b, hb, o, [] => h
  | W, h, b, hb, o, v :: r => below_setCells (W := W.setCell ⟨b, o, none⟩ v) (h.setCell hb _) hb (o + 1) r
theorem results_mid {P : Program} {fn : Func} {p : Tmp} {ty : TypeId} (h : fn.results = #[.cell p ty]) (tmps : Array Value) (w : World) (b o : Nat) (cs : List Value) (d : TypeDesc)
    (hp : tmps.getD p undef = .pointer (some ⟨b, o, none⟩)) (hc : w.rangeAt b o cs)
    (hu : P.underlying ty = some d) (hd : d.isRow = true) (hi : (P.info? ty).map (·.size) = some cs.length) :
    (results fn tmps).run P w = .ok (.agg cs.toArray) w := by
  have hp' : tmps[p]?.getD undef = .pointer (some ⟨b, o, none⟩) := by simpa using hp
  simp [results, h, hp', asAddr, run_loadVar_mid w b o ty cs d hc hu hd hi]
/-- Block b is this row of cells, and may be written. -/
def At (t : TypeId) (W : World) (b : Nat) (L : List Value) : Prop := W.heap[b]? = some (.cells L.toArray t (0, 0))
theorem At.lt {t : TypeId} {W : World} {b : Nat} {L : List Value} (h : At t W b L) : b < W.heap.size := by
  rcases Nat.lt_or_ge b W.heap.size with h' | h'
  · exact h'
  · unfold At at h; rw [Array.getElem?_eq_none h'] at h; cases h
theorem At.cell {t : TypeId} {W : World} {b : Nat} {L : List Value} (h : At t W b L) (j : Nat) : W.cell? ⟨b, j, none⟩ = L[j]? := by
  unfold At at h; simp [World.cell?, h]
theorem At.free {t : TypeId} {W : World} {b : Nat} {L : List Value} (h : At t W b L) (j : Nat) : W.frozen? ⟨b, j, none⟩ = false := by
  unfold At at h; simp [World.frozen?, h]
theorem At.set {t : TypeId} {W : World} {b : Nat} {L : List Value} (h : At t W b L) (j : Nat) (v : Value) : At t (W.setCell ⟨b, j, none⟩ v) b (L.set j v) := by
  have hlt := h.lt
  unfold At at h ⊢
  have hv : W.heap[b] = .cells L.toArray t (0, 0) := by rw [Array.getElem?_eq_getElem hlt] at h; exact Option.some.inj h
  unfold World.setCell
  rw [Array.getElem?_eq_getElem (by simpa using hlt), Array.getElem_modify]
  simp [hv]
theorem At.below {t : TypeId} {W W' : World} {b : Nat} {L : List Value} (h : At t W b L) (hb : Below W.heap.size W W') : At t W' b L := by
  have hlt := h.lt
  unfold At at h ⊢
  rw [hb.block b hlt, h]
theorem At.drew {t : TypeId} {W : World} {b : Nat} {L : List Value} (h : At t W b L) : At t W.drew b L := h
theorem At.drewN {t : TypeId} {W : World} {b : Nat} {L : List Value} (h : At t W b L) (n : Nat) : At t (W.drewN n) b L := h
/-- All but block b is as it was. -/
structure Oth (b : Nat) (w W : World) : Prop where
  os : W.os = w.os
  tape : W.tape = w.tape
  output : W.output = w.output
  size : w.heap.size ≤ W.heap.size
  other : ∀ k, k < w.heap.size → k ≠ b → W.heap[k]? = w.heap[k]?
theorem oth_of {w W : World} (h : Below w.heap.size w W) (b : Nat) : Oth b w W := ⟨h.os, h.tape, h.output, h.size, fun k hk _ => h.block k hk⟩
theorem Oth.refl (b : Nat) (w : World) : Oth b w w := oth_of (Below.refl _ _) b
theorem Oth.trans {b : Nat} {w W V : World} (h : Oth b w W) (k : Oth b W V) : Oth b w V :=
  ⟨k.os.trans h.os, k.tape.trans h.tape, k.output.trans h.output, Nat.le_trans h.size k.size, fun j hj hb => (k.other j (Nat.lt_of_lt_of_le hj h.size) hb).trans (h.other j hj hb)⟩
theorem Oth.drew {b : Nat} {w W : World} (h : Oth b w W) : Oth b w W.drew := ⟨h.os, h.tape, h.output, h.size, h.other⟩
theorem Oth.drewN {b : Nat} {w W : World} (h : Oth b w W) (n : Nat) : Oth b w (W.drewN n) := ⟨h.os, h.tape, h.output, h.size, h.other⟩
theorem Oth.set {b : Nat} {w W : World} (h : Oth b w W) (j : Nat) (v : Value) : Oth b w (W.setCell ⟨b, j, none⟩ v) := by
  refine ⟨h.os, h.tape, h.output, by simpa using h.size, fun k hk hb => ?_⟩
  rw [← h.other k hk hb]
  unfold World.setCell
  simp [Array.getElem?_modify, Ne.symm hb]
theorem Oth.cell {b : Nat} {w W : World} (h : Oth b w W) (p : Addr) (hp : p.block < w.heap.size) (hb : p.block ≠ b) : W.cell? p = w.cell? p := by
  unfold World.cell?; rw [h.other _ hp hb]
theorem Oth.at {t : TypeId} {b c : Nat} {w W : World} {L : List Value} (h : Oth b w W) (ha : At t w c L) (hb : c ≠ b) : At t W c L := by
  have hlt := ha.lt
  unfold At at ha ⊢
  rw [h.other c hlt hb, ha]
theorem Bb.drop {l : List Nat} (h : Bb l) (n : Nat) : Bb (l.drop n) := fun j => by
  have := h (n + j)
  simpa [List.getD_eq_getElem?_getD, List.getElem?_drop] using this
theorem Bb.take {l : List Nat} (h : Bb l) (n : Nat) : Bb (l.take n) := fun j => by
  have := h j
  rw [List.getD_eq_getElem?_getD] at this ⊢
  rw [List.getElem?_take]
  split
  · exact this
  · decide
theorem Bb.nil : Bb [] := fun j => by simp

theorem bv8_length (l : List Nat) : (bv8 l).length = l.length := by simp [bv8]
theorem bv8_one {l : List Nat} {v : Value} (h : v ∈ bv8 l) : v.oneCell' = true := by
  simp only [bv8, List.mem_map] at h
  obtain ⟨d, _, rfl⟩ := h
  rfl
/-- The slice, if it has any bytes, does not lie in block b. -/
def Off (b : Nat) (v : Value) : Prop := ∀ a n c, v = .slice a n c → n ≠ 0 → ∀ x : Addr, a = some x → x.block ≠ b
theorem SK.oth {k : IntKind} {b : Nat} {w W : World} {v : Value} {l : List Nat} (h : SK k w v l) (ho : Oth b w W) (hv : Off b v) : SK k W v l := by
  obtain ⟨a, cap, h1, h2, h4, h3⟩ := h
  refine ⟨a, cap, h1, h2, h4, fun j hj => ?_⟩
  obtain ⟨c, o, e1, e2, e3⟩ := h3 j hj
  exact ⟨c, o, e1, Nat.lt_of_lt_of_le e2 ho.size, (ho.cell ⟨c, o + j, none⟩ e2 (hv _ _ _ h1 (by omega) ⟨c, o, none⟩ e1)).trans e3⟩
theorem SK.off {k : IntKind} {w : World} {v : Value} {l : List Nat} (h : SK k w v l) {b : Nat} (hb : w.heap.size ≤ b) : Off b v := by
  intro a n c e hn x hx
  obtain ⟨a', cap, h1, h2, h4, h3⟩ := h
  rw [h1] at e
  simp only [Value.slice.injEq] at e
  obtain ⟨rfl, rfl, rfl⟩ := e
  obtain ⟨c', o, e1, e2, -⟩ := h3 0 (by omega)
  rw [e1] at hx
  cases hx
  show c' ≠ b
  omega
theorem SK.cap {k : IntKind} {w : World} {a : Option Addr} {n c : Nat} {l : List Nat} (h : SK k w (.slice a n c) l) : n ≤ c ∧ (a = none → c = 0) := by
  obtain ⟨a', c', h1, h2, h4, h3⟩ := h
  simp only [Value.slice.injEq] at h1
  obtain ⟨rfl, rfl, rfl⟩ := h1
  exact ⟨h2, fun e => (h4 e).2⟩
theorem Off.any {b n c n' c' : Nat} {a : Option Addr} (h : Off b (.slice a n c)) (hn : n ≠ 0) : Off b (.slice a n' c') := by
  intro a' m d e _ x hx
  simp only [Value.slice.injEq] at e
  obtain ⟨rfl, -, -⟩ := e
  exact h _ _ _ rfl hn x hx
theorem wpList_build {ops : Array Oper} {rest : List Oper} {o : Oper} {a : Act} {Q : Exit → Act → World → Prop} {w : World} (hgd : o.guard = none) (t : TypeId) (ps : Array (Nat × Operand)) (ho : o.op = .build t ps)
    (v : Value) (qs : Array (Nat × Value)) (hq : ps.map (fun x => (x.1, a.eval x.2)) = qs) (hrun : ∀ w, (Instr.build t qs).run Tryd.prog w = .ok v w) (h : wpList Tryd.prog ops Q rest (a.put o.dst v) w) : wpList Tryd.prog ops Q (o :: rest) a w := by
  refine wpList_plain hgd fun K hK => ?_
  unfold Oper.wp
  simp [execOp, ho, hq, hrun, Result.andThen]
  exact hK _ _ h
theorem Oth.bel {b : Nat} {w W V : World} (h : Below w.heap.size w W) (k : Oth b W V) (hb : w.heap.size ≤ b) : Below w.heap.size w V :=
  ⟨k.os.trans h.os, k.tape.trans h.tape, k.output.trans h.output, Nat.le_trans h.size k.size, fun j hj => (k.other j (Nat.lt_of_lt_of_le hj h.size) (by omega)).trans (h.block j hj)⟩
theorem at_new (T : TypeId) (w : World) (L : List Value) : At T (w.alloc (.cells L.toArray T)) w.heap.size L := by
  unfold At; show (w.heap.push _)[w.heap.size]? = _; simp
theorem At.there {T : TypeId} {W : World} {b : Nat} {L : List Value} (h : At T W b L) {n : Nat} (hn : n ≤ L.length) : W.there b 0 n := by
  intro j hj
  rw [Nat.zero_add, h.cell j, List.getElem?_eq_getElem (by omega)]
  exact ⟨rfl, h.free j⟩
theorem At.sets {T : TypeId} {b : Nat} : ∀ (vs : List Value) {W : World} {L : List Value} (o : Nat), At T W b L → ∃ L', L'.length = L.length ∧ At T (W.setCells b o vs) b L'
  | [], W, L, o, h => ⟨L, rfl, h⟩
  | v :: r, W, L, o, h => by
    obtain ⟨L', h1, h2⟩ := At.sets r (o + 1) (h.set o v)
    exact ⟨L', by rw [h1, List.length_set], h2⟩
theorem At.filled {T : TypeId} {W : World} {b : Nat} {L : List Value} (h : At T W b L) (cs : List Value) (hl : cs.length = L.length) : At T (W.setCells b 0 cs) b cs := by
  obtain ⟨L', h1, h2⟩ := At.sets cs 0 h
  have h3 : (W.setCells b 0 cs).rangeAt b 0 cs := World.rangeAt_setCells_same _ _ _ _ (h.there (by omega))
  have : L' = cs := by
    apply List.ext_getElem?
    intro j
    by_cases hj : j < cs.length
    · have := h3 j cs[j] (List.getElem?_eq_getElem hj)
      rw [Nat.zero_add, h2.cell j] at this
      rw [this, List.getElem?_eq_getElem hj]
    · rw [List.getElem?_eq_none (by omega), List.getElem?_eq_none (by omega)]
  rw [this] at h2
  exact h2
theorem At.range {T : TypeId} {W : World} {b : Nat} {L : List Value} (h : At T W b L) : W.rangeAt b 0 L := by
  intro j v hj
  rw [Nat.zero_add, h.cell j, hj]

/-- The slice leads to 32 bytes, of which these are four. -/
theorem SK.at {k : IntKind} {w : World} {a : Option Addr} {n c : Nat} {l : List Nat} (h : SK k w (.slice a n c) l) (hn : 0 < n) : ∃ b o, a = some ⟨b, o, none⟩ ∧ b < w.heap.size ∧ n ≤ c ∧ ∀ j, j < n → w.cell? ⟨b, o + j, none⟩ = some (.int k (l.getD j 0 : Int)) := by
  obtain ⟨a', c', h1, h2, h4, h3⟩ := h
  simp only [Value.slice.injEq] at h1
  obtain ⟨rfl, rfl, rfl⟩ := h1
  obtain ⟨b, o, rfl, hb, -⟩ := h3 0 hn
  refine ⟨b, o, rfl, hb, h2, fun j hj => ?_⟩
  obtain ⟨b', o', e, _, h⟩ := h3 j hj
  cases e
  exact h
/-- 'append(out, m...)' on the call's own slice, the bytes m lying anywhere, or nowhere. -/
theorem wpList_app8S {ops : Array Oper} {rest : List Oper} {o : Oper} {a : Act} {Q : Exit → Act → World → Prop} {wr : World} (hgd : o.guard = none) (s x : Operand)
    (ho : o.op = .call { callee := .builtin .append, args := #[s, x], argTypes := #[22, 22] })
    (base : Nat) (v : Value) (l m : List Nat) (vx : Value) (hs : a.eval s = v) (hown : Own8 base wr v l)
    (hx : a.eval x = vx) (hS : SK .u8 wr vx m) (hlen : l.length ≤ 1000000) (hlen2 : m.length ≤ 1000000) (hbase : base ≤ wr.heap.size)
    (h : ∀ v' w', Own8 base w' v' (l ++ m) → Below base wr w' → wpList Tryd.prog ops Q rest (a.put o.dst v') w') :
    wpList Tryd.prog ops Q (o :: rest) a wr := by
  obtain ⟨i0, hi, hz0, hz1, hz2⟩ := info_parts info_u8'
  obtain ⟨p, cap, rfl, hcap, hnil, hc⟩ := hS
  cases p with
  | none =>
    obtain ⟨rfl, rfl⟩ := hnil rfl
    refine wpList_append_own_none hgd s x 22 ho base 5 i0 1 Tryd.underlying22 hi v _ _ hs hown hx ?_
    exact h v wr (by rw [List.append_nil]; exact hown) (Below.refl _ _)
  | some p =>
    refine wpList_append_own _ hgd s x 22 ho base 5 i0 (.int .u8 0) 1 1 Tryd.underlying22 hi hz0 hz1 hz2 rfl (by decide) v _ _ hs hown p m.length cap (bv8 m) hx (by simp [bv8]) ?_ ?_ ?_ ?_ ?_ ?_
    · intro j u hj
      by_cases hjl : j < m.length
      · rw [bv8_get m j hjl] at hj
        rw [← hj]
        obtain ⟨b, off, e, -, e3⟩ := hc j hjl
        obtain rfl : p = ⟨b, off, none⟩ := by simpa using e
        rw [Addr.add_mid]; exact e3
      · rw [List.getElem?_eq_none (by rw [bv8_length]; omega)] at hj; cases hj
    · intro u hu; exact bv8_one hu
    · unfold maxLen; omega
    · omega
    · exact hbase
    · intro v' w' h1 h2 _
      refine h v' w' ?_ ?_
      · unfold Own8
        have e : bv8 (l ++ m) = bv8 l ++ bv8 m := by simp [bv8]
        rw [e]
        simpa using h1
      · refine Below.grown (Below.refl _ _) h2 hbase ?_
        intro k hk
        rcases hown.2 with ⟨e, _⟩ | ⟨g, cap, cur, e, hg, _⟩
        · rw [e] at hk; simp [Value.ownBlock] at hk
        · rw [e] at hk; simp [Value.ownBlock] at hk; omega

theorem Own8.oth {base b : Nat} {w W : World} {v : Value} {l : List Nat} (h : Own8 base w v l) (ho : Oth b w W) (hb : b < base) : Own8 base W v l := by
  obtain ⟨h1, h2⟩ := h
  refine ⟨h1, ?_⟩
  rcases h2 with ⟨e, e0⟩ | ⟨g, cap, cur, e, hg, hh, hn, hm, hc, ht⟩
  · exact Or.inl ⟨e, e0⟩
  · have hlt : g < w.heap.size := by
      rcases Nat.lt_or_ge g w.heap.size with h' | h'
      · exact h'
      · rw [Array.getElem?_eq_none h'] at hh; cases hh
    exact Or.inr ⟨g, cap, cur, e, hg, by rw [ho.other g hlt (by omega)]; exact hh, hn, hm, hc, ht⟩
theorem Own8.grown {base : Nat} {w W : World} {v : Value} {l : List Nat} (h : Own8 base w v l) (ho : Below w.heap.size w W) : Own8 base W v l := by
  obtain ⟨h1, h2⟩ := h
  refine ⟨h1, ?_⟩
  rcases h2 with ⟨e, e0⟩ | ⟨g, cap, cur, e, hg, hh, hn, hm, hc, ht⟩
  · exact Or.inl ⟨e, e0⟩
  · have hlt : g < w.heap.size := by
      rcases Nat.lt_or_ge g w.heap.size with h' | h'
      · exact h'
      · rw [Array.getElem?_eq_none h'] at hh; cases hh
    exact Or.inr ⟨g, cap, cur, e, hg, by rw [ho.block g hlt]; exact hh, hn, hm, hc, ht⟩
theorem Own8.off {base b : Nat} {w : World} {v : Value} {l : List Nat} (h : Own8 base w v l) (hb : b < base) : Off b v := by
  obtain ⟨h1, h2⟩ := h
  intro a n c e hn x hx
  rcases h2 with ⟨e', e0⟩ | ⟨g, cap, cur, e', hg, _⟩
  · rw [e'] at e; cases e; cases hx
  · rw [e'] at e
    simp only [Value.slice.injEq] at e
    obtain ⟨rfl, -, -⟩ := e
    cases hx
    show g ≠ b
    omega
/-- The slice leads to these words; where they lie. -/
theorem SK.words {k : IntKind} {w : World} {v : Value} {l : List Nat} {n : Nat} (h : SK k w v l) (hn : l.length = n) (h0 : 0 < n) : ∃ b o c, v = .slice (some ⟨b, o, none⟩) n c ∧ b < w.heap.size ∧ n ≤ c ∧ ∀ j, j < n → w.cell? ⟨b, o + j, none⟩ = some (.int k (l.getD j 0 : Int)) := by
  obtain ⟨a, c, e⟩ := h.shape
  subst e
  rw [hn] at h ⊢
  obtain ⟨b, o, rfl, hb, hc, hcell⟩ := h.at h0
  exact ⟨b, o, c, rfl, hb, hc, hcell⟩
theorem SK.cells {k : IntKind} {w : World} {b o c n : Nat} {l : List Nat} (h : SK k w (.slice (some ⟨b, o, none⟩) n c) l) (hn : l.length = n) (h0 : 0 < n) : ∀ j, j < n → w.cell? ⟨b, o + j, none⟩ = some (.int k (l.getD j 0 : Int)) := by
  obtain ⟨b', o', e, _, _, hc⟩ := h.at h0
  cases e
  exact hc
theorem SK.blk {k : IntKind} {w : World} {b o c n : Nat} {l : List Nat} (h : SK k w (.slice (some ⟨b, o, none⟩) n c) l) (hn : l.length = n) (h0 : 0 < n) : b < w.heap.size := by
  obtain ⟨b', o', e, hb, _⟩ := h.at h0
  cases e
  exact hb

/-- No number from 2 on, below i, divides p. -/
def np (p : Nat) : Nat → Bool
  | 0 => true
  | i + 1 => if i < 2 then true else np p i && p % i != 0
/-- How many primes there are from 3 up to k + 2. -/
def ct : Nat → Nat
  | 0 => 0
  | k + 1 => ct k + if np (k + 3) (k + 3) then 1 else 0
end Go.Proofs.YtedhfimjcpbcpaaDoor

/-
  A region that draws its order and whose last operation stores what the others read: a condition on the world holds behind every operation but that one. Conditions: as the theorems say.
-/
namespace Go.Proofs.YtedhfimjcpbcpaaDoor
open Go.RowKit
set_option linter.unusedVariables false

section
variable {P : Program} {ops : Array Oper} {Q : Exit → Act → World → Prop} {md : Region.Mode} {S : World → Prop} {L : Nat}

/-- In whatever order: S holds behind each operation but number L. -/
def wpLate (P : Program) (md : Region.Mode) (ops : Array Oper) (Q : Exit → Act → World → Prop) (S : World → Prop) (L : Nat) : Nat → Array Bool → Act → World → Prop
  | 0, listed, a, w => Region.ready md ops listed = [] ∧ Q .normal a w
  | fuel + 1, listed, a, w =>
    (Region.ready md ops listed = [] → Q .normal a w) ∧
    ∀ i ∈ Region.ready md ops listed, wpOp P ops Q i (fun a' w' => (i = L ∨ S w') ∧ wpLate P md ops Q S L fuel (listed.setIfInBounds i true) a' w') a w
theorem late_any : ∀ (fuel : Nat) (listed : Array Bool) (a : Act) (w : World), wpLate P md ops Q S L fuel listed a w → wpAny P md ops Q fuel listed a w
  | 0, _, _, _, h => h
  | fuel + 1, _, _, _, h => ⟨h.1, fun i hi => wpOp_mono (fun a' w' k => late_any fuel _ a' w' k.2) (h.2 i hi)⟩
/-- Operation number L waits for number i. -/
def lateB (md : Region.Mode) (ops : Array Oper) (L i : Nat) : Bool :=
  match ops[L]? with
  | some o => o.after.any fun e => Region.binds md e && e.on == i
  | none => false
theorem late_not {i : Nat} {listed : Array Bool} (hw : lateB md ops L i = true) (hi : i ∈ Region.ready md ops listed) : L ∉ Region.ready md ops listed := by
  intro hL
  obtain ⟨-, o, ho, hall⟩ := mem_ready.1 hL
  obtain ⟨hu, oi, hoi, -⟩ := mem_ready.1 hi
  unfold lateB at hw
  rw [ho] at hw
  simp only [Array.any_eq_true'] at hw
  obtain ⟨e, he, hb⟩ := hw
  simp only [Bool.and_eq_true, beq_iff_eq] at hb
  have h1 := hall e he hb.1
  rw [hb.2] at h1
  rcases Nat.lt_or_ge i listed.size with h | h
  · simp [h] at hu h1; rw [hu] at h1; cases h1
  · simp [Array.getElem?_eq_none h] at h1
theorem late_first {i : Nat} {oi : Oper} {v : Value} (hi : ops[i]? = some oi) (hw : lateB md ops L i = true) (hsel : ∀ (j : Nat) (o : Oper) cs b, ops[j]? = some o → o.op ≠ .select cs b)
    (hQ : ∀ c a w, Q (.panic c) (a.put oi.dst v) w → Q (.panic c) a w) :
    ∀ (fuel : Nat) (listed : Array Bool) (a : Act) (w : World),
      (∀ j oj, ops[j]? = some oj → j ≠ i → listed.getD j true = false → (∀ e ∈ oj.after, Region.binds md e = true → e.on ≠ i) → oi.apart ops oj = true) →
      i ∈ Region.ready md ops listed → YieldsIf P ops S oi v a → S w →
      wpLate P md ops Q S L fuel (listed.setIfInBounds i true) (a.put oi.dst v) w → wpLate P md ops Q S L (fuel + 1) listed a w
  | 0, listed, a, w, hfree, hr, hy, hS, H => by
    refine ⟨fun h => (by rw [h] at hr; cases hr), fun j hj => ?_⟩
    by_cases e : j = i
    · subst e; exact hy.wpOp hi hS ⟨Or.inr hS, H⟩
    · have k := ready_mono hj e
      rw [H.1] at k
      cases k
  | fuel + 1, listed, a, w, hfree, hr, hy, hS, H => by
    refine ⟨fun h => (by rw [h] at hr; cases hr), fun j hj => ?_⟩
    by_cases e : j = i
    · subst e; exact hy.wpOp hi hS ⟨Or.inr hS, H⟩
    have hjL : j ≠ L := fun q => late_not hw hr (q ▸ hj)
    have k1 := H.2 j (ready_mono hj e)
    obtain ⟨hju, oj, hoj, hall⟩ := mem_ready.1 hj
    have hiu := (mem_ready.1 hr).1
    have hno : ∀ x ∈ oj.after, Region.binds md x = true → x.on ≠ i := by
      intro x hx hb q
      have m := hall x hx hb
      rw [q] at m
      rcases Nat.lt_or_ge i listed.size with h | h
      · simp [h] at hiu m; rw [hiu] at m; cases m
      · simp [Array.getElem?_eq_none h] at m
    have k2 := wpOp_putIf hoj (hfree j oj hoj e hju hno) (fun cs b => hsel i oi cs b hi) (fun cs b => hsel j oj cs b hoj) hQ hy k1
    refine wpOp_mono (fun a' w' k3 => ?_) k2
    obtain ⟨k4, k5, k6⟩ := k3
    have hS' : S w' := k5.resolve_left hjL
    refine ⟨Or.inr hS', late_first hi hw hsel hQ fuel (listed.setIfInBounds j true) a' w' (fun m om hm hmi hun hno' => ?_) (ready_mono hr (Ne.symm e)) k4 hS' ?_⟩
    · refine hfree m om hm hmi ?_ hno'
      by_cases q : j = m
      · subst q; exact hju
      · rw [getD_set_ne true q] at hun; exact hun
    · rw [Array.setIfInBounds_comm _ _ e]
      exact k6

/-- Take number i first: it yields v in every world that meets S, and number L waits for it. -/
theorem l_take {l : List Oper} {oi : Oper} (i : Nat) {v : Value} {fuel : Nat} {listed : Array Bool} {a : Act} {w : World} (hi : l[i]? = some oi) (hL : lateB md l.toArray L i = true)
    (hs : Region.noSelect l.toArray = true) (hf : Region.free md l.toArray listed i = true) (hr : (Region.ready md l.toArray listed).contains i = true)
    (hQ : ∀ c a w, Q (.panic c) (a.put oi.dst v) w → Q (.panic c) a w) (hw : Region.wanted oi (yielded l.toArray a.tmps) = true)
    (hy : ∀ w, S w → (execOp a.eval oi).run P w = .ok (.value v) w) (hS : S w)
    (h : wpLate P md l.toArray Q S L fuel (listed.setIfInBounds i true) (a.put oi.dst v) w) : wpLate P md l.toArray Q S L (fuel + 1) listed a w :=
  late_first (oi := oi) (by simpa using hi) hL (Region.noSelect_spec hs) hQ fuel listed a w (Region.free_spec (by simpa using hi) hf) (by simpa using hr) (Or.inl ⟨hw, hy⟩) hS h
/-- Number i alone may come up. -/
theorem l_call {l : List Oper} {oi : Oper} (i : Nat) {fuel : Nat} {listed : Array Bool} {a : Act} {w : World} (hi : l[i]? = some oi)
    (hr : Region.ready md l.toArray listed = [i]) (hw : Region.wanted oi (yielded l.toArray a.tmps) = true)
    (h : ∀ K' : Act → World → Prop, Shut (∀ a w, (i = L ∨ S w) → wpLate P md l.toArray Q S L fuel (listed.setIfInBounds i true) a w → K' a w) → Oper.wp P oi a w K' Q) :
    wpLate P md l.toArray Q S L (fuel + 1) listed a w := by
  refine ⟨fun h0 => (by rw [hr] at h0; cases h0), fun j hj => ?_⟩
  rw [hr] at hj
  obtain rfl : j = i := by simpa using hj
  exact wpOp_step (by simpa using hi) (fun K' hK => by
    rw [if_pos hw]
    exact h K' (fun a w h1 h2 => hK a w ⟨h1, h2⟩))
theorem l_done {l : List Oper} {listed : Array Bool} {a : Act} {w : World} (hr : Region.ready md l.toArray listed = []) (h : Q .normal a w) : ∀ fuel, wpLate P md l.toArray Q S L fuel listed a w
  | 0 => ⟨hr, h⟩
  | _ + 1 => ⟨fun _ => h, by rw [hr]; simp⟩
theorem wp_region_late {id : Nat} {a : Act} {w : World} (hm : P.follows .mixedOrders = true) (hS : S w.drew)
    (h : S w.drew → wpLate P .any ops Q S L ops.size (Array.replicate ops.size false) a w.drew) : (Code.region id ops true).wp P Q a w :=
  wp_region_any hm (late_any _ _ _ _ (h hS))
end

end Go.Proofs.YtedhfimjcpbcpaaDoor

/-
  A region that draws its order, walked by hand: an operation that yields its value wherever a condition on the world holds is taken first, one whose guard says no is skipped, a call that alone may come up is made. Conditions: as the theorems say.
-/
namespace Go.Proofs.YtedhfimjcpbcpaaDoor
open Go.RowKit
set_option linter.unusedVariables false

section
variable {P : Program} {l : List Oper} {Q : Exit → Act → World → Prop} {md : Region.Mode} {S : World → Prop}

theorem h_take {oi : Oper} (i : Nat) {v : Value} {fuel : Nat} {listed : Array Bool} {a : Act} {w : World} (hi : l[i]? = some oi)
    (hs : Region.noSelect l.toArray = true) (hf : Region.free md l.toArray listed i = true) (hr : (Region.ready md l.toArray listed).contains i = true)
    (hQ : ∀ c a w, Q (.panic c) (a.put oi.dst v) w → Q (.panic c) a w) (hw : Region.wanted oi (yielded l.toArray a.tmps) = true)
    (hy : ∀ w, S w → (execOp a.eval oi).run P w = .ok (.value v) w) (hS : S w)
    (h : wpAnyH P md l.toArray Q S fuel (listed.setIfInBounds i true) (a.put oi.dst v) w) : wpAnyH P md l.toArray Q S (fuel + 1) listed a w :=
  wpAnyH_take (oi := oi) (by simpa using hi) hs hf hr hQ (Or.inl ⟨hw, hy⟩) hS h

theorem h_skip {oi : Oper} (i : Nat) {fuel : Nat} {listed : Array Bool} {a : Act} {w : World} (hi : l[i]? = some oi)
    (hs : Region.noSelect l.toArray = true) (hf : Region.free md l.toArray listed i = true) (hr : (Region.ready md l.toArray listed).contains i = true)
    (hQ : ∀ c a w, Q (.panic c) (a.put oi.dst undef) w → Q (.panic c) a w) (hw : Region.wanted oi (yielded l.toArray a.tmps) = false) (hS : S w)
    (h : wpAnyH P md l.toArray Q S fuel (listed.setIfInBounds i true) (a.put oi.dst undef) w) : wpAnyH P md l.toArray Q S (fuel + 1) listed a w :=
  wpAnyH_take (oi := oi) (by simpa using hi) hs hf hr hQ (Or.inr ⟨hw, rfl⟩) hS h

theorem h_call {oi : Oper} (i : Nat) {fuel : Nat} {listed : Array Bool} {a : Act} {w : World} (hi : l[i]? = some oi)
    (hr : Region.ready md l.toArray listed = [i]) (hw : Region.wanted oi (yielded l.toArray a.tmps) = true)
    (h : ∀ K' : Act → World → Prop, Shut (∀ a w, S w → (S w → wpAnyH P md l.toArray Q S fuel (listed.setIfInBounds i true) a w) → K' a w) → Oper.wp P oi a w K' Q) :
    wpAnyH P md l.toArray Q S (fuel + 1) listed a w :=
  wpAnyH_ready hr (by simp) (AllReadyH.cons (o := oi) (by simpa using hi) (fun K' hK => by rw [if_pos hw]; exact h K' hK) AllReadyH.nil)
end

end Go.Proofs.YtedhfimjcpbcpaaDoor

/-
  The contract of the document's own Same, for the 32 bytes of one number: an element's bytes and the document's. Conditions: as the theorem says.
-/
namespace Go.Proofs.YtedhfimjcpbcpaaDoor
open Go.RowKit
set_option linter.unusedVariables false

theorem leB_byte (n j : Nat) (h : j < 32) : ((leB n 32).getD j 0 : Int) = byteAt n j := by
  rw [leB_get n 32 j h]; rfl
end Go.Proofs.YtedhfimjcpbcpaaDoor

/-
  The program's points of layer 10 as four elements of layer 4; their numbers in the field; its package's variables in memory. Conditions: as each theorem says.
-/
namespace Go.Proofs.YtedhfimjcpbcpaaDoor.Ed
open Go.RowKit
set_option linter.unusedVariables false
set_option linter.unusedSimpArgs false

/-- An element's number in the field. -/
def kx (x : L5) : K := k x.nn
theorem kx_mul (x y z : L5) (h : Hid (z.num % (P25 : Int) = x.num * y.num % (P25 : Int))) : kx z = kx x * kx y := by
  unfold kx
  rw [nn_mul x y z h.out, k_mod, k_mul]
theorem kx_add (x y z : L5) (h : Hid (z.num % (P25 : Int) = (x.num + y.num) % (P25 : Int))) : kx z = kx x + kx y := by
  unfold kx
  rw [nn_add x y z h.out, k_mod, k_add]
theorem kx_sub (x y z : L5) (h : Hid (z.num % (P25 : Int) = (x.num - y.num) % (P25 : Int))) : kx z = kx x - kx y := by
  unfold kx
  have hl := y.nn_lt
  rw [nn_sub x y z h.out, k_sub _ _ (by omega)]
theorem kx_sq (x z : L5) (h : Hid (z.num % (P25 : Int) = x.num ^ 2 ^ 1 % (P25 : Int))) : kx z = kx x * kx x := by
  refine kx_mul x x z ?_
  have e := h.out
  rw [show (2 : Nat) ^ 1 = 1 + 1 from rfl, Int.pow_succ, Int.pow_succ, Int.pow_zero, Int.one_mul] at e
  exact e
theorem kx_small (n : Nat) (hn : n < P25) : kx ⟨(n : Int), 0, 0, 0, 0⟩ = k n := by
  unfold kx
  rw [nn_small n hn]
theorem kx_nn (x : L5) : (kx x).val = x.nn := Nat.mod_eq_of_lt x.nn_lt
theorem kx_eq (x y : L5) : kx x = kx y ↔ x.nn = y.nn := by
  rw [Fin.ext_iff, kx_nn, kx_nn]
/-- A point of the program: four elements. -/
structure P4 where
  x : L5
  y : L5
  z : L5
  t : L5
/-- The elements are tame, and stand for the point. -/
structure P4.Is (c : P4) (p : Pt) : Prop where
  x : c.x.Tm
  y : c.y.Tm
  z : c.z.Tm
  t : c.t.Tm
  rx : Rx (kx c.x) (kx c.y) (kx c.z) (kx c.t) p
def d_ : L5 := ⟨929955233495203, 466365720129213, 1662059464998953, 2033849074728123, 1442794654840575⟩
theorem d_tm : d_.Tm := by unfold L5.Tm Tame d_; decide
def twiceD_ : L5 := ⟨1859910466990425, 932731440258426, 1072319116312658, 1815898335770999, 633789495995903⟩
theorem twiceD_tm : twiceD_.Tm := by unfold L5.Tm Tame twiceD_; decide
def baseX_ : L5 := ⟨1738742601995546, 1146398526822698, 2070867633025821, 562264141797630, 587772402128613⟩
theorem baseX_tm : baseX_.Tm := by unfold L5.Tm Tame baseX_; decide
def baseY_ : L5 := ⟨1801439850948184, 1351079888211148, 450359962737049, 900719925474099, 1801439850948198⟩
theorem baseY_tm : baseY_.Tm := by unfold L5.Tm Tame baseY_; decide
theorem nn_known (x : L5) (n : Nat) (h : x.num = (n : Int)) (hn : n < P25) : kx x = k n := by
  unfold kx
  rw [nn_low h hn]
theorem twiceD_k : kx twiceD_ = dd + dd := by
  rw [nn_known twiceD_ (D25 + D25 - P25) (by decide +kernel) (by decide +kernel)]
  unfold dd
  rw [← k_add, k_eq]
  decide +kernel
theorem baseX_k : kx baseX_ = k bX := nn_known baseX_ bX (by decide +kernel) bX_lt
theorem baseY_k : kx baseY_ = k bY := nn_known baseY_ bY (by decide +kernel) bY_lt
/-- The variable d, in memory. -/
structure Gd (W : World) : Prop where
  lt : 3 < W.heap.size
  a0 : W.cell? ⟨3, 0, none⟩ = some (.int .u64 929955233495203)
  a1 : W.cell? ⟨3, 1, none⟩ = some (.int .u64 466365720129213)
  a2 : W.cell? ⟨3, 2, none⟩ = some (.int .u64 1662059464998953)
  a3 : W.cell? ⟨3, 3, none⟩ = some (.int .u64 2033849074728123)
  a4 : W.cell? ⟨3, 4, none⟩ = some (.int .u64 1442794654840575)
theorem Gd.below {W W' : World} (h : Gd W) {n : Nat} (hb : Below n W W') (hn : 3 < n) : Gd W' :=
  ⟨Nat.lt_of_lt_of_le h.lt hb.size, (hb.cell (p := ⟨3, 0, none⟩) hn).trans h.a0, (hb.cell (p := ⟨3, 1, none⟩) hn).trans h.a1, (hb.cell (p := ⟨3, 2, none⟩) hn).trans h.a2, (hb.cell (p := ⟨3, 3, none⟩) hn).trans h.a3, (hb.cell (p := ⟨3, 4, none⟩) hn).trans h.a4⟩
theorem Gd.grown {W W' : World} (h : Gd W) (hb : Below W.heap.size W W') : Gd W' := h.below hb h.lt
/-- The variable twiceD, in memory. -/
structure GtwiceD (W : World) : Prop where
  lt : 2 < W.heap.size
  a0 : W.cell? ⟨2, 0, none⟩ = some (.int .u64 1859910466990425)
  a1 : W.cell? ⟨2, 1, none⟩ = some (.int .u64 932731440258426)
  a2 : W.cell? ⟨2, 2, none⟩ = some (.int .u64 1072319116312658)
  a3 : W.cell? ⟨2, 3, none⟩ = some (.int .u64 1815898335770999)
  a4 : W.cell? ⟨2, 4, none⟩ = some (.int .u64 633789495995903)
theorem GtwiceD.below {W W' : World} (h : GtwiceD W) {n : Nat} (hb : Below n W W') (hn : 2 < n) : GtwiceD W' :=
  ⟨Nat.lt_of_lt_of_le h.lt hb.size, (hb.cell (p := ⟨2, 0, none⟩) hn).trans h.a0, (hb.cell (p := ⟨2, 1, none⟩) hn).trans h.a1, (hb.cell (p := ⟨2, 2, none⟩) hn).trans h.a2, (hb.cell (p := ⟨2, 3, none⟩) hn).trans h.a3, (hb.cell (p := ⟨2, 4, none⟩) hn).trans h.a4⟩
theorem GtwiceD.grown {W W' : World} (h : GtwiceD W) (hb : Below W.heap.size W W') : GtwiceD W' := h.below hb h.lt
/-- The variable baseX, in memory. -/
structure GbaseX (W : World) : Prop where
  lt : 0 < W.heap.size
  a0 : W.cell? ⟨0, 0, none⟩ = some (.int .u64 1738742601995546)
  a1 : W.cell? ⟨0, 1, none⟩ = some (.int .u64 1146398526822698)
  a2 : W.cell? ⟨0, 2, none⟩ = some (.int .u64 2070867633025821)
  a3 : W.cell? ⟨0, 3, none⟩ = some (.int .u64 562264141797630)
  a4 : W.cell? ⟨0, 4, none⟩ = some (.int .u64 587772402128613)
theorem GbaseX.below {W W' : World} (h : GbaseX W) {n : Nat} (hb : Below n W W') (hn : 0 < n) : GbaseX W' :=
  ⟨Nat.lt_of_lt_of_le h.lt hb.size, (hb.cell (p := ⟨0, 0, none⟩) hn).trans h.a0, (hb.cell (p := ⟨0, 1, none⟩) hn).trans h.a1, (hb.cell (p := ⟨0, 2, none⟩) hn).trans h.a2, (hb.cell (p := ⟨0, 3, none⟩) hn).trans h.a3, (hb.cell (p := ⟨0, 4, none⟩) hn).trans h.a4⟩
theorem GbaseX.grown {W W' : World} (h : GbaseX W) (hb : Below W.heap.size W W') : GbaseX W' := h.below hb h.lt
/-- The variable baseY, in memory. -/
structure GbaseY (W : World) : Prop where
  lt : 1 < W.heap.size
  a0 : W.cell? ⟨1, 0, none⟩ = some (.int .u64 1801439850948184)
  a1 : W.cell? ⟨1, 1, none⟩ = some (.int .u64 1351079888211148)
  a2 : W.cell? ⟨1, 2, none⟩ = some (.int .u64 450359962737049)
  a3 : W.cell? ⟨1, 3, none⟩ = some (.int .u64 900719925474099)
  a4 : W.cell? ⟨1, 4, none⟩ = some (.int .u64 1801439850948198)
theorem GbaseY.below {W W' : World} (h : GbaseY W) {n : Nat} (hb : Below n W W') (hn : 1 < n) : GbaseY W' :=
  ⟨Nat.lt_of_lt_of_le h.lt hb.size, (hb.cell (p := ⟨1, 0, none⟩) hn).trans h.a0, (hb.cell (p := ⟨1, 1, none⟩) hn).trans h.a1, (hb.cell (p := ⟨1, 2, none⟩) hn).trans h.a2, (hb.cell (p := ⟨1, 3, none⟩) hn).trans h.a3, (hb.cell (p := ⟨1, 4, none⟩) hn).trans h.a4⟩
theorem GbaseY.grown {W W' : World} (h : GbaseY W) (hb : Below W.heap.size W W') : GbaseY W' := h.below hb h.lt
theorem Gd.range {W : World} (h : Gd W) : W.rangeAt 3 0 [.int .u64 929955233495203, .int .u64 466365720129213, .int .u64 1662059464998953, .int .u64 2033849074728123, .int .u64 1442794654840575] := by
  intro j x hj
  rw [Nat.zero_add]
  match j, hj with
  | 0, hj => exact h.a0.trans (by simpa using hj)
  | 1, hj => exact h.a1.trans (by simpa using hj)
  | 2, hj => exact h.a2.trans (by simpa using hj)
  | 3, hj => exact h.a3.trans (by simpa using hj)
  | 4, hj => exact h.a4.trans (by simpa using hj)
  | j + 5, hj => simp at hj
theorem GtwiceD.range {W : World} (h : GtwiceD W) : W.rangeAt 2 0 [.int .u64 1859910466990425, .int .u64 932731440258426, .int .u64 1072319116312658, .int .u64 1815898335770999, .int .u64 633789495995903] := by
  intro j x hj
  rw [Nat.zero_add]
  match j, hj with
  | 0, hj => exact h.a0.trans (by simpa using hj)
  | 1, hj => exact h.a1.trans (by simpa using hj)
  | 2, hj => exact h.a2.trans (by simpa using hj)
  | 3, hj => exact h.a3.trans (by simpa using hj)
  | 4, hj => exact h.a4.trans (by simpa using hj)
  | j + 5, hj => simp at hj
theorem GbaseX.range {W : World} (h : GbaseX W) : W.rangeAt 0 0 [.int .u64 1738742601995546, .int .u64 1146398526822698, .int .u64 2070867633025821, .int .u64 562264141797630, .int .u64 587772402128613] := by
  intro j x hj
  rw [Nat.zero_add]
  match j, hj with
  | 0, hj => exact h.a0.trans (by simpa using hj)
  | 1, hj => exact h.a1.trans (by simpa using hj)
  | 2, hj => exact h.a2.trans (by simpa using hj)
  | 3, hj => exact h.a3.trans (by simpa using hj)
  | 4, hj => exact h.a4.trans (by simpa using hj)
  | j + 5, hj => simp at hj
theorem GbaseY.range {W : World} (h : GbaseY W) : W.rangeAt 1 0 [.int .u64 1801439850948184, .int .u64 1351079888211148, .int .u64 450359962737049, .int .u64 900719925474099, .int .u64 1801439850948198] := by
  intro j x hj
  rw [Nat.zero_add]
  match j, hj with
  | 0, hj => exact h.a0.trans (by simpa using hj)
  | 1, hj => exact h.a1.trans (by simpa using hj)
  | 2, hj => exact h.a2.trans (by simpa using hj)
  | 3, hj => exact h.a3.trans (by simpa using hj)
  | 4, hj => exact h.a4.trans (by simpa using hj)
  | j + 5, hj => simp at hj
end Go.Proofs.YtedhfimjcpbcpaaDoor.Ed

/-
  Whole structs in memory: loaded, and stored; regions that draw their order. Conditions: as each theorem says.
-/
namespace Go.Proofs.YtedhfimjcpbcpaaDoor.Ed
open Go.RowKit
set_option linter.unusedVariables false
set_option linter.unusedSimpArgs false

theorem hid {P : Prop} (h : P) : Hid P := h
theorem at_new2 (T : TypeId) (w : World) (L : List Value) (b : Nat) (hb : b = w.heap.size) : At T (w.alloc (.cells L.toArray T)) b L := by
  subst hb
  exact at_new T w L
theorem at_alloc {T : TypeId} {W : World} {b : Nat} {L : List Value} (h : At T W b L) (o : Obj) : At T (W.alloc o) b L := h.below ((Below.refl _ _).alloc (Nat.le_refl _) _)
theorem store_whole {op : Oper} {a : Act} {w : World} {K : Act → World → Prop} {Q : Exit → Act → World → Prop} (ty : TypeId) (x y : Operand) (ho : op.op = .store ty x y)
    (b : Nat) (L L0 : List Value) (hx : a.eval x = .pointer (some ⟨b, 0, none⟩)) (hy : a.eval y = .agg L.toArray) (hA : At ty w b L0) (hl : L.length = L0.length)
    (hi : (Tryd.prog.info? ty).map (·.size) = some L.toArray.size) (h1 : L.toArray.all (·.oneCell') = true) (B : Nat) (w0 : World) (hG : Below B w0 w) (hB : B ≤ b)
    (h : ∀ F, At ty F b L → Below B w0 F → K (a.put op.dst undef) F) : op.wp Tryd.prog a w K Q :=
  wp_store_mid ty x y ho b 0 L.toArray hx hy (hA.there (by simp [hl])) hi h1 (h _ (hA.filled L hl) (below_setCells hG hB 0 L))
theorem list_store_whole {ops : Array Oper} {rest : List Oper} {op : Oper} {a : Act} {w : World} {Q : Exit → Act → World → Prop} (hgd : op.guard = none) (ty : TypeId) (x y : Operand) (ho : op.op = .store ty x y)
    (b : Nat) (L L0 : List Value) (hx : a.eval x = .pointer (some ⟨b, 0, none⟩)) (hy : a.eval y = .agg L.toArray) (hA : At ty w b L0) (hl : L.length = L0.length)
    (hi : (Tryd.prog.info? ty).map (·.size) = some L.toArray.size) (h1 : L.toArray.all (·.oneCell') = true) (B : Nat) (w0 : World) (hG : Below B w0 w) (hB : B ≤ b)
    (h : ∀ F, At ty F b L → Below B w0 F → wpList Tryd.prog ops Q rest (a.put op.dst undef) F) : wpList Tryd.prog ops Q (op :: rest) a w :=
  wpList_plain hgd fun _ hK => store_whole ty x y ho b L L0 hx hy hA hl hi h1 B w0 hG hB (fun F h1 h2 => hK _ _ (h F h1 h2))
theorem at_mid {T : TypeId} {W : World} {b : Nat} {L : List Value} (h : At T W b L) (o : Nat) (cs : List Value) (hs : (L.drop o).take cs.length = cs) : W.rangeAt b o cs := by
  intro j v hj
  have hl : j < cs.length := (List.getElem?_eq_some_iff.1 hj).1
  have h2 : ((L.drop o).take cs.length)[j]? = some v := by rw [hs]; exact hj
  rw [List.getElem?_take, if_pos hl, List.getElem?_drop] at h2
  rw [h.cell]
  exact h2
theorem load_run {op : Oper} {a : Act} {w : World} (ty : TypeId) (x : Operand) (ho : op.op = .load ty x) (b o : Nat) (hx : a.eval x = .pointer (some ⟨b, o, none⟩)) (cs : List Value) (d : TypeDesc) (hc : w.rangeAt b o cs)
    (hu : Tryd.prog.underlying ty = some d) (hd : d.isRow = true) (hi : (Tryd.prog.info? ty).map (·.size) = some cs.length) : (execOp a.eval op).run Tryd.prog w = .ok (.value (.agg cs.toArray)) w := by
  unfold execOp
  simp only [ho, hx, Instr.loadAt, Instr.sureAddr, Sem.run_bind, Sem.run_pure, Result.andThen_ok, run_loadVar_mid w b o ty cs d hc hu hd hi]
theorem quiet_load {op : Oper} {a : Act} {w : World} {C : World → Prop} (ty : TypeId) (x : Operand) (ho : op.op = .load ty x) (b o : Nat) (hx : a.eval x = .pointer (some ⟨b, o, none⟩)) (cs : List Value) (d : TypeDesc) (hc : w.rangeAt b o cs)
    (hu : Tryd.prog.underlying ty = some d) (hd : d.isRow = true) (hi : (Tryd.prog.info? ty).map (·.size) = some cs.length) : op.quietAt Tryd.prog a C w (.agg cs.toArray) := by
  unfold Oper.quietAt
  rw [load_run ty x ho b o hx cs d hc hu hd hi]
  exact ⟨rfl, rfl⟩
theorem below_turned {w w' : World} {g : Nat} {obj : Obj} (h : Oth g w w') (hs : w'.heap.size = w.heap.size) (ht : w'.heap[g]? = some obj) (hk : ∀ k, w.heap.size ≤ k → k ≠ g → w'.heap[k]? = w.heap[k]?) : Turned w w' g obj :=
  ⟨h.os, h.tape, h.output, hs, fun k hk' => by
    rcases Nat.lt_or_ge k w.heap.size with q | q
    · exact h.other k q hk'
    · exact hk k q hk', ht⟩
theorem Oth.sets {b : Nat} {w : World} : ∀ (vs : List Value) (o : Nat) {W : World}, Oth b w W → Oth b w (W.setCells b o vs)
  | [], o, W, h => h
  | v :: r, o, W, h => Oth.sets r (o + 1) (h.set o v)
theorem size_sets {b : Nat} : ∀ (vs : List Value) (o : Nat) (W : World), (W.setCells b o vs).heap.size = W.heap.size
  | [], o, W => rfl
  | v :: r, o, W => (size_sets r (o + 1) _).trans (by simp)
theorem stores_whole {op : Oper} {a : Act} (ty : TypeId) (x y : Operand) (ho : op.op = .store ty x y) (g : Nat) (L L0 : List Value) (hx : a.eval x = .pointer (some ⟨g, 0, none⟩)) (hy : a.eval y = .agg L.toArray) (hl : L.length = L0.length)
    (hi : (Tryd.prog.info? ty).map (·.size) = some L.toArray.size) (h1 : L.toArray.all (·.oneCell') = true) : Stores Tryd.prog op a g (.cells L0.toArray ty) (.cells L.toArray ty) := by
  intro w hw
  have hA : At ty w g L0 := hw
  refine ⟨w.setCells g 0 L, ?_, ?_⟩
  · unfold execOp
    simp only [ho, hx, hy, Instr.storeAt, Instr.sureAddr, Sem.run_bind, Sem.run_pure, Result.andThen_ok, run_storeVar_mid w g 0 ty L.toArray (hA.there (by simp [hl])) hi h1]
  · refine below_turned (Oth.sets L 0 (Oth.refl g w)) (size_sets L 0 w) (hA.filled L hl) (fun k hk hne => ?_)
    rw [Array.getElem?_eq_none hk, Array.getElem?_eq_none (by rw [size_sets]; exact hk)]
theorem store_oth {op : Oper} {a : Act} {w : World} {K : Act → World → Prop} {Q : Exit → Act → World → Prop} (ty : TypeId) (x y : Operand) (ho : op.op = .store ty x y)
    (b : Nat) (L L0 : List Value) (hx : a.eval x = .pointer (some ⟨b, 0, none⟩)) (hy : a.eval y = .agg L.toArray) (hA : At ty w b L0) (hl : L.length = L0.length)
    (hi : (Tryd.prog.info? ty).map (·.size) = some L.toArray.size) (h1 : L.toArray.all (·.oneCell') = true)
    (h : ∀ F, At ty F b L → Oth b w F → K (a.put op.dst undef) F) : op.wp Tryd.prog a w K Q :=
  wp_store_mid ty x y ho b 0 L.toArray hx hy (hA.there (by simp [hl])) hi h1 (h _ (hA.filled L hl) (Oth.sets L 0 (Oth.refl b w)))
theorem list_store_oth {ops : Array Oper} {rest : List Oper} {op : Oper} {a : Act} {w : World} {Q : Exit → Act → World → Prop} (hgd : op.guard = none) (ty : TypeId) (x y : Operand) (ho : op.op = .store ty x y)
    (b : Nat) (L L0 : List Value) (hx : a.eval x = .pointer (some ⟨b, 0, none⟩)) (hy : a.eval y = .agg L.toArray) (hA : At ty w b L0) (hl : L.length = L0.length)
    (hi : (Tryd.prog.info? ty).map (·.size) = some L.toArray.size) (h1 : L.toArray.all (·.oneCell') = true)
    (h : ∀ F, At ty F b L → Oth b w F → wpList Tryd.prog ops Q rest (a.put op.dst undef) F) : wpList Tryd.prog ops Q (op :: rest) a w :=
  wpList_plain hgd fun _ hK => store_oth ty x y ho b L L0 hx hy hA hl hi h1 (fun F h1 h2 => hK _ _ (h F h1 h2))
theorem list_store_new {ops : Array Oper} {rest : List Oper} {op : Oper} {a : Act} {Q : Exit → Act → World → Prop} (hgd : op.guard = none) (ty : TypeId) (x y : Operand) (ho : op.op = .store ty x y)
    (w : World) (L L0 : List Value) (hx : a.eval x = .pointer (some ⟨w.heap.size, 0, none⟩)) (hy : a.eval y = .agg L.toArray) (hl : L.length = L0.length)
    (hi : (Tryd.prog.info? ty).map (·.size) = some L.toArray.size) (h1 : L.toArray.all (·.oneCell') = true)
    (h : ∀ F, At ty F w.heap.size L → Below w.heap.size w F → wpList Tryd.prog ops Q rest (a.put op.dst undef) F) : wpList Tryd.prog ops Q (op :: rest) a (w.alloc (.cells L0.toArray ty)) :=
  list_store_oth hgd ty x y ho w.heap.size L L0 hx hy (at_new ty w L0) hl hi h1 (fun F hC hO => h F hC (Oth.bel ((Below.refl _ w).alloc (Nat.le_refl _) _) hO (Nat.le_refl _)))
theorem below_oth {b n : Nat} {w W : World} (h : Oth b w W) (hb : n ≤ b) (hn : n ≤ w.heap.size) : Below n w W := ⟨h.os, h.tape, h.output, h.size, fun j hj => h.other j (by omega) (by omega)⟩
theorem results_cs {P : Program} {fn : Func} {p q : Tmp} {ty : TypeId} (h : fn.results = #[.cell p ty, .tmp q]) (tmps : Array Value) (w : World) (b o : Nat) (cs : List Value) (d : TypeDesc) (v : Value)
    (hp : tmps.getD p undef = .pointer (some ⟨b, o, none⟩)) (hq : tmps.getD q undef = v) (hc : w.rangeAt b o cs)
    (hu : P.underlying ty = some d) (hd : d.isRow = true) (hi : (P.info? ty).map (·.size) = some cs.length) :
    (results fn tmps).run P w = .ok (.tuple #[.agg cs.toArray, v]) w := by
  have hp' : tmps[p]?.getD undef = .pointer (some ⟨b, o, none⟩) := by simpa using hp
  have hq' : tmps[q]?.getD undef = v := by simpa using hq
  simp [results, h, hp', hq', asAddr, run_loadVar_mid w b o ty cs d hc hu hd hi]
end Go.Proofs.YtedhfimjcpbcpaaDoor.Ed

/-
  Bytes and their highest bit; a call's own bytes by cells; the program's Clone of bytes. Conditions: as each theorem says.
-/
namespace Go.Proofs.YtedhfimjcpbcpaaDoor.Ed
open Go.RowKit
set_option linter.unusedVariables false
set_option linter.unusedSimpArgs false

theorem and128 : ∀ n : Nat, n < 256 → bits .and .u8 (n : Int) 128 = ((n / 128 * 128 : Nat) : Int) := by decide +kernel
theorem andNot128 : ∀ n : Nat, n < 256 → bits .andNot .u8 (n : Int) 128 = ((n % 128 : Nat) : Int) := by decide +kernel
theorem byte_low (n j : Nat) (hj : j < 31) : byteAt (n + 2 ^ 255) j = byteAt n j := by
  unfold byteAt
  have e : (2 : Nat) ^ 255 = 2 ^ (8 * j) * (256 * 2 ^ (247 - 8 * j)) := by
    rw [show (256 : Nat) = 2 ^ 8 from rfl, ← Nat.pow_add, ← Nat.pow_add]
    congr 1
    omega
  rw [e, Nat.add_mul_div_left _ _ (Nat.pow_pos (by omega)), Nat.add_mul_mod_self_left]
/-- A call's own 32 bytes, by cells. -/
theorem own8_row {base : Nat} {w : World} {v : Value} {N : Nat} (h : Own8 base w v (leB N 32)) : ∃ g c L, v = .slice (some ⟨g, 0, none⟩) 32 c ∧ base ≤ g ∧ At 5 w g L ∧ ∀ j, j < 32 → L[j]? = some (.int .u8 (byteAt N j)) := by
  obtain ⟨h1, h2⟩ := h
  rw [leB_length] at h2
  rcases h2 with ⟨e, e0⟩ | ⟨g, cap, cur, e, hg, hh, hn, hm, hc, ht⟩
  · omega
  · refine ⟨g, cap, cur.toList, e, hg, by unfold At; simpa using hh, fun j hj => ?_⟩
    have h3 : (cur.toList.take (32 * 1))[j]? = some (.int .u8 (byteAt N j)) := by
      rw [ht, bv8_get _ _ (by rw [leB_length]; exact hj), leB_byte N j hj]
    rw [List.getElem?_take, if_pos (by omega)] at h3
    exact h3
/-- Its highest bit is taken away. -/
theorem row_low {g N y : Nat} {W : World} {L : List Value} (hA : At 5 W g L) (hL : ∀ j, j < 32 → L[j]? = some (.int .u8 (byteAt N j))) (hN : N < 2 ^ 256) (hy : y = N % 2 ^ 255) :
    bits .andNot .u8 (byteAt N 31) 128 = byteAt y 31 ∧ ∀ j, j < 32 → (W.setCell ⟨g, 31, none⟩ (.int .u8 (byteAt y 31))).cell? ⟨g, 0 + j, none⟩ = some (.int .u8 (byteAt y j)) := by
  have h31 : ∀ m : Nat, byteAt m 31 = ((m / 2 ^ 248 % 256 : Nat) : Int) := fun m => rfl
  constructor
  · rw [h31, h31, andNot128 _ (by omega)]
    congr 1
    omega
  · intro j hj
    rw [Nat.zero_add, (hA.set 31 _).cell, List.getElem?_set]
    by_cases e : 31 = j
    · subst e
      rw [if_pos rfl, if_pos (by
        have := hL 31 hj
        exact (List.getElem?_eq_some_iff.1 this).1)]
    · rw [if_neg e, hL j hj]
      have hlow : byteAt y j = byteAt N j := by
        rcases Nat.lt_or_ge N (2 ^ 255) with q | q
        · rw [hy, Nat.mod_eq_of_lt q]
        · have e2 : y + 2 ^ 255 = N := by omega
          rw [← e2, byte_low y j (by omega)]
      rw [hlow]
theorem eql_nil (a : Option Addr) (n c : Nat) (w : World) : (binOp .eql 22 (.slice a n c) (.slice none 0 0)).run Tryd.prog w = .ok (.bool a.isNone) w := by
  exact run_eql_slice_nil w _ _ a n c Tryd.underlying22
theorem own_empty (w : World) : Own8 w.heap.size (w.alloc (.cells #[] 5)) (.slice (some ⟨w.heap.size, 0, none⟩) 0 0) [] := by
  refine ⟨rfl, Or.inr ⟨w.heap.size, 0, #[], rfl, Nat.le_refl _, ?_, by simp, by unfold maxLen; omega, by simp, rfl⟩⟩
  show (w.heap.push _)[w.heap.size]? = _
  simp
theorem clone_own (l : List Nat) (hl : l.length ≤ 1000000) (p : Addr) (c n : Nat) (hn' : l.length = n) (w : World) (hs : SK .u8 w (.slice (some p) n c) l) :
    Calls Tryd.prog 35 #[.slice (some p) n c] w fun e w' => ∃ v', e = .returned v' ∧ Own8 w.heap.size w' v' l ∧ Below w.heap.size w w' := by
  have O2 : Hid (Own8 w.heap.size (w.alloc (.cells #[] 5)) (.slice (some ⟨w.heap.size, 0, none⟩) 0 0) []) := own_empty w
  have g2 : Hid (Below w.heap.size w (w.alloc (.cells #[] 5))) := (Below.refl _ _).alloc (Nat.le_refl _) _
  have S2 : Hid (SK .u8 (w.alloc (.cells #[] 5)) (.slice (some p) n c) l) := hs.below g2.out
  have hll : Hid (l.length ≤ 1000000) := hl
  have Z2 : Hid (w.heap.size ≤ (w.alloc (.cells #[] 5)).heap.size) := g2.out.size
  have hE : ∀ W : World, (binOp .eql 22 (.slice (some p) n c) (.slice none 0 0)).run Tryd.prog W = .ok (.bool false) W := eql_nil (some p) n c
  clear hs hl
  go_enter Tryd.func35, Tryd.ntmps35
  go_wp2_with (at_builtin; refine wpList_app8S rfl _ _ rfl w.heap.size (.slice (some ⟨w.heap.size, 0, none⟩) 0 0) [] l (.slice (some p) n c) rfl O2.out rfl S2.out (by simp) hll.out Z2.out ?_; intro v3 W3 hown3 hb3)
  go_ret
  exact ⟨_, rfl, by simpa using hown3, g2.out.trans hb3⟩
end Go.Proofs.YtedhfimjcpbcpaaDoor.Ed

/-
  What the package's variables, as the program lays them, give a walk of layer 10; a world in which they are so. Conditions: none beyond those written.
-/
namespace Go.Proofs.YtedhfimjcpbcpaaDoor
open Go.ChangeShapes Go.WideShapes Go.ChangeAt Go.WideMaps Go.WideElems Go.RowKit
set_option linter.unusedVariables false

theorem gn_fourTimes : Tryd.prog.globalNamed "cleromancy/field.fourTimes" = some 4 := by kernel_rfl
theorem gt_fourTimes : (Tryd.prog.globals[4]?).map (·.type) = some 28 := by kernel_rfl
theorem gn_rootOfMinusOne : Tryd.prog.globalNamed "cleromancy/field.rootOfMinusOne" = some 5 := by kernel_rfl
theorem gt_rootOfMinusOne : (Tryd.prog.globals[5]?).map (·.type) = some 28 := by kernel_rfl
theorem gn_d : Tryd.prog.globalNamed "cleromancy/edwards.d" = some 3 := by kernel_rfl
theorem gt_d : (Tryd.prog.globals[3]?).map (·.type) = some 28 := by kernel_rfl
theorem gn_twiceD : Tryd.prog.globalNamed "cleromancy/edwards.twiceD" = some 2 := by kernel_rfl
theorem gt_twiceD : (Tryd.prog.globals[2]?).map (·.type) = some 28 := by kernel_rfl
theorem gn_baseX : Tryd.prog.globalNamed "cleromancy/edwards.baseX" = some 0 := by kernel_rfl
theorem gt_baseX : (Tryd.prog.globals[0]?).map (·.type) = some 28 := by kernel_rfl
theorem gn_baseY : Tryd.prog.globalNamed "cleromancy/edwards.baseY" = some 1 := by kernel_rfl
theorem gt_baseY : (Tryd.prog.globals[1]?).map (·.type) = some 28 := by kernel_rfl
theorem own10 : ownKnob Tryd.prog.godebug = none := by kernel_rfl
theorem door_met10 (os : Os) (args : Array Value) : laidMetH Tryd.prog [("cleromancy/field.fourTimes", Rows.laid_cleromancy_field_fourTimes), ("cleromancy/field.rootOfMinusOne", Rows.laid_cleromancy_field_rootOfMinusOne), ("cleromancy/edwards.d", Rows.laid_cleromancy_edwards_d), ("cleromancy/edwards.twiceD", Rows.laid_cleromancy_edwards_twiceD), ("cleromancy/edwards.baseX", Rows.laid_cleromancy_edwards_baseX), ("cleromancy/edwards.baseY", Rows.laid_cleromancy_edwards_baseY)] ((World.doorLaid Tryd.prog 400 os).forCall (fun _ _ => 0) ⟨#[], args, []⟩).memory :=
  laidMetH_of_parts3 (fuel := 8) (laidMet_of_run' 8 (by kernel_rfl) (by kernel_rfl)) (by kernel_rfl) (by kernel_rfl)
theorem of_laid10 {W : World} (h : laidMetH Tryd.prog [("cleromancy/field.fourTimes", Rows.laid_cleromancy_field_fourTimes), ("cleromancy/field.rootOfMinusOne", Rows.laid_cleromancy_field_rootOfMinusOne), ("cleromancy/edwards.d", Rows.laid_cleromancy_edwards_d), ("cleromancy/edwards.twiceD", Rows.laid_cleromancy_edwards_twiceD), ("cleromancy/edwards.baseX", Rows.laid_cleromancy_edwards_baseX), ("cleromancy/edwards.baseY", Rows.laid_cleromancy_edwards_baseY)] W) : Gl W ∧ Ed.Gd W ∧ Ed.GtwiceD W ∧ Ed.GbaseX W ∧ Ed.GbaseY W := by
  rw [MakeChecks.laidMetH_plain _ _ _ (by kernel_rfl)] at h
  obtain ⟨ps, ⟨g0, t0, cs0, f0, p0, q0, hg0, ht0, hv0, hd0, ⟨g1, t1, cs1, f1, p1, q1, hg1, ht1, hv1, hd1, ⟨g2, t2, cs2, f2, p2, q2, hg2, ht2, hv2, hd2, ⟨g3, t3, cs3, f3, p3, q3, hg3, ht3, hv3, hd3, ⟨g4, t4, cs4, f4, p4, q4, hg4, ht4, hv4, hd4, ⟨g5, t5, cs5, f5, p5, q5, hg5, ht5, hv5, hd5, _, _⟩, _⟩, _⟩, _⟩, _⟩, _⟩, _, _⟩ := h
  obtain rfl := Option.some.inj (gn_fourTimes.symm.trans hg0)
  obtain rfl := Option.some.inj (gn_rootOfMinusOne.symm.trans hg1)
  obtain rfl := Option.some.inj (gn_d.symm.trans hg2)
  obtain rfl := Option.some.inj (gn_twiceD.symm.trans hg3)
  obtain rfl := Option.some.inj (gn_baseX.symm.trans hg4)
  obtain rfl := Option.some.inj (gn_baseY.symm.trans hg5)
  obtain rfl := Option.some.inj (gt_fourTimes.symm.trans ht0)
  obtain rfl := Option.some.inj (gt_rootOfMinusOne.symm.trans ht1)
  obtain rfl := Option.some.inj (gt_d.symm.trans ht2)
  obtain rfl := Option.some.inj (gt_twiceD.symm.trans ht3)
  obtain rfl := Option.some.inj (gt_baseX.symm.trans ht4)
  obtain rfl := Option.some.inj (gt_baseY.symm.trans ht5)
  have c0 : (W.cell? ⟨4, 0, none⟩ = some (.int .u64 9007199254740916) ∧ W.cell? ⟨4, 1, none⟩ = some (.int .u64 9007199254740988) ∧ W.cell? ⟨4, 2, none⟩ = some (.int .u64 9007199254740988) ∧ W.cell? ⟨4, 3, none⟩ = some (.int .u64 9007199254740988) ∧ W.cell? ⟨4, 4, none⟩ = some (.int .u64 9007199254740988)) ∧ 4 < W.heap.size := by
    have hc := fun j => World.var?_cell hg0 hv0 j
    obtain ⟨xs, m1, rfl, hx1, hlen, hn5, hel⟩ := DataW.trod_array Tryd.underlying28 hd0
    have cU : Tryd.prog.cellsOf 23 = 1 := by kernel_rfl
    rw [cU] at hel
    have k0 := hel 0 (by decide)
    have k1 := hel 1 (by decide)
    have k2 := hel 2 (by decide)
    have k3 := hel 3 (by decide)
    have k4 := hel 4 (by decide)
    match xs, hn5, hx1, k0, k1, k2, k3, k4 with
    | [x0, x1, x2, x3, x4], _, hx1, k0, k1, k2, k3, k4 =>
      have hx2 := congrArg Prod.fst hx1
      simp only [List.map_cons, List.map_nil] at hx2
      simp only [Nat.mul_one, List.getElem?_cons_zero, List.getElem?_cons_succ] at k0 k1 k2 k3 k4
      obtain ⟨a0, e0, d0, _⟩ := DataW.trod_int Tryd.underlying23 k0
      obtain ⟨a1, e1, d1, _⟩ := DataW.trod_int Tryd.underlying23 k1
      obtain ⟨a2, e2, d2, _⟩ := DataW.trod_int Tryd.underlying23 k2
      obtain ⟨a3, e3, d3, _⟩ := DataW.trod_int Tryd.underlying23 k3
      obtain ⟨a4, e4, d4, _⟩ := DataW.trod_int Tryd.underlying23 k4
      rw [d0, d1, d2, d3, d4] at hx2
      unfold Rows.laid_cleromancy_field_fourTimes at hx2
      simp only [DataW.agg.injEq, List.cons.injEq, DataW.lit.injEq, Lit.int.injEq, true_and, and_true] at hx2
      obtain ⟨rfl, rfl, rfl, rfl, rfl⟩ := hx2
      have t0 : cs0[0]? = some (.int .u64 9007199254740916) := by have := congrArg (fun l => l[0]?) e0; simpa using this
      have t1 : cs0[1]? = some (.int .u64 9007199254740988) := by have := congrArg (fun l => l[0]?) e1; simpa using this
      have t2 : cs0[2]? = some (.int .u64 9007199254740988) := by have := congrArg (fun l => l[0]?) e2; simpa using this
      have t3 : cs0[3]? = some (.int .u64 9007199254740988) := by have := congrArg (fun l => l[0]?) e3; simpa using this
      have t4 : cs0[4]? = some (.int .u64 9007199254740988) := by have := congrArg (fun l => l[0]?) e4; simpa using this
      have z0 := (hc 0).trans t0
      exact ⟨⟨z0, (hc 1).trans t1, (hc 2).trans t2, (hc 3).trans t3, (hc 4).trans t4⟩, World.block_lt_of_cell? W _ z0⟩
  have c1 : (W.cell? ⟨5, 0, none⟩ = some (.int .u64 1718705420411056) ∧ W.cell? ⟨5, 1, none⟩ = some (.int .u64 234908883556509) ∧ W.cell? ⟨5, 2, none⟩ = some (.int .u64 2233514472574048) ∧ W.cell? ⟨5, 3, none⟩ = some (.int .u64 2117202627021982) ∧ W.cell? ⟨5, 4, none⟩ = some (.int .u64 765476049583133)) ∧ 5 < W.heap.size := by
    have hc := fun j => World.var?_cell hg1 hv1 j
    obtain ⟨xs, m1, rfl, hx1, hlen, hn5, hel⟩ := DataW.trod_array Tryd.underlying28 hd1
    have cU : Tryd.prog.cellsOf 23 = 1 := by kernel_rfl
    rw [cU] at hel
    have k0 := hel 0 (by decide)
    have k1 := hel 1 (by decide)
    have k2 := hel 2 (by decide)
    have k3 := hel 3 (by decide)
    have k4 := hel 4 (by decide)
    match xs, hn5, hx1, k0, k1, k2, k3, k4 with
    | [x0, x1, x2, x3, x4], _, hx1, k0, k1, k2, k3, k4 =>
      have hx2 := congrArg Prod.fst hx1
      simp only [List.map_cons, List.map_nil] at hx2
      simp only [Nat.mul_one, List.getElem?_cons_zero, List.getElem?_cons_succ] at k0 k1 k2 k3 k4
      obtain ⟨a0, e0, d0, _⟩ := DataW.trod_int Tryd.underlying23 k0
      obtain ⟨a1, e1, d1, _⟩ := DataW.trod_int Tryd.underlying23 k1
      obtain ⟨a2, e2, d2, _⟩ := DataW.trod_int Tryd.underlying23 k2
      obtain ⟨a3, e3, d3, _⟩ := DataW.trod_int Tryd.underlying23 k3
      obtain ⟨a4, e4, d4, _⟩ := DataW.trod_int Tryd.underlying23 k4
      rw [d0, d1, d2, d3, d4] at hx2
      unfold Rows.laid_cleromancy_field_rootOfMinusOne at hx2
      simp only [DataW.agg.injEq, List.cons.injEq, DataW.lit.injEq, Lit.int.injEq, true_and, and_true] at hx2
      obtain ⟨rfl, rfl, rfl, rfl, rfl⟩ := hx2
      have t0 : cs1[0]? = some (.int .u64 1718705420411056) := by have := congrArg (fun l => l[0]?) e0; simpa using this
      have t1 : cs1[1]? = some (.int .u64 234908883556509) := by have := congrArg (fun l => l[0]?) e1; simpa using this
      have t2 : cs1[2]? = some (.int .u64 2233514472574048) := by have := congrArg (fun l => l[0]?) e2; simpa using this
      have t3 : cs1[3]? = some (.int .u64 2117202627021982) := by have := congrArg (fun l => l[0]?) e3; simpa using this
      have t4 : cs1[4]? = some (.int .u64 765476049583133) := by have := congrArg (fun l => l[0]?) e4; simpa using this
      have z0 := (hc 0).trans t0
      exact ⟨⟨z0, (hc 1).trans t1, (hc 2).trans t2, (hc 3).trans t3, (hc 4).trans t4⟩, World.block_lt_of_cell? W _ z0⟩
  have c2 : (W.cell? ⟨3, 0, none⟩ = some (.int .u64 929955233495203) ∧ W.cell? ⟨3, 1, none⟩ = some (.int .u64 466365720129213) ∧ W.cell? ⟨3, 2, none⟩ = some (.int .u64 1662059464998953) ∧ W.cell? ⟨3, 3, none⟩ = some (.int .u64 2033849074728123) ∧ W.cell? ⟨3, 4, none⟩ = some (.int .u64 1442794654840575)) ∧ 3 < W.heap.size := by
    have hc := fun j => World.var?_cell hg2 hv2 j
    obtain ⟨xs, m1, rfl, hx1, hlen, hn5, hel⟩ := DataW.trod_array Tryd.underlying28 hd2
    have cU : Tryd.prog.cellsOf 23 = 1 := by kernel_rfl
    rw [cU] at hel
    have k0 := hel 0 (by decide)
    have k1 := hel 1 (by decide)
    have k2 := hel 2 (by decide)
    have k3 := hel 3 (by decide)
    have k4 := hel 4 (by decide)
    match xs, hn5, hx1, k0, k1, k2, k3, k4 with
    | [x0, x1, x2, x3, x4], _, hx1, k0, k1, k2, k3, k4 =>
      have hx2 := congrArg Prod.fst hx1
      simp only [List.map_cons, List.map_nil] at hx2
      simp only [Nat.mul_one, List.getElem?_cons_zero, List.getElem?_cons_succ] at k0 k1 k2 k3 k4
      obtain ⟨a0, e0, d0, _⟩ := DataW.trod_int Tryd.underlying23 k0
      obtain ⟨a1, e1, d1, _⟩ := DataW.trod_int Tryd.underlying23 k1
      obtain ⟨a2, e2, d2, _⟩ := DataW.trod_int Tryd.underlying23 k2
      obtain ⟨a3, e3, d3, _⟩ := DataW.trod_int Tryd.underlying23 k3
      obtain ⟨a4, e4, d4, _⟩ := DataW.trod_int Tryd.underlying23 k4
      rw [d0, d1, d2, d3, d4] at hx2
      unfold Rows.laid_cleromancy_edwards_d at hx2
      simp only [DataW.agg.injEq, List.cons.injEq, DataW.lit.injEq, Lit.int.injEq, true_and, and_true] at hx2
      obtain ⟨rfl, rfl, rfl, rfl, rfl⟩ := hx2
      have t0 : cs2[0]? = some (.int .u64 929955233495203) := by have := congrArg (fun l => l[0]?) e0; simpa using this
      have t1 : cs2[1]? = some (.int .u64 466365720129213) := by have := congrArg (fun l => l[0]?) e1; simpa using this
      have t2 : cs2[2]? = some (.int .u64 1662059464998953) := by have := congrArg (fun l => l[0]?) e2; simpa using this
      have t3 : cs2[3]? = some (.int .u64 2033849074728123) := by have := congrArg (fun l => l[0]?) e3; simpa using this
      have t4 : cs2[4]? = some (.int .u64 1442794654840575) := by have := congrArg (fun l => l[0]?) e4; simpa using this
      have z0 := (hc 0).trans t0
      exact ⟨⟨z0, (hc 1).trans t1, (hc 2).trans t2, (hc 3).trans t3, (hc 4).trans t4⟩, World.block_lt_of_cell? W _ z0⟩
  have c3 : (W.cell? ⟨2, 0, none⟩ = some (.int .u64 1859910466990425) ∧ W.cell? ⟨2, 1, none⟩ = some (.int .u64 932731440258426) ∧ W.cell? ⟨2, 2, none⟩ = some (.int .u64 1072319116312658) ∧ W.cell? ⟨2, 3, none⟩ = some (.int .u64 1815898335770999) ∧ W.cell? ⟨2, 4, none⟩ = some (.int .u64 633789495995903)) ∧ 2 < W.heap.size := by
    have hc := fun j => World.var?_cell hg3 hv3 j
    obtain ⟨xs, m1, rfl, hx1, hlen, hn5, hel⟩ := DataW.trod_array Tryd.underlying28 hd3
    have cU : Tryd.prog.cellsOf 23 = 1 := by kernel_rfl
    rw [cU] at hel
    have k0 := hel 0 (by decide)
    have k1 := hel 1 (by decide)
    have k2 := hel 2 (by decide)
    have k3 := hel 3 (by decide)
    have k4 := hel 4 (by decide)
    match xs, hn5, hx1, k0, k1, k2, k3, k4 with
    | [x0, x1, x2, x3, x4], _, hx1, k0, k1, k2, k3, k4 =>
      have hx2 := congrArg Prod.fst hx1
      simp only [List.map_cons, List.map_nil] at hx2
      simp only [Nat.mul_one, List.getElem?_cons_zero, List.getElem?_cons_succ] at k0 k1 k2 k3 k4
      obtain ⟨a0, e0, d0, _⟩ := DataW.trod_int Tryd.underlying23 k0
      obtain ⟨a1, e1, d1, _⟩ := DataW.trod_int Tryd.underlying23 k1
      obtain ⟨a2, e2, d2, _⟩ := DataW.trod_int Tryd.underlying23 k2
      obtain ⟨a3, e3, d3, _⟩ := DataW.trod_int Tryd.underlying23 k3
      obtain ⟨a4, e4, d4, _⟩ := DataW.trod_int Tryd.underlying23 k4
      rw [d0, d1, d2, d3, d4] at hx2
      unfold Rows.laid_cleromancy_edwards_twiceD at hx2
      simp only [DataW.agg.injEq, List.cons.injEq, DataW.lit.injEq, Lit.int.injEq, true_and, and_true] at hx2
      obtain ⟨rfl, rfl, rfl, rfl, rfl⟩ := hx2
      have t0 : cs3[0]? = some (.int .u64 1859910466990425) := by have := congrArg (fun l => l[0]?) e0; simpa using this
      have t1 : cs3[1]? = some (.int .u64 932731440258426) := by have := congrArg (fun l => l[0]?) e1; simpa using this
      have t2 : cs3[2]? = some (.int .u64 1072319116312658) := by have := congrArg (fun l => l[0]?) e2; simpa using this
      have t3 : cs3[3]? = some (.int .u64 1815898335770999) := by have := congrArg (fun l => l[0]?) e3; simpa using this
      have t4 : cs3[4]? = some (.int .u64 633789495995903) := by have := congrArg (fun l => l[0]?) e4; simpa using this
      have z0 := (hc 0).trans t0
      exact ⟨⟨z0, (hc 1).trans t1, (hc 2).trans t2, (hc 3).trans t3, (hc 4).trans t4⟩, World.block_lt_of_cell? W _ z0⟩
  have c4 : (W.cell? ⟨0, 0, none⟩ = some (.int .u64 1738742601995546) ∧ W.cell? ⟨0, 1, none⟩ = some (.int .u64 1146398526822698) ∧ W.cell? ⟨0, 2, none⟩ = some (.int .u64 2070867633025821) ∧ W.cell? ⟨0, 3, none⟩ = some (.int .u64 562264141797630) ∧ W.cell? ⟨0, 4, none⟩ = some (.int .u64 587772402128613)) ∧ 0 < W.heap.size := by
    have hc := fun j => World.var?_cell hg4 hv4 j
    obtain ⟨xs, m1, rfl, hx1, hlen, hn5, hel⟩ := DataW.trod_array Tryd.underlying28 hd4
    have cU : Tryd.prog.cellsOf 23 = 1 := by kernel_rfl
    rw [cU] at hel
    have k0 := hel 0 (by decide)
    have k1 := hel 1 (by decide)
    have k2 := hel 2 (by decide)
    have k3 := hel 3 (by decide)
    have k4 := hel 4 (by decide)
    match xs, hn5, hx1, k0, k1, k2, k3, k4 with
    | [x0, x1, x2, x3, x4], _, hx1, k0, k1, k2, k3, k4 =>
      have hx2 := congrArg Prod.fst hx1
      simp only [List.map_cons, List.map_nil] at hx2
      simp only [Nat.mul_one, List.getElem?_cons_zero, List.getElem?_cons_succ] at k0 k1 k2 k3 k4
      obtain ⟨a0, e0, d0, _⟩ := DataW.trod_int Tryd.underlying23 k0
      obtain ⟨a1, e1, d1, _⟩ := DataW.trod_int Tryd.underlying23 k1
      obtain ⟨a2, e2, d2, _⟩ := DataW.trod_int Tryd.underlying23 k2
      obtain ⟨a3, e3, d3, _⟩ := DataW.trod_int Tryd.underlying23 k3
      obtain ⟨a4, e4, d4, _⟩ := DataW.trod_int Tryd.underlying23 k4
      rw [d0, d1, d2, d3, d4] at hx2
      unfold Rows.laid_cleromancy_edwards_baseX at hx2
      simp only [DataW.agg.injEq, List.cons.injEq, DataW.lit.injEq, Lit.int.injEq, true_and, and_true] at hx2
      obtain ⟨rfl, rfl, rfl, rfl, rfl⟩ := hx2
      have t0 : cs4[0]? = some (.int .u64 1738742601995546) := by have := congrArg (fun l => l[0]?) e0; simpa using this
      have t1 : cs4[1]? = some (.int .u64 1146398526822698) := by have := congrArg (fun l => l[0]?) e1; simpa using this
      have t2 : cs4[2]? = some (.int .u64 2070867633025821) := by have := congrArg (fun l => l[0]?) e2; simpa using this
      have t3 : cs4[3]? = some (.int .u64 562264141797630) := by have := congrArg (fun l => l[0]?) e3; simpa using this
      have t4 : cs4[4]? = some (.int .u64 587772402128613) := by have := congrArg (fun l => l[0]?) e4; simpa using this
      have z0 := (hc 0).trans t0
      exact ⟨⟨z0, (hc 1).trans t1, (hc 2).trans t2, (hc 3).trans t3, (hc 4).trans t4⟩, World.block_lt_of_cell? W _ z0⟩
  have c5 : (W.cell? ⟨1, 0, none⟩ = some (.int .u64 1801439850948184) ∧ W.cell? ⟨1, 1, none⟩ = some (.int .u64 1351079888211148) ∧ W.cell? ⟨1, 2, none⟩ = some (.int .u64 450359962737049) ∧ W.cell? ⟨1, 3, none⟩ = some (.int .u64 900719925474099) ∧ W.cell? ⟨1, 4, none⟩ = some (.int .u64 1801439850948198)) ∧ 1 < W.heap.size := by
    have hc := fun j => World.var?_cell hg5 hv5 j
    obtain ⟨xs, m1, rfl, hx1, hlen, hn5, hel⟩ := DataW.trod_array Tryd.underlying28 hd5
    have cU : Tryd.prog.cellsOf 23 = 1 := by kernel_rfl
    rw [cU] at hel
    have k0 := hel 0 (by decide)
    have k1 := hel 1 (by decide)
    have k2 := hel 2 (by decide)
    have k3 := hel 3 (by decide)
    have k4 := hel 4 (by decide)
    match xs, hn5, hx1, k0, k1, k2, k3, k4 with
    | [x0, x1, x2, x3, x4], _, hx1, k0, k1, k2, k3, k4 =>
      have hx2 := congrArg Prod.fst hx1
      simp only [List.map_cons, List.map_nil] at hx2
      simp only [Nat.mul_one, List.getElem?_cons_zero, List.getElem?_cons_succ] at k0 k1 k2 k3 k4
      obtain ⟨a0, e0, d0, _⟩ := DataW.trod_int Tryd.underlying23 k0
      obtain ⟨a1, e1, d1, _⟩ := DataW.trod_int Tryd.underlying23 k1
      obtain ⟨a2, e2, d2, _⟩ := DataW.trod_int Tryd.underlying23 k2
      obtain ⟨a3, e3, d3, _⟩ := DataW.trod_int Tryd.underlying23 k3
      obtain ⟨a4, e4, d4, _⟩ := DataW.trod_int Tryd.underlying23 k4
      rw [d0, d1, d2, d3, d4] at hx2
      unfold Rows.laid_cleromancy_edwards_baseY at hx2
      simp only [DataW.agg.injEq, List.cons.injEq, DataW.lit.injEq, Lit.int.injEq, true_and, and_true] at hx2
      obtain ⟨rfl, rfl, rfl, rfl, rfl⟩ := hx2
      have t0 : cs5[0]? = some (.int .u64 1801439850948184) := by have := congrArg (fun l => l[0]?) e0; simpa using this
      have t1 : cs5[1]? = some (.int .u64 1351079888211148) := by have := congrArg (fun l => l[0]?) e1; simpa using this
      have t2 : cs5[2]? = some (.int .u64 450359962737049) := by have := congrArg (fun l => l[0]?) e2; simpa using this
      have t3 : cs5[3]? = some (.int .u64 900719925474099) := by have := congrArg (fun l => l[0]?) e3; simpa using this
      have t4 : cs5[4]? = some (.int .u64 1801439850948198) := by have := congrArg (fun l => l[0]?) e4; simpa using this
      have z0 := (hc 0).trans t0
      exact ⟨⟨z0, (hc 1).trans t1, (hc 2).trans t2, (hc 3).trans t3, (hc 4).trans t4⟩, World.block_lt_of_cell? W _ z0⟩
  obtain ⟨⟨u00, u01, u02, u03, u04⟩, l0⟩ := c0
  obtain ⟨⟨u10, u11, u12, u13, u14⟩, l1⟩ := c1
  obtain ⟨⟨u20, u21, u22, u23, u24⟩, l2⟩ := c2
  obtain ⟨⟨u30, u31, u32, u33, u34⟩, l3⟩ := c3
  obtain ⟨⟨u40, u41, u42, u43, u44⟩, l4⟩ := c4
  obtain ⟨⟨u50, u51, u52, u53, u54⟩, l5⟩ := c5
  exact ⟨⟨(by first | exact l1 | exact l0), u00, u01, u02, u03, u04, u10, u11, u12, u13, u14⟩, ⟨l2, u20, u21, u22, u23, u24⟩, ⟨l3, u30, u31, u32, u33, u34⟩, ⟨l4, u40, u41, u42, u43, u44⟩, ⟨l5, u50, u51, u52, u53, u54⟩⟩
end Go.Proofs.YtedhfimjcpbcpaaDoor

/-
  Numbers as lists of words of 64 bits, the lowest first: their values, the words without noughts at the end, and the steps of sums, differences and products. No program is spoken of here.
-/
namespace Go.Proofs.YtedhfimjcpbcpaaDoor
open Go.RowKit
set_option linter.unusedVariables false

/-- No nought at the end. -/
def Nzw (l : List Nat) : Prop := l = [] ∨ l.getD (l.length - 1) 0 ≠ 0
theorem Ww.nil : Ww [] := fun j => by simp
theorem Ww.zeros (n : Nat) : Ww (List.replicate n 0) := fun j => by
  rw [List.getD_eq_getElem?_getD, List.getElem?_replicate]; split <;> simp
theorem Ww.take {l : List Nat} (h : Ww l) (n : Nat) : Ww (l.take n) := fun j => by
  rw [List.getD_eq_getElem?_getD, List.getElem?_take]
  split
  · have := h j; rwa [List.getD_eq_getElem?_getD] at this
  · simp
theorem Ww.set {l : List Nat} {p d : Nat} (h : Ww l) (hp : p < l.length) (hd : d < 18446744073709551616) : Ww (l.set p d) := fun j => by
  rw [getD_set l p j d hp]; split
  · exact hd
  · exact h j
theorem valW_append : ∀ (l m : List Nat), valW (l ++ m) = valW l + 18446744073709551616 ^ l.length * valW m
  | [], m => by simp [valW]
  | d :: l, m => by
    simp only [List.cons_append, valW, valW_append l m, List.length_cons, Nat.pow_succ]
    rw [Nat.mul_add, Nat.add_assoc, Nat.mul_comm (18446744073709551616 ^ l.length) 18446744073709551616, Nat.mul_assoc]
theorem valW_split (l : List Nat) (i : Nat) : valW l = valW (l.take i) + 18446744073709551616 ^ i * valW (l.drop i) := by
  by_cases hi : i ≤ l.length
  · have := valW_append (l.take i) (l.drop i)
    rw [List.take_append_drop, List.length_take, Nat.min_eq_left hi] at this
    exact this
  · rw [List.take_of_length_le (by omega), List.drop_eq_nil_of_le (by omega)]
    simp [valW]
theorem valW_take (l : List Nat) (i : Nat) : valW (l.take (i + 1)) = valW (l.take i) + 18446744073709551616 ^ i * l.getD i 0 := by
  by_cases h : i < l.length
  · rw [List.take_succ_eq_append_getElem h, valW_append, List.length_take, Nat.min_eq_left (by omega)]
    simp [valW, List.getD_eq_getElem?_getD, h]
  · rw [List.take_of_length_le (by omega), List.take_of_length_le (by omega)]
    simp [List.getD_eq_getElem?_getD, List.getElem?_eq_none (show l.length ≤ i by omega)]
theorem valW_take_all (l : List Nat) (i : Nat) (h : l.length ≤ i) : valW (l.take i) = valW l := by rw [List.take_of_length_le h]
theorem can_len (l : List Nat) (m : Nat) (hd : Ww l) (hz : Nzw l) (h : valW l < 18446744073709551616 ^ m) : l.length ≤ m := by
  rcases Nat.lt_or_ge m l.length with hlt | hge
  · exfalso
    rcases hz with e | e
    · rw [e] at hlt; simp at hlt
    · have ht := valW_take l (l.length - 1)
      rw [show l.length - 1 + 1 = l.length by omega, List.take_length] at ht
      have hp : 18446744073709551616 ^ m ≤ 18446744073709551616 ^ (l.length - 1) := Nat.pow_le_pow_right (by omega) (by omega)
      have hm : 18446744073709551616 ^ (l.length - 1) * 1 ≤ 18446744073709551616 ^ (l.length - 1) * l.getD (l.length - 1) 0 := Nat.mul_le_mul_left _ (by omega)
      generalize 18446744073709551616 ^ (l.length - 1) = P at *
      omega
  · exact hge
/-! ### Sums -/
def AddW (la lb : List Nat) (i c : Nat) (o : List Nat) : Prop := Ww o ∧ c ≤ 1 ∧ valW (o.take i) + 18446744073709551616 ^ i * c = valW (la.take i) + valW (lb.take i)
theorem take_set_lt (o : List Nat) (i v : Nat) : (o.set i v).take i = o.take i := by
  apply List.ext_getElem?
  intro j
  rw [List.getElem?_take, List.getElem?_take]
  by_cases h : j < i
  · rw [if_pos h, if_pos h, List.getElem?_set, if_neg (by omega)]
  · rw [if_neg h, if_neg h]
theorem valW_take_set (o : List Nat) (i v : Nat) (hi : i < o.length) : valW ((o.set i v).take (i + 1)) = valW (o.take i) + 18446744073709551616 ^ i * v := by
  rw [valW_take, take_set_lt, getD_set o i i v hi, if_pos rfl]
theorem AddW.step {la lb : List Nat} {i c : Nat} {o : List Nat} (h : AddW la lb i c o) (hi : i < o.length) (x y S : Nat) (hx : la.getD i 0 = x) (hy : lb.getD i 0 = y) (hx1 : x < 18446744073709551616) (hy1 : y < 18446744073709551616) (hS : S = x + y + c) :
    AddW la lb (i + 1) (S / 18446744073709551616) (o.set i (S % 18446744073709551616)) := by
  obtain ⟨h1, h2, h3⟩ := h
  refine ⟨h1.set hi (Nat.mod_lt _ (by omega)), by omega, ?_⟩
  rw [valW_take_set o i _ hi, valW_take, valW_take, hx, hy, Nat.pow_succ, Nat.mul_assoc, Nat.add_assoc, ← Nat.mul_add, Nat.mod_add_div, hS, Nat.mul_add, Nat.mul_add]
  omega
theorem AddW.done {la lb : List Nat} {c : Nat} {o : List Nat} (n : Nat) (h : AddW la lb n c o) (hl : o.length = n) (hla : la.length < n) (hlb : lb.length < n) (hwa : Ww la) (hwb : Ww lb) : valW o = valW la + valW lb := by
  obtain ⟨h1, h2, h3⟩ := h
  rw [List.take_of_length_le (by omega), valW_take_all la n (by omega), valW_take_all lb n (by omega)] at h3
  have ha := valW_lt la hwa
  have hb := valW_lt lb hwb
  have p1 : 18446744073709551616 ^ la.length ≤ 18446744073709551616 ^ (n - 1) := Nat.pow_le_pow_right (by omega) (by omega)
  have p2 : 18446744073709551616 ^ lb.length ≤ 18446744073709551616 ^ (n - 1) := Nat.pow_le_pow_right (by omega) (by omega)
  have p3 : 18446744073709551616 ^ n = 18446744073709551616 ^ (n - 1) * 18446744073709551616 := by rw [← Nat.pow_succ]; congr 1; omega
  rcases Nat.lt_or_ge 0 c with hc | hc
  · obtain rfl : c = 1 := by omega
    rw [Nat.mul_one, p3] at h3
    generalize 18446744073709551616 ^ (n - 1) = P at *
    omega
  · obtain rfl : c = 0 := by omega
    rw [Nat.mul_zero] at h3
    omega

/-! ### Differences -/
def SubW (la lb : List Nat) (i c : Nat) (o : List Nat) : Prop := Ww o ∧ c ≤ 1 ∧ valW (la.take i) + 18446744073709551616 ^ i * c = valW (lb.take i) + valW (o.take i)
theorem SubW.step {la lb : List Nat} {i c : Nat} {o : List Nat} (h : SubW la lb i c o) (hi : i < o.length) (x y d c' : Nat) (hx : la.getD i 0 = x) (hy : lb.getD i 0 = y) (hd : d < 18446744073709551616) (hc : c' ≤ 1) (he : x + 18446744073709551616 * c' = y + c + d) :
    SubW la lb (i + 1) c' (o.set i d) := by
  obtain ⟨h1, h2, h3⟩ := h
  refine ⟨h1.set hi hd, hc, ?_⟩
  rw [valW_take_set o i _ hi, valW_take, valW_take, hx, hy, Nat.pow_succ, Nat.mul_assoc]
  have e : 18446744073709551616 ^ i * x + 18446744073709551616 ^ i * (18446744073709551616 * c') = 18446744073709551616 ^ i * y + 18446744073709551616 ^ i * c + 18446744073709551616 ^ i * d := by
    rw [← Nat.mul_add, he, Nat.mul_add, Nat.mul_add]
  omega
theorem SubW.done {la lb : List Nat} {c : Nat} {o : List Nat} (h : SubW la lb la.length c o) (hl : o.length = la.length) (hwb : Ww lb) (hle : valW lb ≤ valW la) (hlt : valW la < 18446744073709551616 ^ la.length) : valW o = valW la - valW lb := by
  obtain ⟨h1, h2, h3⟩ := h
  have ho := valW_lt o h1
  have hs := valW_split lb la.length
  have hb1 : valW (lb.take la.length) = valW lb := by
    rcases Nat.eq_zero_or_pos (valW (lb.drop la.length)) with h0 | h0
    · rw [h0, Nat.mul_zero, Nat.add_zero] at hs; exact hs.symm
    · exfalso
      have : 18446744073709551616 ^ la.length * 1 ≤ 18446744073709551616 ^ la.length * valW (lb.drop la.length) := Nat.mul_le_mul_left _ h0
      omega
  rw [List.take_length, hb1, List.take_of_length_le (show o.length ≤ la.length by omega)] at h3
  rw [hl] at ho
  rcases Nat.lt_or_ge 0 c with hc | hc
  · obtain rfl : c = 1 := by omega
    rw [Nat.mul_one] at h3
    omega
  · obtain rfl : c = 0 := by omega
    rw [Nat.mul_zero] at h3
    omega

/-! ### A row of a product -/
/-- i words of la times w are added to o0 from its word off on: o, and c above them. -/
def RowW (la : List Nat) (w off : Nat) (o0 : List Nat) (i c : Nat) (o : List Nat) : Prop :=
  o.length = o0.length ∧ Ww o ∧ c < 18446744073709551616 ∧ (∀ j, j < off ∨ off + i ≤ j → o.getD j 0 = o0.getD j 0) ∧
    valW o + 18446744073709551616 ^ (off + i) * c = valW o0 + 18446744073709551616 ^ off * (valW (la.take i) * w)
theorem RowW.start (la : List Nat) (w off : Nat) (o0 : List Nat) (h : Ww o0) : RowW la w off o0 0 0 o0 :=
  ⟨rfl, h, by omega, fun _ _ => rfl, by simp [valW]⟩
theorem RowW.step {la : List Nat} {w off : Nat} {o0 : List Nat} {i c : Nat} {o : List Nat} (h : RowW la w off o0 i c o) (hp : off + i < o.length) (hi : i < la.length) (x q hh ll S : Nat) (hx : la.getD i 0 = x) (hq : o.getD (off + i) 0 = q)
    (hx1 : x < 18446744073709551616) (hw : w < 18446744073709551616) (hm : x * w = ll + 18446744073709551616 * hh) (hl1 : ll < 18446744073709551616) (hS : S = q + ll + c) :
    hh + S / 18446744073709551616 < 18446744073709551616 ∧ RowW la w off o0 (i + 1) (hh + S / 18446744073709551616) (o.set (off + i) (S % 18446744073709551616)) := by
  obtain ⟨h1, h2, h3, h4, h5⟩ := h
  have hq1 : q < 18446744073709551616 := by rw [← hq]; exact h2 _
  have hxw : x * w ≤ 18446744073709551615 * 18446744073709551615 := Nat.mul_le_mul (by omega) (by omega)
  have hc : hh + S / 18446744073709551616 < 18446744073709551616 := by omega
  refine ⟨hc, by rw [List.length_set]; exact h1, h2.set hp (Nat.mod_lt _ (by omega)), hc, fun j hj => ?_, ?_⟩
  · rw [getD_set _ _ _ _ hp, if_neg (by omega)]; exact h4 j (by omega)
  · have e := valW_set o (off + i) (S % 18446744073709551616) hp
    rw [hq] at e
    rw [valW_take la i, hx, Nat.add_mul, Nat.mul_add (18446744073709551616 ^ off), ← Nat.add_assoc (valW o0), ← h5, ← Nat.add_assoc off i 1, Nat.pow_succ, Nat.mul_assoc]
    have e2 : 18446744073709551616 ^ off * (18446744073709551616 ^ i * x * w) = 18446744073709551616 ^ (off + i) * (x * w) := by rw [Nat.pow_add, Nat.mul_assoc, Nat.mul_assoc]
    rw [e2]
    generalize 18446744073709551616 ^ (off + i) = P at *
    have e3 : P * (S % 18446744073709551616) + P * (18446744073709551616 * (hh + S / 18446744073709551616)) = P * q + P * (x * w) + P * c := by
      rw [← Nat.mul_add, ← Nat.mul_add, ← Nat.mul_add]
      congr 1
      rw [hm, hS]
      omega
    omega
/-- Behind a whole row the word above it is laid where there was nought. -/
theorem RowW.top {la : List Nat} {w off : Nat} {o0 : List Nat} {c : Nat} {o : List Nat} (h : RowW la w off o0 la.length c o) (hp : off + la.length < o.length) (hz : o0.getD (off + la.length) 0 = 0) :
    o.getD (off + la.length) 0 = 0 ∧ Ww (o.set (off + la.length) c) ∧ valW (o.set (off + la.length) c) = valW o0 + 18446744073709551616 ^ off * (valW la * w) := by
  obtain ⟨h1, h2, h3, h4, h5⟩ := h
  have hz' : o.getD (off + la.length) 0 = 0 := by rw [h4 _ (Or.inr (Nat.le_refl _))]; exact hz
  have e := valW_set o (off + la.length) c hp
  rw [hz', Nat.mul_zero, Nat.add_zero] at e
  refine ⟨hz', h2.set hp h3, ?_⟩
  rw [e, h5, List.take_length]

end Go.Proofs.YtedhfimjcpbcpaaDoor

/-
  The contracts of nat's cut, word and sum: words without noughts at the end, a word or nought, the sum of words. Conditions: as each theorem says.
-/
namespace Go.Proofs.YtedhfimjcpbcpaaDoor
open Go.RowKit
set_option linter.unusedVariables false

/-- The slice v leads to the words of N, without noughts at the end. -/
def Can (w : World) (v : Value) (N : Nat) : Prop := ∃ l, SK .u64 w v l ∧ Ww l ∧ Nzw l ∧ valW l = N
theorem Can.below {w w' : World} {v : Value} {N : Nat} (h : Can w v N) (hb : Below w.heap.size w w') : Can w' v N := by
  obtain ⟨l, h1, h2, h3, h4⟩ := h
  exact ⟨l, h1.below hb, h2, h3, h4⟩
theorem Can.nil (w : World) : Can w (.slice none 0 0) 0 := ⟨[], SK.nil _ w, Ww.nil, Or.inl rfl, rfl⟩
theorem Can.shape {w : World} {v : Value} {N : Nat} (h : Can w v N) : ∃ a n c, v = .slice a n c := by
  obtain ⟨l, ⟨a, c, e, _⟩, _⟩ := h
  exact ⟨a, _, c, e⟩
theorem Can.len {w : World} {a : Option Addr} {n c N : Nat} (h : Can w (.slice a n c) N) (m : Nat) (hN : N < 18446744073709551616 ^ m) : n ≤ m := by
  obtain ⟨l, ⟨a', c', e, _⟩, h2, h3, rfl⟩ := h
  simp only [Value.slice.injEq] at e
  have := can_len l m h2 h3 hN
  omega

end Go.Proofs.YtedhfimjcpbcpaaDoor

/-
  The contract of the library's slices.Backward at words: the places and the words, the last first, or a part of them. Conditions: as each theorem says.
-/
namespace Go.Proofs.YtedhfimjcpbcpaaDoor
open Go.RowKit Go.Shelf
set_option linter.unusedVariables false
attribute [local go_sem] Oper.semAt_some

/-- What has come when k rounds are over: the places and the words, the last first. -/
def pairsB (l : List Nat) (k : Nat) : List (Nat × Nat) := (List.range k).map fun j => (l.length - 1 - j, l.getD (l.length - 1 - j) 0)
theorem pairsB_succ (l : List Nat) (k : Nat) : pairsB l (k + 1) = pairsB l k ++ [(l.length - 1 - k, l.getD (l.length - 1 - k) 0)] := by simp [pairsB, List.range_succ]
theorem pairsB_length (l : List Nat) (k : Nat) : (pairsB l k).length = k := by simp [pairsB]

/-- What lay below n₀ lies as it lay, and so does the cell B. -/
def KpB (n₀ B : Nat) (W W' : World) : Prop := Below n₀ W W' ∧ W'.cell? ⟨B, 0, none⟩ = W.cell? ⟨B, 0, none⟩
theorem KpB.refl (n₀ B : Nat) (W : World) : KpB n₀ B W W := ⟨Below.refl _ _, rfl⟩
theorem KpB.trans {n₀ B : Nat} {W W' W'' : World} (h : KpB n₀ B W W') (h' : KpB n₀ B W' W'') : KpB n₀ B W W'' := ⟨h.1.trans h'.1, h'.2.trans h.2⟩

set_option maxHeartbeats 1000000 in
theorem back_in (F : Fence) (n : Nat) (h5 : F.fn 93) (hro : F.round = none) (a : Option Addr) (len cap : Nat) (w : World) :
    CallsIn F n Tryd.prog 93 #[.slice a len cap] w fun e w' => e = .returned (.func (.func 111) #[] #[.pointer (some ⟨w.heap.size, 0, none⟩)]) ∧ w' = w.alloc (.cells #[.slice a len cap] 96) := by
  refine callsIn_of_wp Tryd.func93 rfl h5 ?_ hro
  simp only [Tryd.ntmps93, List.size_toArray, List.length_cons, List.length_nil, Nat.reduceAdd, Nat.reduceSub, Array.replicate_succ, Array.replicate_zero, List.push_toArray, List.append_toArray, List.nil_append, List.cons_append]
  gi_wp2
  go_ret
  exact ⟨rfl, rfl⟩

end Go.Proofs.YtedhfimjcpbcpaaDoor

/-
  A region that draws its order inside a round of a loop over a function: it may be walked as outside of one, if it holds no defer statement. Conditions: as each theorem says.
-/
namespace Go.Proofs.YtedhfimjcpbcpaaDoor
open Go.RowKit Go.Shelf
set_option linter.unusedVariables false

theorem uponIn_inRound (F : Fence) (l n : Nat) (P : Program) (o : Oper) (a : Act) (K : Act → World → Prop) (Q : Exit → Act → World → Prop) (r : Result Next) (h : o.uponIn F n P a K Q r) : o.uponIn (F.inRound l) n P a K Q r := by
  cases r with
  | ok x w' => cases x <;> exact h
  | halt x w' => cases x <;> exact h
theorem wpOpIn_inRound {F : Fence} {n : Nat} {P : Program} {ops : Array Oper} {Q : Exit → Act → World → Prop} (l : Nat) (hro : F.round = none) (hnd : ∀ (i : Nat) (o : Oper), ops[i]? = some o → ∀ c : Call, o.op ≠ .defer c) {i : Nat} {K : Act → World → Prop} {a : Act} {w : World}
    (h : wpOpIn F n P ops Q i K a w) : wpOpIn (F.inRound l) n P ops Q i K a w := by
  unfold wpOpIn at *
  cases hi : ops[i]? with
  | none => simp only [hi] at h ⊢; exact h
  | some o =>
    simp only [hi] at h ⊢
    by_cases hw : Region.wanted o (yielded ops a.tmps) = true
    · rw [if_pos hw] at h ⊢
      unfold Oper.wpIn at *
      refine ⟨h.1, ?_⟩
      have h2 := h.2
      rw [Oper.semAt_eq _ _ _ (hnd i o hi)] at h2 ⊢
      exact uponIn_inRound F l n P o a K Q _ h2
    · rw [if_neg hw] at h ⊢
      exact h
theorem wpAnyIn_inRound {F : Fence} {n : Nat} {P : Program} {md : Region.Mode} {ops : Array Oper} {Q : Exit → Act → World → Prop} (l : Nat) (hro : F.round = none) (hnd : ∀ (i : Nat) (o : Oper), ops[i]? = some o → ∀ c : Call, o.op ≠ .defer c) :
    ∀ (fuel : Nat) (listed : Array Bool) (a : Act) (w : World), wpAnyIn F n P md ops Q fuel listed a w → wpAnyIn (F.inRound l) n P md ops Q fuel listed a w := by
  intro fuel
  induction fuel with
  | zero => intro listed a w h; exact h
  | succ fuel ih =>
    intro listed a w h
    exact ⟨h.1, fun i hi => wpOpIn_mono (fun a w h => ih _ a w h) (wpOpIn_inRound l hro hnd (h.2 i hi))⟩

/-- What is asked, and no panic. -/
def noPanic (Q : Exit → Act → World → Prop) (e : Exit) (a : Act) (w : World) : Prop :=
  match e with
  | .panic _ => False
  | e => Q e a w
theorem wpIn_noPanic {F : Fence} {n : Nat} {P : Program} {c : Code} {Q : Exit → Act → World → Prop} {a : Act} {w : World} (h : c.wpIn F n P (noPanic Q) a w) : c.wpIn F n P Q a w :=
  Code.wpIn_mono (Q := noPanic Q) (fun e a w hq => by cases e <;> first | exact hq | exact hq.elim) h
/-- A region that draws, in a round. -/
theorem wpIn_region_round {n : Nat} {P : Program} {id l : Nat} {ops : Array Oper} {Q : Exit → Act → World → Prop} {a : Act} {w : World} (hm : P.follows .mixedOrders = true) (hnd : ∀ (i : Nat) (o : Oper), ops[i]? = some o → ∀ c : Call, o.op ≠ .defer c)
    (h : wpAnyIn Fence.wide n P .any ops (noPanic Q) ops.size (Array.replicate ops.size false) a w.drew) : (Code.region id ops true).wpIn (Fence.wide.inRound l) n P Q a w :=
  wpIn_noPanic (wpIn_region_any hm (wpAnyIn_inRound l rfl hnd _ _ _ _ h))
theorem nodefer_of {ops : List Oper} (h : ∀ o : Oper, o ∈ ops → ∀ c : Call, o.op ≠ .defer c) : ∀ (i : Nat) (o : Oper), ops.toArray[i]? = some o → ∀ c : Call, o.op ≠ .defer c := fun i o hi => h o (by
  simp only [List.getElem?_toArray] at hi
  exact List.mem_of_getElem? hi)

end Go.Proofs.YtedhfimjcpbcpaaDoor

/-
  A range over a function that tells elements which lie in memory made between two rounds: the contract of such an iterator, and the statement over it, where no round leaves the loop. A drawn region inside a round, out of a walk outside of one. Conditions: as the theorems say.
-/
namespace Go.Proofs.YtedhfimjcpbcpaaDoor
open Go.RowKit
set_option linter.unusedVariables false

section
variable {F : Fence} {n : Nat} {P : Program}

end

/-- What an operation asks outside of a fence it asks inside the widest one. -/
theorem rowsIn_wide {n : Nat} {P : Program} {row : String} {args : Array Value} {w : World} {R : Value → World → Prop} (h : Rows P row args w R) : RowsIn Fence.wide n P row args w R := fun c cs _ =>
  let ⟨v, w', r, s⟩ := h c cs
  ⟨v, w', r, stepsIn_wide.2 s⟩
theorem operIn_of_oper {n : Nat} {P : Program} {o : Oper} {Q : Exit → Act → World → Prop} {K : Act → World → Prop} {a : Act} {w : World} (h : Oper.wp P o a w K Q) : Oper.wpIn Fence.wide n P o a w K Q := by
  unfold Oper.wp at h
  unfold Oper.wpIn
  refine ⟨fun _ _ => trivial, ?_⟩
  have e : (o.semAt Fence.wide.round a.eval).run P w = (execOp a.eval o).run P w := by
    unfold Oper.semAt Fence.wide
    rfl
  rw [e]
  generalize (execOp a.eval o).run P w = r at h
  cases r with
  | ok x w' =>
    cases x with
    | value v => exact h
    | skip => exact h
    | defer d => exact h
    | enter f args => exact ⟨fun q => (by cases q), callsIn_wide.2 h⟩
    | row r args => exact ⟨fun q => (by cases q), rowsIn_wide h⟩
    | _ => exact h.elim
  | halt x w' => cases x <;> exact h
theorem wpOpIn_of_wpOp {n : Nat} {P : Program} {ops : Array Oper} {Q : Exit → Act → World → Prop} {i : Nat} {K : Act → World → Prop} {a : Act} {w : World} (hnl : ¬ LetsOut Q)
    (h : wpOp P ops Q i K a w) : wpOpIn Fence.wide n P ops Q i K a w := by
  unfold wpOp at h
  unfold wpOpIn
  cases hi : ops[i]? with
  | none => simp only [hi] at h ⊢; exact h
  | some o =>
    simp only [hi] at h ⊢
    by_cases hw : Region.wanted o (yielded ops a.tmps) = true
    · rw [if_pos hw] at h ⊢
      exact operIn_of_oper (h.resolve_right (fun q => hnl q.2))
    · rw [if_neg hw] at h ⊢
      exact ⟨fun _ _ => trivial, h⟩
theorem wpAnyIn_of_wpAny {n : Nat} {P : Program} {md : Region.Mode} {ops : Array Oper} {Q : Exit → Act → World → Prop} (hnl : ¬ LetsOut Q) :
    ∀ (fuel : Nat) (listed : Array Bool) (a : Act) (w : World), wpAny P md ops Q fuel listed a w → wpAnyIn Fence.wide n P md ops Q fuel listed a w
  | 0, _, _, _, h => h
  | fuel + 1, listed, a, w, h => ⟨h.1, fun i hi => wpOpIn_mono (fun a w k => wpAnyIn_of_wpAny hnl fuel _ a w k) (wpOpIn_of_wpOp hnl (h.2 i hi))⟩
/-- A drawn region in a round, walked as outside of one. -/
theorem wpIn_region_late {n : Nat} {P : Program} {id l L : Nat} {ops : Array Oper} {S : World → Prop} {Q : Exit → Act → World → Prop} {a : Act} {w : World} (hm : P.follows .mixedOrders = true) (hnd : ∀ (i : Nat) (o : Oper), ops[i]? = some o → ∀ c : Call, o.op ≠ .defer c)
    (hnl : ¬ LetsOut (noPanic Q)) (hS : S w.drew) (h : S w.drew → wpLate P .any ops (noPanic Q) S L ops.size (Array.replicate ops.size false) a w.drew) : (Code.region id ops true).wpIn (Fence.wide.inRound l) n P Q a w :=
  wpIn_region_round hm hnd (wpAnyIn_of_wpAny hnl _ _ _ _ (late_any _ _ _ _ (h hS)))
end Go.Proofs.YtedhfimjcpbcpaaDoor
