/-
  Points and their bytes, as numbers of the field: which bytes are a point, and which one; the base. No program is spoken of here. Conditions: as each theorem says.
-/
import Derived.Test.YtkbiiolkekpkiaaDoorEdM
import Derived.Test.YtkbiiolkekpkiaaDoorOct
import Derived.Test.YtkbiiolkekpkiaaDoorFBkMath
namespace Go.Proofs.YtkbiiolkekpkiaaDoor.Ed
open Go.RowKit
set_option linter.unusedVariables false
set_option linter.unusedSimpArgs false

theorem evn_low (n : Nat) (h : n < P25) : evn n < P25 := by
  unfold evn
  split
  · exact lt_mod _
  · exact h
theorem rat_lt (U V : Nat) : ratN U V < P25 := by
  unfold ratN
  split
  · decide +kernel
  · unfold rootN
    split
    · exact evn_low _ (rt1_lt _)
    · split
      · exact evn_low _ (rt2_lt _)
      · decide +kernel
/-- A point's bytes. -/
def bytesOf (P : Pt) : List Nat := leB (P.y.val + (if P.x.val % 2 = 1 then 2 ^ 255 else 0)) 32
/-- What the document's ratio's root is. -/
theorem rat_spec (U V : Nat) (hU : U < P25) (hV : V < P25) (h : ratOk U V = true) : ratN U V * ratN U V % P25 * V % P25 = U ∧ ratN U V % 2 = 0 := by
  by_cases hv : V = 0 ∧ 0 < U
  · rw [(rat_no hv).1] at h
    cases h
  · obtain ⟨h1, h2⟩ := rat_of hv
    rw [h1] at h
    rw [h2]
    obtain ⟨s1, s2, s3⟩ := root_spec _ h
    refine ⟨?_, s2⟩
    by_cases hv0 : V = 0
    · have hU0 : U = 0 := by omega
      rw [hv0, hU0, Nat.mul_zero, Nat.zero_mod]
    · have hf := frac_back (U := U) (V := V) hU (by rw [Nat.mod_eq_of_lt hV]; exact hv0)
      rw [s1, hf]
theorem rat_spec_k (U V : Nat) (hU : U < P25) (hV : V < P25) (h : ratOk U V = true) : k (ratN U V) * k (ratN U V) * k V = k U := by
  rw [← k_mul, ← k_mod (ratN U V * ratN U V), ← k_mul, ← k_mod, (rat_spec U V hU hV h).1]
theorem val_lt (a : K) : a.val < P25 := a.isLt
/-- There is a root where there is one. -/
theorem rat_ok (U V : Nat) (hU : U < P25) (hV : V < P25) (hV0 : ¬ V = 0) (x : K) (h : x * x * k V = k U) :
    ratOk U V = true ∧ (ratN U V = x.val ∨ ratN U V = (P25 - x.val) % P25) := by
  have hk : ¬ k V = 0 := fun e => hV0 (by have := (k_nought V).1 e; rwa [Nat.mod_eq_of_lt hV] at this)
  obtain ⟨h1, h2⟩ := rat_of (U := U) (V := V) (fun e => hV0 e.1)
  have hf := frac_back (U := U) (V := V) hU (by rw [Nat.mod_eq_of_lt hV]; exact hV0)
  have hl : U * (V ^ (P25 - 2) % P25) % P25 < P25 := lt_mod _
  rw [h1, h2]
  generalize U * (V ^ (P25 - 2) % P25) % P25 = A at hf hl
  have e1 : k A * k V = x * x * k V := by rw [h, ← k_mul, ← k_mod, hf]
  have e2 : k A = x * x := by
    rcases no_div _ _ (two_eq _ _ _ e1) with e | e
    · exact minus_zero _ _ e
    · exact absurd e hk
  have e3 : A = x.val * x.val % P25 := by
    rw [← k_of x, ← k_mul] at e2
    have := (k_eq _ _).1 e2
    rwa [Nat.mod_eq_of_lt hl] at this
  have o := rootOk_sq x.val (val_lt x)
  rw [← e3] at o
  obtain ⟨s1, s2, s3⟩ := root_spec _ o
  exact ⟨o, sq_roots s3 (val_lt x) (s1.trans e3)⟩
/-- No point has a bottom of nought. -/
theorem quot_ne (y : K) : ¬ dd * (y * y) + 1 = 0 := by
  intro h
  have h1 : dd * (y * y) = k I25 * k I25 := by rw [i_sq]; exact minus_from _ _ h
  have h2 := no_square _ _ h1
  rw [h2] at h
  exact one_ne (by rw [← h]; exact (times_zero _).symm)
theorem uv_k (y a m U V : Nat) (q_a : y * y % P25 = a) (q_u : (a + P25 - 1) % P25 = U) (q_m : D25 * a % P25 = m) (q_v : (m + 1) % P25 = V) :
    k U = k y * k y - 1 ∧ k V = dd * (k y * k y) + 1 ∧ U < P25 ∧ V < P25 ∧ ¬ V = 0 := by
  have hP : 1 ≤ a + P25 := by have : 1 ≤ P25 := by decide +kernel
                              omega
  have ha : k a = k y * k y := by rw [← q_a, k_mod, k_mul]
  have h2 : k V = dd * (k y * k y) + 1 := by rw [← q_v, k_mod, k_add, ← q_m, k_mod, k_mul, ha, k_one]; rfl
  refine ⟨by rw [← q_u, k_sub _ _ hP, ha, k_one], h2, by rw [← q_u]; exact lt_mod _, by rw [← q_v]; exact lt_mod _, fun e => ?_⟩
  rw [e, k_zero] at h2
  exact quot_ne _ h2.symm
/-- What Of gives lies on the curve. -/
theorem of_on (y a m U V : Nat) (q_a : y * y % P25 = a) (q_u : (a + P25 - 1) % P25 = U) (q_m : D25 * a % P25 = m) (q_v : (m + 1) % P25 = V) (hok : ratOk U V = true) :
    On dd (k (ratN U V)) (k y) ∧ On dd (-k (ratN U V)) (k y) := by
  obtain ⟨h1, h2, h3, h4, h5⟩ := uv_k y a m U V q_a q_u q_m q_v
  have h := rat_spec_k U V h3 h4 hok
  exact ⟨on_from _ _ _ _ _ h1 h2 h, on_from _ _ _ _ _ h1 h2 (sq_neg _ _ _ h)⟩
/-- A point's second number has a root, and its root is the first number or its other sign, whichever is even. -/
theorem of_point (P : Pt) (a m U V : Nat) (q_a : P.y.val * P.y.val % P25 = a) (q_u : (a + P25 - 1) % P25 = U) (q_m : D25 * a % P25 = m) (q_v : (m + 1) % P25 = V) :
    ratOk U V = true ∧ (ratN U V = P.x.val ∨ ratN U V = (P25 - P.x.val) % P25) ∧ ratN U V % 2 = 0 := by
  obtain ⟨h1, h2, h3, h4, h5⟩ := uv_k P.y.val a m U V q_a q_u q_m q_v
  rw [k_of] at h1 h2
  have h := rat_ok U V h3 h4 h5 P.x (sq_from _ _ _ _ _ h1 h2 P.on)
  exact ⟨h.1, h.2, (rat_spec U V h3 h4 h.1).2⟩
/-- The sign says which. -/
theorem of_sign (n x : Nat) (hx : x < P25) (h : n = x ∨ n = (P25 - x) % P25) (he : n % 2 = 0) :
    (x % 2 = 0 → n = x) ∧ (x % 2 = 1 → ¬ n = 0 ∧ P25 - n = x) := by
  have hp := P25_odd
  have h0 : 0 < P25 := by decide +kernel
  generalize P25 = p at *
  rcases Nat.eq_zero_or_pos x with z | z
  · subst z
    rw [Nat.sub_zero, Nat.mod_self] at h
    exact ⟨fun _ => by omega, fun e => by omega⟩
  · rw [Nat.mod_eq_of_lt (show p - x < p by omega)] at h
    exact ⟨fun e => by omega, fun e => by omega⟩
theorem bb_le (N n : Nat) : Bb (leB N n) := fun j => by
  by_cases h : j < n
  · rw [leB_get N n j h]; omega
  · rw [getD_ge _ _ (by rw [leB_length]; omega)]; omega
theorem bb_turn (l : List Nat) (hf : Bb l) : Bb (turn l) := by
  intro j
  by_cases h : j < l.length
  · rw [turn_get l j h]; exact hf _
  · rw [List.getD_eq_getElem?_getD, List.getElem?_eq_none (by rw [turn_length]; omega)]; simp
theorem hv_be (N n : Nat) : ∀ t, t ≤ n → hvN (beB N n) t = N / 256 ^ (n - t) % 256 ^ t
  | 0, _ => by simp [hvN, Nat.mod_one]
  | t + 1, h => by
    have ih := hv_be N n t (by omega)
    rw [show hvN (beB N n) (t + 1) = hvN (beB N n) t * 256 + (beB N n).getD t 0 from rfl, ih, beB_get N n t (by omega), show n - t = (n - (t + 1)) + 1 by omega, Nat.pow_succ 256 (n - (t + 1)), ← Nat.div_div_eq_div_mul,
      show (2 : Nat) ^ (8 * (n - 1 - t)) = 256 ^ (n - (t + 1)) by rw [Nat.pow_mul]; congr 1; omega]
    generalize N / 256 ^ (n - (t + 1)) = M
    rw [Nat.pow_succ, Nat.mul_comm (256 ^ t) 256, Nat.mod_mul]
    omega
theorem hv_le (N : Nat) (h : N < 2 ^ 256) : hvN (turn (leB N 32)) 32 = N := by
  rw [turn_leB, hv_be _ _ _ (Nat.le_refl _), Nat.sub_self, Nat.pow_zero, Nat.div_one]
  exact Nat.mod_eq_of_lt (by rwa [show (256 : Nat) ^ 32 = 2 ^ 256 by decide +kernel])
theorem hv_digit (l : List Nat) (hb : Bb l) : ∀ t j, j < t → hvN l t / 256 ^ (t - 1 - j) % 256 = l.getD j 0
  | 0, j, h => by omega
  | t + 1, j, h => by
    have hd := hb t
    show (hvN l t * 256 + l.getD t 0) / 256 ^ (t + 1 - 1 - j) % 256 = l.getD j 0
    by_cases e : j = t
    · subst e
      rw [show j + 1 - 1 - j = 0 by omega, Nat.pow_zero, Nat.div_one]
      omega
    · have ih := hv_digit l hb t j (by omega)
      rw [show t + 1 - 1 - j = 1 + (t - 1 - j) by omega, Nat.pow_add, Nat.pow_one, ← Nat.div_div_eq_div_mul, show (hvN l t * 256 + l.getD t 0) / 256 = hvN l t by omega]
      exact ih
theorem le_hv (l : List Nat) (hb : Bb l) (hl : l.length = 32) : leB (hvN (turn l) 32) 32 = l := by
  refine list_of_getD _ _ (by rw [leB_length, hl]) (fun j hj => ?_)
  rw [leB_length] at hj
  have h := hv_digit (turn l) (bb_turn l hb) 32 (31 - j) (by omega)
  rw [turn_get l (31 - j) (by omega), hl, show 32 - 1 - (31 - j) = j by omega] at h
  rw [leB_get _ _ _ hj, Nat.pow_mul]
  exact h
theorem P25_top : P25 < 2 ^ 255 := by decide +kernel
theorem one_k : ¬ k 1 = 0 := fun e => one_ne (by rw [← k_one]; exact e)
theorem rp_one (n y : Nat) (P : Pt) (h1 : n = P.x.val) (h2 : y = P.y.val) : Rp n y 1 P := by
  subst h1
  subst h2
  refine ⟨val_lt _, val_lt _, by decide +kernel, one_k, ?_, ?_⟩
  · rw [k_of, k_one]; exact (times_one _).symm
  · rw [k_of, k_one]; exact (times_one _).symm
theorem bytes_length (P : Pt) : (bytesOf P).length = 32 := leB_length _ _
theorem bytes_bb (P : Pt) : Bb (bytesOf P) := bb_le _ _
theorem k_small (n : Nat) (h : n < P25) : (k n).val = n := Nat.mod_eq_of_lt h
def bX : Nat := 15112221349535400772501151409588531511454012693041857206046113283949847762202
def bY : Nat := 46316835694926478169428394003475163141307993866256225615783033603165251855960
theorem bX_lt : bX < P25 := by decide +kernel
theorem bY_lt : bY < P25 := by decide +kernel
theorem bX_even : bX % 2 = 0 := by decide +kernel
theorem base_nat : (bY * bY + P25 - bX * bX % P25) % P25 = (1 + D25 * (bX * bX) * (bY * bY)) % P25 := by decide +kernel
theorem minus_is (a b c : K) (h : a = c + b) : a - b = c := by rw [h]; exact (minus_plus c b (c + b) rfl).symm
theorem base_on : On dd (k bX) (k bY) := by
  unfold On
  have h : bY * bY % P25 = (1 + D25 * (bX * bX) * (bY * bY) + bX * bX) % P25 := by decide +kernel
  have h2 := (k_eq _ _).2 h
  rw [k_add, k_add, k_mul, k_mul, k_mul, k_mul, k_one] at h2
  simp only [k_mul] at h2
  exact minus_is _ _ _ h2
/-- The base. -/
noncomputable def baseP : Pt := ⟨k bX, k bY, base_on⟩
theorem base_bytes : bytesOf baseP = leB bY 32 := by
  unfold bytesOf baseP
  dsimp only
  rw [k_small _ bX_lt, k_small _ bY_lt, if_neg (by rw [bX_even]; decide), Nat.add_zero]
theorem bY_val (q : Nat) (hq : q = 5) : 4 * (q ^ (P25 - 2) % P25) % P25 = bY := by
  have h : q ^ (P25 - 2) % P25 = pm 255 q (P25 - 2) P25 % P25 := (pm_eq P25 255 q _ (by decide +kernel)).symm
  rw [h, hq]
  decide +kernel
end Go.Proofs.YtkbiiolkekpkiaaDoor.Ed
