/-
  The group law of an Edwards curve with -1, in any commutative ring: the sum lies on the curve, its parts are never by nought, it may be put together in either order and in either way. No program is spoken of here. Conditions: as each theorem says.
-/
import Derived.Test.YtkbiiolkekpkiaaDoorNT
namespace Go.Proofs.YtkbiiolkekpkiaaDoor.Ed
set_option linter.unusedVariables false

section
variable {m0 : Nat} [NeZero m0]
/-- A pair on the curve. -/
def On (d x y : (Fin m0)) : Prop := y*y - x*x = 1 + d*(x*x)*(y*y)

theorem assoc_x (d x1 y1 x2 y2 x3 y3 : (Fin m0)) (h1 : On d x1 y1) (h2 : On d x2 y2) (h3 : On d x3 y3) :
    ((x1*y2 + y1*x2)*(1 - d*x1*x2*y1*y2)*y3 + (y1*y2 + x1*x2)*(1 + d*x1*x2*y1*y2)*x3) * ((1 + d*x2*x3*y2*y3)*(1 - d*x2*x3*y2*y3) + d*x1*y1*(x2*y3 + y2*x3)*(y2*y3 + x2*x3))
    = (x1*(y2*y3 + x2*x3)*(1 + d*x2*x3*y2*y3) + y1*(x2*y3 + y2*x3)*(1 - d*x2*x3*y2*y3)) * ((1 + d*x1*x2*y1*y2)*(1 - d*x1*x2*y1*y2) + d*(x1*y2 + y1*x2)*(y1*y2 + x1*x2)*x3*y3) := by
  unfold On at *
  grind
theorem assoc_y (d x1 y1 x2 y2 x3 y3 : (Fin m0)) (h1 : On d x1 y1) (h2 : On d x2 y2) (h3 : On d x3 y3) :
    ((y1*y2 + x1*x2)*(1 + d*x1*x2*y1*y2)*y3 + (x1*y2 + y1*x2)*(1 - d*x1*x2*y1*y2)*x3) * ((1 + d*x2*x3*y2*y3)*(1 - d*x2*x3*y2*y3) - d*x1*y1*(x2*y3 + y2*x3)*(y2*y3 + x2*x3))
    = (y1*(y2*y3 + x2*x3)*(1 + d*x2*x3*y2*y3) + x1*(x2*y3 + y2*x3)*(1 - d*x2*x3*y2*y3)) * ((1 + d*x1*x2*y1*y2)*(1 - d*x1*x2*y1*y2) - d*(x1*y2 + y1*x2)*(y1*y2 + x1*x2)*x3*y3) := by
  unfold On at *
  grind
/-- The sum lies on the curve. -/
theorem sum_on (d x1 y1 x2 y2 u v : (Fin m0)) (h1 : On d x1 y1) (h2 : On d x2 y2) (hu : (1 + d*x1*x2*y1*y2)*u = 1) (hv : (1 - d*x1*x2*y1*y2)*v = 1) :
    On d ((x1*y2 + y1*x2)*u) ((y1*y2 + x1*x2)*v) := by
  unfold On at *
  have key : (y1*y2 + x1*x2)*(y1*y2 + x1*x2)*((1 + d*x1*x2*y1*y2)*(1 + d*x1*x2*y1*y2)) - (x1*y2 + y1*x2)*(x1*y2 + y1*x2)*((1 - d*x1*x2*y1*y2)*(1 - d*x1*x2*y1*y2))
     = ((1 + d*x1*x2*y1*y2)*(1 - d*x1*x2*y1*y2))*((1 + d*x1*x2*y1*y2)*(1 - d*x1*x2*y1*y2)) + d*((x1*y2 + y1*x2)*(x1*y2 + y1*x2))*((y1*y2 + x1*x2)*(y1*y2 + x1*x2)) := by grind
  clear h1 h2
  generalize 1 + d*x1*x2*y1*y2 = p at *
  generalize 1 - d*x1*x2*y1*y2 = m at *
  generalize x1*y2 + y1*x2 = a at *
  generalize y1*y2 + x1*x2 = b at *
  have q1 : (p*u)*(p*u) = 1 := by rw [hu]; grind
  have q2 : (m*v)*(m*v) = 1 := by rw [hv]; grind
  have e1 : b*v*(b*v) = b*b*(p*p)*(u*u*(v*v)) := by grind
  have e2 : a*u*(a*u) = a*a*(m*m)*(u*u*(v*v)) := by grind
  have e3 : (p*m)*(p*m)*(u*u*(v*v)) = 1 := by grind
  grind
/-- Neither part of a sum is by nought, where d is no square and -1 is one. -/
theorem complete (d i : (Fin m0)) (hz : ∀ a b : (Fin m0), a*b = 0 → a = 0 ∨ b = 0) (h2 : ∀ a : (Fin m0), a + a = 0 → a = 0) (h1' : ¬ (1:(Fin m0)) = 0) (hi : i*i = -1) (hd : ∀ s t : (Fin m0), d*(t*t) = s*s → t = 0)
    (x1 y1 x2 y2 : (Fin m0)) (o1 : On d x1 y1) (o2 : On d x2 y2) : ¬ (d*x1*x2*y1*y2)*(d*x1*x2*y1*y2) = 1 := by
  intro he
  obtain ⟨e, hee⟩ : ∃ e, e = d*x1*x2*y1*y2 := ⟨_, rfl⟩
  rw [← hee] at he
  unfold On at o1 o2
  have k1 : d*((x1*y1*(i*x2 + y2))*(x1*y1*(i*x2 + y2))) = (i*x1 + e*y1)*(i*x1 + e*y1) := by grind
  have k2 : d*((x1*y1*(y2 - i*x2))*(x1*y1*(y2 - i*x2))) = (e*y1 - i*x1)*(e*y1 - i*x1) := by grind
  have t1 := hd _ _ k1
  have t2 := hd _ _ k2
  clear k1 k2
  rcases hz _ _ t1 with h | h
  · have : e = 0 := by rw [hee]; grind
    rw [this] at he
    exact h1' (by grind)
  rcases hz _ _ t2 with h' | h'
  · have : e = 0 := by rw [hee]; grind
    rw [this] at he
    exact h1' (by grind)
  have hy : y2 = 0 := h2 _ (by grind)
  have hx : x2 = 0 := by
    have : i*x2 = 0 := by grind
    have : (i*i)*x2 = 0 := by grind
    grind
  rw [hx, hy] at o2
  exact h1' (by grind)
theorem frac_same (n1 d1 n2 d2 w1 w2 : (Fin m0)) (h : n1*d2 = n2*d1) (h1 : d1*w1 = 1) (h2 : d2*w2 = 1) : n1*w1 = n2*w2 := by
  have e1 : n1*w1 = (n1*d2)*(w1*w2) := by grind
  have e2 : n2*w2 = (n2*d1)*(w1*w2) := by grind
  rw [e1, e2, h]
theorem frac_left (a b p m x3 y3 d u v : (Fin m0)) (hu : p*u = 1) (hv : m*v = 1) :
    (a*u)*y3 + (b*v)*x3 = (a*m*y3 + b*p*x3)*(u*v) ∧ 1 + d*(a*u)*x3*(b*v)*y3 = (p*m + d*a*b*x3*y3)*(u*v) ∧ 1 - d*(a*u)*x3*(b*v)*y3 = (p*m - d*a*b*x3*y3)*(u*v) ∧ (b*v)*y3 + (a*u)*x3 = (b*p*y3 + a*m*x3)*(u*v) := by
  have h : (p*u)*(m*v) = 1 := by rw [hu, hv]; grind
  refine ⟨?_, ?_, ?_, ?_⟩ <;> grind
theorem frac_right (A B P M x1 y1 d u v : (Fin m0)) (hu : P*u = 1) (hv : M*v = 1) :
    x1*(B*v) + y1*(A*u) = (x1*B*P + y1*A*M)*(u*v) ∧ 1 + d*x1*(A*u)*y1*(B*v) = (P*M + d*x1*y1*A*B)*(u*v) ∧ 1 - d*x1*(A*u)*y1*(B*v) = (P*M - d*x1*y1*A*B)*(u*v) ∧ y1*(B*v) + x1*(A*u) = (y1*B*P + x1*A*M)*(u*v) := by
  have h : (P*u)*(M*v) = 1 := by rw [hu, hv]; grind
  refine ⟨?_, ?_, ?_, ?_⟩ <;> grind
theorem one_plus (a b c : (Fin m0)) : 1 + a*b*0*c*1 = 1 := by grind
theorem one_minus (a b c : (Fin m0)) : 1 - a*b*0*c*1 = 1 := by grind
theorem one_zero (a b : (Fin m0)) : (a*1 + b*0)*1 = a := by grind
theorem minus_from (a b : (Fin m0)) (h : a + b = 0) : a = -b := by grind
/-- What the sum's parts, brought over one number, stand for. -/
theorem over_one (d x1 y1 x2 y2 Z1 Z2 u v : (Fin m0)) (hu : (1 + d*x1*x2*y1*y2)*u = 1) (hv : (1 - d*x1*x2*y1*y2)*v = 1) :
    (((Z1*Z2)*((x1*Z1)*(y2*Z2) + (y1*Z1)*(x2*Z2)))*((Z1*Z2)*(Z1*Z2) - d*(((x1*Z1)*(x2*Z2))*((y1*Z1)*(y2*Z2)))) = ((x1*y2 + y1*x2)*u)*(((Z1*Z2)*(Z1*Z2) - d*(((x1*Z1)*(x2*Z2))*((y1*Z1)*(y2*Z2))))*((Z1*Z2)*(Z1*Z2) + d*(((x1*Z1)*(x2*Z2))*((y1*Z1)*(y2*Z2))))))
    ∧ (((Z1*Z2)*((y1*Z1)*(y2*Z2) + (x1*Z1)*(x2*Z2)))*((Z1*Z2)*(Z1*Z2) + d*(((x1*Z1)*(x2*Z2))*((y1*Z1)*(y2*Z2)))) = ((y1*y2 + x1*x2)*v)*(((Z1*Z2)*(Z1*Z2) - d*(((x1*Z1)*(x2*Z2))*((y1*Z1)*(y2*Z2))))*((Z1*Z2)*(Z1*Z2) + d*(((x1*Z1)*(x2*Z2))*((y1*Z1)*(y2*Z2)))))) := by
  have e : d*(((x1*Z1)*(x2*Z2))*((y1*Z1)*(y2*Z2))) = (d*x1*x2*y1*y2)*((Z1*Z2)*(Z1*Z2)) := by grind
  rw [e]
  generalize d*x1*x2*y1*y2 = D at *
  generalize hz : Z1*Z2 = z
  have c1 : (x1*Z1)*(y2*Z2) + (y1*Z1)*(x2*Z2) = (x1*y2 + y1*x2)*z := by rw [← hz]; grind
  have c2 : (y1*Z1)*(y2*Z2) + (x1*Z1)*(x2*Z2) = (y1*y2 + x1*x2)*z := by rw [← hz]; grind
  rw [c1, c2]
  generalize x1*y2 + y1*x2 = a
  generalize y1*y2 + x1*x2 = b
  constructor
  · have : ∀ t : (Fin m0), t = t*((1 + D)*u) := fun t => by rw [hu]; grind
    rw [this (z*(a*z)*(z*z - D*(z*z)))]
    grind
  · have : ∀ t : (Fin m0), t = t*((1 - D)*v) := fun t => by rw [hv]; grind
    rw [this (z*(b*z)*(z*z + D*(z*z)))]
    grind
theorem over_den (d x1 y1 x2 y2 Z1 Z2 : (Fin m0)) : ((Z1*Z2)*(Z1*Z2) - d*(((x1*Z1)*(x2*Z2))*((y1*Z1)*(y2*Z2))))*((Z1*Z2)*(Z1*Z2) + d*(((x1*Z1)*(x2*Z2))*((y1*Z1)*(y2*Z2)))) = (((Z1*Z2)*(Z1*Z2))*((Z1*Z2)*(Z1*Z2)))*((1 - d*x1*x2*y1*y2)*(1 + d*x1*x2*y1*y2)) := by grind
theorem zero_minus (a b : (Fin m0)) : 0 - a*b = (-a)*b := by grind
theorem zero_times (a : (Fin m0)) : 0*a = 0 := by grind
theorem one_times (a : (Fin m0)) : 1*a = a := by grind
theorem factor_zero (x y a b : (Fin m0)) (h : x*a*b = y*b*a) : (x - y)*(a*b) = 0 := by grind
theorem minus_zero (x y : (Fin m0)) (h : x - y = 0) : x = y := by grind
theorem swap_zs (y a b : (Fin m0)) : y*a*b = y*b*a := by grind
theorem assoc_k (a b c : (Fin m0)) : a*b*c = a*(b*c) := by grind
theorem times_one (a : (Fin m0)) : a*1 = a := by grind
theorem times_zero (a : (Fin m0)) : a*(0*0) + 1 = 1 := by grind
theorem on_from (d x y u v : (Fin m0)) (hu : u = y*y - 1) (hv : v = d*(y*y) + 1) (h : x*x*v = u) : On d x y := by unfold On; grind
theorem sq_from (d x y u v : (Fin m0)) (hu : u = y*y - 1) (hv : v = d*(y*y) + 1) (h : On d x y) : x*x*v = u := by unfold On at h; grind
theorem sq_neg (x v u : (Fin m0)) (h : x*x*v = u) : (-x)*(-x)*v = u := by grind
theorem two_eq (a b c : (Fin m0)) (h : a*c = b*c) : (a - b)*c = 0 := by grind
theorem from_zero (x : (Fin m0)) : 0 - x = -x := by grind
theorem minus_plus (a b c : (Fin m0)) (h : a + b = c) : a = c - b := by grind
theorem cross (n1 d1 n2 d2 c1 c2 : (Fin m0)) (h : n1*d2 = n2*d1) : (n1*c1)*(d2*c2) = (n2*c2)*(d1*c1) := by grind
end

end Go.Proofs.YtkbiiolkekpkiaaDoor.Ed

/-
  The numbers modulo 2^255 - 19 as a field; the curve's d is no square; points of the curve add up as in a group. No program is spoken of here. Conditions: as each theorem says.
-/
namespace Go.Proofs.YtkbiiolkekpkiaaDoor.Ed
set_option linter.unusedVariables false

instance : NeZero P25 := ⟨by decide +kernel⟩
/-- The numbers modulo 2^255 - 19. -/
abbrev K := Fin P25
/-- A natural as such a number. -/
def k (n : Nat) : K := Fin.ofNat P25 n
theorem k_val (n : Nat) : (k n).val = n % P25 := rfl
theorem k_eq (a b : Nat) : k a = k b ↔ a % P25 = b % P25 := by
  rw [Fin.ext_iff, k_val, k_val]
theorem k_of (a : K) : k a.val = a := Fin.ext (Nat.mod_eq_of_lt a.isLt)
theorem k_mod (a : Nat) : k (a % P25) = k a := (k_eq _ _).2 (Nat.mod_mod _ _)
theorem k_add (a b : Nat) : k (a + b) = k a + k b := by
  apply Fin.ext
  rw [Fin.val_add, k_val, k_val, k_val, ← Nat.add_mod]
theorem k_mul (a b : Nat) : k (a * b) = k a * k b := by
  apply Fin.ext
  rw [Fin.val_mul, k_val, k_val, k_val, ← Nat.mul_mod]
theorem k_zero : k 0 = 0 := rfl
theorem k_one : k 1 = 1 := rfl
theorem k_nought (a : Nat) : k a = 0 ↔ a % P25 = 0 := by
  rw [← k_zero, k_eq, Nat.zero_mod]
theorem k_P : k P25 = 0 := (k_nought _).2 (Nat.mod_self _)
theorem val_nought (a : K) : a.val % P25 = 0 ↔ a = 0 := by
  rw [← k_nought, k_of]

theorem no_div (a b : K) (h : a * b = 0) : a = 0 ∨ b = 0 := by
  have h1 : a.val * b.val % P25 = 0 := by rw [← k_nought, k_mul, k_of, k_of]; exact h
  rcases Nat.eq_zero_or_pos (a.val % P25) with e | e
  · exact Or.inl ((val_nought a).1 e)
  rcases Nat.eq_zero_or_pos (b.val % P25) with e' | e'
  · exact Or.inr ((val_nought b).1 e')
  exact absurd h1 (Pr.mul_ne P25_prime (by omega) (by omega))
theorem odd_twice (n p : Nat) (hp : p % 2 = 1) (hn : n < p) (h : (n + n) % p = 0) : n = 0 := by
  obtain ⟨c, hc⟩ := Nat.dvd_of_mod_eq_zero h
  have hc2 : c < 2 := by
    rcases Nat.lt_or_ge c 2 with q | q
    · exact q
    · have := Nat.mul_le_mul_left p q
      omega
  rcases (show c = 0 ∨ c = 1 by omega) with rfl | rfl
  · omega
  · omega
theorem P25_odd : P25 % 2 = 1 := by decide +kernel
theorem no_two (a : K) (h : a + a = 0) : a = 0 := by
  have h1 : (a.val + a.val) % P25 = 0 := by rw [← k_nought, k_add, k_of]; exact h
  refine (val_nought a).1 ?_
  rw [odd_twice a.val P25 P25_odd a.isLt h1]
  exact Nat.zero_mod _
theorem one_ne : ¬ (1 : K) = 0 := by
  rw [← k_one, k_nought]
  decide +kernel
theorem i_sq : k I25 * k I25 = -1 := by
  refine minus_from _ _ ?_
  rw [← k_one, ← k_mul, ← k_add, k_nought, Nat.add_mod, I25_sq]
  decide +kernel

/-- The curve's number: -121665 by 121666. -/
def D25 : Nat := 37095705934669439343138083508754565189542113879843219016388785533085940283555
theorem D25_is : D25 * 121666 % P25 = P25 - 121665 := by decide +kernel
def halfP : Nat := (P25 - 1) / 2
theorem halfP_two : 2 * halfP = P25 - 1 := by decide +kernel
theorem D25_no : D25 ^ halfP % P25 = P25 - 1 := (pm_eq P25 255 D25 halfP (by decide +kernel)).symm.trans (by decide +kernel)
theorem even_pow (t : Nat) (h : t % P25 ≠ 0) (e : Nat) (he : 2 * e = P25 - 1) : (t * t) ^ e % P25 = 1 := by
  rw [← Nat.pow_two, ← Nat.pow_mul, he]
  exact fermat P25_prime h
theorem even_none (t e : Nat) (h : t % P25 = 0) (he : 0 < e) : (t * t) ^ e % P25 = 0 := by
  obtain ⟨f, rfl⟩ : ∃ f, e = f + 1 := ⟨e - 1, by omega⟩
  rw [Nat.pow_succ, Nat.mul_mod, Nat.mul_mod t t, h]
  simp
theorem half_pos : 0 < halfP := by decide +kernel
theorem no_square (s t : K) (h : k D25 * (t * t) = s * s) : t = 0 := by
  rcases Nat.eq_zero_or_pos (t.val % P25) with e0 | e0
  · exact (val_nought t).1 e0
  exfalso
  have h1 : (D25 * (t.val * t.val)) % P25 = (s.val * s.val) % P25 := by
    rw [← k_eq, k_mul, k_mul, k_mul, k_of, k_of]; exact h
  obtain ⟨e, he⟩ : ∃ e, halfP = e := ⟨_, rfl⟩
  have e2 := halfP_two
  have ep := half_pos
  have hD := D25_no
  rw [he] at e2 ep hD
  have h2 : (D25 * (t.val * t.val)) ^ e % P25 = (s.val * s.val) ^ e % P25 := by rw [Nat.pow_mod, h1, ← Nat.pow_mod]
  rw [Nat.mul_pow, Nat.mul_mod, hD, even_pow t.val (by omega) e e2] at h2
  rcases Nat.eq_zero_or_pos (s.val % P25) with q | q
  · rw [even_none s.val e q ep] at h2
    exact absurd h2 (by decide +kernel)
  · rw [even_pow s.val (by omega) e e2] at h2
    exact absurd h2 (by decide +kernel)

theorem has_inv (a : K) (h : ¬ a = 0) : ∃ b : K, a * b = 1 := by
  obtain ⟨e, he⟩ : ∃ e, e + 1 = P25 - 1 := ⟨P25 - 2, by decide +kernel⟩
  refine ⟨k (a.val ^ e), ?_⟩
  have h1 : a.val ^ (e + 1) % P25 = 1 := by
    rw [he]
    exact fermat P25_prime (fun q => h ((val_nought a).1 q))
  rw [Nat.pow_succ, Nat.mul_comm] at h1
  have : k (a.val * a.val ^ e) = k 1 := (k_eq _ _).2 (by rw [h1]; decide +kernel)
  rw [k_mul, k_of] at this
  exact this
open Classical in
/-- What a number is 1 by. -/
noncomputable def inv (a : K) : K := if h : ∃ b : K, a * b = 1 then Classical.choose h else 0
theorem inv_mul (a : K) (h : ¬ a = 0) : a * inv a = 1 := by
  have hx := has_inv a h
  unfold inv
  rw [dif_pos hx]
  exact Classical.choose_spec hx
theorem inv_of (a b : K) (h : a * b = 1) : b = inv a := by
  have hn : ¬ a = 0 := fun e => by
    rw [e] at h
    exact one_ne (by grind)
  have hi := inv_mul a hn
  grind

/-- The curve's number in the field. -/
noncomputable def dd : K := k D25
theorem sq_not (x1 y1 x2 y2 : K) (o1 : On dd x1 y1) (o2 : On dd x2 y2) : ¬ (dd*x1*x2*y1*y2)*(dd*x1*x2*y1*y2) = 1 :=
  complete dd (k I25) no_div no_two one_ne i_sq no_square x1 y1 x2 y2 o1 o2
theorem plus_ne (x1 y1 x2 y2 : K) (o1 : On dd x1 y1) (o2 : On dd x2 y2) : ¬ 1 + dd*x1*x2*y1*y2 = 0 := fun h => sq_not x1 y1 x2 y2 o1 o2 (by grind)
theorem minus_ne (x1 y1 x2 y2 : K) (o1 : On dd x1 y1) (o2 : On dd x2 y2) : ¬ 1 - dd*x1*x2*y1*y2 = 0 := fun h => sq_not x1 y1 x2 y2 o1 o2 (by grind)

/-- A point of the curve. -/
structure Pt where
  x : K
  y : K
  on : On dd x y
theorem Pt.ext {p q : Pt} (hx : p.x = q.x) (hy : p.y = q.y) : p = q := by
  cases p; cases q; cases hx; cases hy; rfl
noncomputable def Pt.add (p q : Pt) : Pt where
  x := (p.x*q.y + p.y*q.x) * inv (1 + dd*p.x*q.x*p.y*q.y)
  y := (p.y*q.y + p.x*q.x) * inv (1 - dd*p.x*q.x*p.y*q.y)
  on := sum_on dd p.x p.y q.x q.y _ _ p.on q.on (inv_mul _ (plus_ne _ _ _ _ p.on q.on)) (inv_mul _ (minus_ne _ _ _ _ p.on q.on))
def Pt.zero : Pt := ⟨0, 1, by unfold On; grind⟩
def Pt.neg (p : Pt) : Pt := ⟨-p.x, p.y, by have h := p.on; unfold On at *; grind⟩
theorem Pt.add_comm (p q : Pt) : p.add q = q.add p := by
  have e1 : p.x*q.y + p.y*q.x = q.x*p.y + q.y*p.x := by grind
  have e2 : dd*p.x*q.x*p.y*q.y = dd*q.x*p.x*q.y*p.y := by grind
  have e3 : p.y*q.y + p.x*q.x = q.y*p.y + q.x*p.x := by grind
  exact Pt.ext (by show (_ : K) * _ = _ * _; rw [e1, e2]) (by show (_ : K) * _ = _ * _; rw [e3, e2])
theorem inv_one : inv 1 = 1 := (inv_of 1 1 (by grind)).symm
theorem Pt.add_zero (p : Pt) : p.add Pt.zero = p := by
  refine Pt.ext ?_ ?_
  · show (p.x*1 + p.y*0) * inv (1 + dd*p.x*0*p.y*1) = p.x
    rw [one_plus, inv_one]
    exact one_zero _ _
  · show (p.y*1 + p.x*0) * inv (1 - dd*p.x*0*p.y*1) = p.y
    rw [one_minus, inv_one]
    exact one_zero _ _
theorem Pt.add_neg (p : Pt) : p.add p.neg = Pt.zero := by
  have h := p.on
  refine Pt.ext ?_ ?_
  · show (p.x*p.y + p.y*(-p.x)) * inv (1 + dd*p.x*(-p.x)*p.y*p.y) = 0
    rw [show p.x*p.y + p.y*(-p.x) = (0 : K) by grind]; grind
  · show (p.y*p.y + p.x*(-p.x)) * inv (1 - dd*p.x*(-p.x)*p.y*p.y) = 1
    unfold On at h
    have hn := minus_ne p.x p.y (-p.x) p.y p.on (by have h := p.on; unfold On at *; grind)
    have hi := inv_mul _ hn
    have e : p.y*p.y + p.x*(-p.x) = 1 - dd*p.x*(-p.x)*p.y*p.y := by grind
    rw [e]; exact hi
theorem Pt.add_assoc (p q r : Pt) : (p.add q).add r = p.add (q.add r) := by
  have hu := inv_mul _ (plus_ne _ _ _ _ p.on q.on)
  have hv := inv_mul _ (minus_ne _ _ _ _ p.on q.on)
  have hU := inv_mul _ (plus_ne _ _ _ _ q.on r.on)
  have hV := inv_mul _ (minus_ne _ _ _ _ q.on r.on)
  have h1 := inv_mul _ (plus_ne _ _ _ _ (p.add q).on r.on)
  have h2 := inv_mul _ (minus_ne _ _ _ _ (p.add q).on r.on)
  have h3 := inv_mul _ (plus_ne _ _ _ _ p.on (q.add r).on)
  have h4 := inv_mul _ (minus_ne _ _ _ _ p.on (q.add r).on)
  have ax := assoc_x dd p.x p.y q.x q.y r.x r.y p.on q.on r.on
  have ay := assoc_y dd p.x p.y q.x q.y r.x r.y p.on q.on r.on
  have ex : ∀ a b : Pt, (a.add b).x = (a.x*b.y + a.y*b.x) * inv (1 + dd*a.x*b.x*a.y*b.y) := fun _ _ => rfl
  have ey : ∀ a b : Pt, (a.add b).y = (a.y*b.y + a.x*b.x) * inv (1 - dd*a.x*b.x*a.y*b.y) := fun _ _ => rfl
  obtain ⟨l1, l2, l3, l4⟩ := frac_left (p.x*q.y + p.y*q.x) (p.y*q.y + p.x*q.x) _ _ r.x r.y dd _ _ hu hv
  obtain ⟨r1, r2, r3, r4⟩ := frac_right (q.x*r.y + q.y*r.x) (q.y*r.y + q.x*r.x) _ _ p.x p.y dd _ _ hU hV
  refine Pt.ext ?_ ?_
  · rw [ex (p.add q) r, ex p (q.add r)]
    refine frac_same _ _ _ _ _ _ ?_ h1 h3
    rw [ex p q, ey p q, ex q r, ey q r, l1, l2, r1, r2]
    exact cross _ _ _ _ _ _ ax
  · rw [ey (p.add q) r, ey p (q.add r)]
    refine frac_same _ _ _ _ _ _ ?_ h2 h4
    rw [ex p q, ey p q, ex q r, ey q r, l4, l3, r4, r3]
    exact cross _ _ _ _ _ _ ay

/-- X by Z, Y by Z is the point. -/
def Rp (X Y Z : Nat) (p : Pt) : Prop := X < P25 ∧ Y < P25 ∧ Z < P25 ∧ ¬ k Z = 0 ∧ k X = p.x * k Z ∧ k Y = p.y * k Z
theorem k_sub (a b : Nat) (h : b ≤ a + P25) : k ((a + P25 - b) % P25) = k a - k b := by
  refine minus_plus _ _ _ ?_
  rw [k_mod, ← k_add, show a + P25 - b + b = a + P25 by omega, k_add, k_P]
  grind
theorem lt_mod (a : Nat) : a % P25 < P25 := Nat.mod_lt _ (by decide +kernel)
theorem mul_ne (a b : K) (ha : ¬ a = 0) (hb : ¬ b = 0) : ¬ a * b = 0 := fun h => (no_div a b h).elim ha hb
theorem rp_add (X1 Y1 Z1 X2 Y2 Z2 z zz xx yy s e m p c1 c2 c f X3 ga ha Y3 Z3 : Nat) (P Q : Pt) (hP : Rp X1 Y1 Z1 P) (hQ : Rp X2 Y2 Z2 Q)
    (q_z : Z1 * Z2 % P25 = z) (q_zz : z * z % P25 = zz) (q_xx : X1 * X2 % P25 = xx) (q_yy : Y1 * Y2 % P25 = yy) (q_s : xx * yy % P25 = s) (q_e : D25 * s % P25 = e) (q_m : (zz + P25 - e) % P25 = m) (q_p : (zz + e) % P25 = p) (q_c1 : X1 * Y2 % P25 = c1) (q_c2 : Y1 * X2 % P25 = c2) (q_c : (c1 + c2) % P25 = c) (q_f : z * c % P25 = f) (q_X3 : f * m % P25 = X3) (q_ga : (yy + xx) % P25 = ga) (q_ha : z * ga % P25 = ha) (q_Y3 : ha * p % P25 = Y3) (q_Z3 : m * p % P25 = Z3) :
    Rp X3 Y3 Z3 (P.add Q) := by
  obtain ⟨-, -, -, z1, x1, y1⟩ := hP
  obtain ⟨-, -, -, z2, x2, y2⟩ := hQ
  have he : e ≤ zz + P25 := by
    have := lt_mod (D25 * s)
    omega
  have kz : k z = k Z1 * k Z2 := by rw [← q_z, k_mod, k_mul]
  have kzz : k zz = (k Z1 * k Z2) * (k Z1 * k Z2) := by rw [← q_zz, k_mod, k_mul, kz]
  have kxx : k xx = (P.x * k Z1) * (Q.x * k Z2) := by rw [← q_xx, k_mod, k_mul, x1, x2]
  have kyy : k yy = (P.y * k Z1) * (Q.y * k Z2) := by rw [← q_yy, k_mod, k_mul, y1, y2]
  have ke : k e = dd * (((P.x * k Z1) * (Q.x * k Z2)) * ((P.y * k Z1) * (Q.y * k Z2))) := by rw [← q_e, k_mod, k_mul, ← q_s, k_mod, k_mul, kxx, kyy]; rfl
  have km : k m = (k Z1 * k Z2) * (k Z1 * k Z2) - dd * (((P.x * k Z1) * (Q.x * k Z2)) * ((P.y * k Z1) * (Q.y * k Z2))) := by rw [← q_m, k_sub _ _ he, kzz, ke]
  have kp : k p = (k Z1 * k Z2) * (k Z1 * k Z2) + dd * (((P.x * k Z1) * (Q.x * k Z2)) * ((P.y * k Z1) * (Q.y * k Z2))) := by rw [← q_p, k_mod, k_add, kzz, ke]
  have kc : k c = (P.x * k Z1) * (Q.y * k Z2) + (P.y * k Z1) * (Q.x * k Z2) := by rw [← q_c, k_mod, k_add, ← q_c1, ← q_c2, k_mod, k_mod, k_mul, k_mul, x1, x2, y1, y2]
  have kga : k ga = (P.y * k Z1) * (Q.y * k Z2) + (P.x * k Z1) * (Q.x * k Z2) := by rw [← q_ga, k_mod, k_add, kxx, kyy]
  have kX : k X3 = ((k Z1 * k Z2) * k c) * k m := by rw [← q_X3, k_mod, k_mul, ← q_f, k_mod, k_mul, kz]
  have kY : k Y3 = ((k Z1 * k Z2) * k ga) * k p := by rw [← q_Y3, k_mod, k_mul, ← q_ha, k_mod, k_mul, kz]
  have kZ : k Z3 = k m * k p := by rw [← q_Z3, k_mod, k_mul]
  have hp := plus_ne _ _ _ _ P.on Q.on
  have hm := minus_ne _ _ _ _ P.on Q.on
  obtain ⟨r1, r2⟩ := over_one dd P.x P.y Q.x Q.y (k Z1) (k Z2) _ _ (inv_mul _ hp) (inv_mul _ hm)
  refine ⟨by rw [← q_X3]; exact lt_mod _, by rw [← q_Y3]; exact lt_mod _, by rw [← q_Z3]; exact lt_mod _, ?_, ?_, ?_⟩
  · rw [kZ, km, kp, over_den]
    exact mul_ne _ _ (mul_ne _ _ (mul_ne _ _ (mul_ne _ _ z1 z2) (mul_ne _ _ z1 z2)) (mul_ne _ _ (mul_ne _ _ z1 z2) (mul_ne _ _ z1 z2))) (mul_ne _ _ hm hp)
  · rw [kZ, kX, km, kp, kc]
    exact r1
  · rw [kZ, kY, km, kp, kga]
    exact r2
theorem rp_neg (X Y Z : Nat) (P : Pt) (h : Rp X Y Z P) : Rp ((0 + P25 - X) % P25) Y Z P.neg := by
  obtain ⟨l1, l2, l3, hz, hx, hy⟩ := h
  refine ⟨lt_mod _, l2, l3, hz, ?_, hy⟩
  rw [k_sub 0 X (by omega), hx, k_zero]
  show (0 : K) - P.x * k Z = -P.x * k Z
  exact zero_minus _ _
theorem rp_zero : Rp 0 1 1 Pt.zero := by
  refine ⟨by decide +kernel, by decide +kernel, by decide +kernel, by rw [k_one]; exact one_ne, ?_, ?_⟩
  · show k 0 = 0 * k 1
    rw [k_zero, k_one]; exact (zero_times _).symm
  · show k 1 = 1 * k 1
    exact (one_times _).symm
end Go.Proofs.YtkbiiolkekpkiaaDoor.Ed

/-
  Points of the curve as four numbers of the field (the third not nought; the first, second and fourth are x, y and x by y, by the third): what sums and doubles are, whichever way they are reckoned. No program is spoken of here. Conditions: as each theorem says.
-/
namespace Go.Proofs.YtkbiiolkekpkiaaDoor.Ed
set_option linter.unusedVariables false
section
variable {m0 : Nat} [NeZero m0]
theorem sum_x (n1 d1 i1 d2 s t : (Fin m0)) (h : d1*i1 = 1) : (s*n1)*(t*d2) = (n1*i1)*((t*d2)*(s*d1)) := by grind
theorem sum_y (n2 d2 i2 d1 s t : (Fin m0)) (h : d2*i2 = 1) : (s*d1)*(t*n2) = (n2*i2)*((t*d2)*(s*d1)) := by grind
theorem sum_t (n1 d1 i1 n2 d2 i2 s t : (Fin m0)) (h1 : d1*i1 = 1) (h2 : d2*i2 = 1) : (s*n1)*(t*n2) = (n1*i1)*(n2*i2)*((t*d2)*(s*d1)) := by grind
theorem add_e (x1 y1 z1 x2 y2 z2 : (Fin m0)) : (y1*z1 + x1*z1)*(y2*z2 + x2*z2) - (y1*z1 - x1*z1)*(y2*z2 - x2*z2) = (z1*z2 + z1*z2)*(x1*y2 + y1*x2) := by grind
theorem add_h (x1 y1 z1 x2 y2 z2 : (Fin m0)) : (y1*z1 + x1*z1)*(y2*z2 + x2*z2) + (y1*z1 - x1*z1)*(y2*z2 - x2*z2) = (z1*z2 + z1*z2)*(y1*y2 + x1*x2) := by grind
theorem add_g (d x1 y1 z1 x2 y2 z2 : (Fin m0)) : z1*z2 + z1*z2 + (x1*y1*z1)*(d + d)*(x2*y2*z2) = (z1*z2 + z1*z2)*(1 + d*x1*x2*y1*y2) := by grind
theorem add_f (d x1 y1 z1 x2 y2 z2 : (Fin m0)) : z1*z2 + z1*z2 - (x1*y1*z1)*(d + d)*(x2*y2*z2) = (z1*z2 + z1*z2)*(1 - d*x1*x2*y1*y2) := by grind
theorem dbl_e (x y z : (Fin m0)) : (x*z + y*z)*(x*z + y*z) - (x*z)*(x*z) - (y*z)*(y*z) = (z*z)*(x*y + y*x) := by grind
theorem dbl_g (d x y z : (Fin m0)) (o : On d x y) : (y*z)*(y*z) - (x*z)*(x*z) = (z*z)*(1 + d*x*x*y*y) := by unfold On at o; grind
theorem dbl_f (d x y z : (Fin m0)) (o : On d x y) : (y*z)*(y*z) - (x*z)*(x*z) - (z*z + z*z) = (-(z*z))*(1 - d*x*x*y*y) := by unfold On at o; grind
theorem dbl_h (x y z : (Fin m0)) : -((x*z)*(x*z)) - (y*z)*(y*z) = (-(z*z))*(y*y + x*x) := by grind
theorem neg_times (x z : (Fin m0)) : -(x*z) = -x*z := by grind
theorem neg_times2 (x y z : (Fin m0)) : -(x*y*z) = -x*y*z := by grind
theorem neg_nought (a : (Fin m0)) (h : -a = 0) : a = 0 := by grind
end
/-- Four numbers are a point. -/
def Rx (X Y Z T : K) (p : Pt) : Prop := ¬ Z = 0 ∧ X = p.x*Z ∧ Y = p.y*Z ∧ T = p.x*p.y*Z
theorem neg_ne (a : K) (h : ¬ a = 0) : ¬ -a = 0 := fun e => h (neg_nought a e)
theorem twice_ne (a : K) (h : ¬ a = 0) : ¬ a + a = 0 := fun e => h (no_two a e)
/-- Whatever makes the four halves of the sum, each pair by a number of its own, makes the sum. -/
theorem rx_sum (p q : Pt) (s t e f g h : K) (hs : ¬ s = 0) (ht : ¬ t = 0) (he : e = s*(p.x*q.y + p.y*q.x)) (hg : g = s*(1 + dd*p.x*q.x*p.y*q.y)) (hh : h = t*(p.y*q.y + p.x*q.x)) (hf : f = t*(1 - dd*p.x*q.x*p.y*q.y)) :
    Rx (e*f) (g*h) (f*g) (e*h) (p.add q) := by
  have hp := plus_ne _ _ _ _ p.on q.on
  have hm := minus_ne _ _ _ _ p.on q.on
  rw [he, hg, hh, hf]
  exact ⟨mul_ne _ _ (mul_ne _ _ ht hm) (mul_ne _ _ hs hp), sum_x _ _ _ _ s t (inv_mul _ hp), sum_y _ _ _ _ s t (inv_mul _ hm), sum_t _ _ _ _ _ _ s t (inv_mul _ hp) (inv_mul _ hm)⟩
/-- The sum by eight products. -/
theorem rx_add (X1 Y1 Z1 T1 X2 Y2 Z2 T2 a b c d : K) (p q : Pt) (hp : Rx X1 Y1 Z1 T1 p) (hq : Rx X2 Y2 Z2 T2 q) (ha : a = (Y1 - X1)*(Y2 - X2)) (hb : b = (Y1 + X1)*(Y2 + X2)) (hc : c = T1*(dd + dd)*T2) (hd : d = Z1*Z2 + Z1*Z2) :
    Rx ((b - a)*(d - c)) ((d + c)*(b + a)) ((d - c)*(d + c)) ((b - a)*(b + a)) (p.add q) := by
  obtain ⟨z1, rfl, rfl, rfl⟩ := hp
  obtain ⟨z2, rfl, rfl, rfl⟩ := hq
  subst ha hb hc hd
  exact rx_sum p q (Z1*Z2 + Z1*Z2) (Z1*Z2 + Z1*Z2) _ _ _ _ (twice_ne _ (mul_ne _ _ z1 z2)) (twice_ne _ (mul_ne _ _ z1 z2)) (add_e _ _ _ _ _ _) (add_g _ _ _ _ _ _ _) (add_h _ _ _ _ _ _) (add_f _ _ _ _ _ _ _)
/-- The double, without the curve's number. -/
theorem rx_dbl (X Y Z T e f g h : K) (p : Pt) (hp : Rx X Y Z T p) (he : e = (X + Y)*(X + Y) - X*X - Y*Y) (hg : g = Y*Y - X*X) (hf : f = g - (Z*Z + Z*Z)) (hh : h = -(X*X) - Y*Y) :
    Rx (e*f) (g*h) (f*g) (e*h) (p.add p) := by
  obtain ⟨z, rfl, rfl, rfl⟩ := hp
  subst hg
  exact rx_sum p p (Z*Z) (-(Z*Z)) _ _ _ _ (mul_ne _ _ z z) (neg_ne _ (mul_ne _ _ z z)) (he.trans (dbl_e _ _ _)) (dbl_g _ _ _ _ p.on) (hh.trans (dbl_h _ _ _)) (hf.trans (dbl_f _ _ _ _ p.on))
theorem rx_neg (X Y Z T : K) (p : Pt) (h : Rx X Y Z T p) : Rx (-X) Y Z (-T) p.neg := by
  obtain ⟨z, rfl, rfl, rfl⟩ := h
  exact ⟨z, neg_times _ _, rfl, neg_times2 _ _ _⟩
theorem rx_zero : Rx 0 1 1 0 Pt.zero := ⟨one_ne, (zero_times _).symm, (one_times _).symm, by show (0 : K) = 0*1*1; rw [zero_times, zero_times]⟩
theorem rx_one (p : Pt) : Rx p.x p.y 1 (p.x*p.y) p := ⟨one_ne, (times_one _).symm, (times_one _).symm, (times_one _).symm⟩
/-- Two points are one just if their numbers agree crosswise. -/
theorem rx_same (X1 Y1 Z1 T1 X2 Y2 Z2 T2 : K) (p q : Pt) (hp : Rx X1 Y1 Z1 T1 p) (hq : Rx X2 Y2 Z2 T2 q) : (X1*Z2 = X2*Z1 ∧ Y1*Z2 = Y2*Z1) ↔ p = q := by
  obtain ⟨z1, rfl, rfl, rfl⟩ := hp
  obtain ⟨z2, rfl, rfl, rfl⟩ := hq
  have key : ∀ x y : K, x*Z1*Z2 = y*Z2*Z1 → x = y := by
    intro x y h
    have h2 : (x - y)*(Z1*Z2) = 0 := by grind
    rcases no_div _ _ h2 with e | e
    · exact minus_zero _ _ e
    · exact absurd e (mul_ne _ _ z1 z2)
  constructor
  · rintro ⟨h1, h2⟩
    exact Pt.ext (key _ _ h1) (key _ _ h2)
  · rintro rfl
    exact ⟨swap_zs _ _ _, swap_zs _ _ _⟩
/-- One of three taken away again. -/
theorem Pt.take_mid (p q r : Pt) : ((p.add q).add r).add q.neg = p.add r := by
  rw [Pt.add_assoc p q r, Pt.add_comm q r, ← Pt.add_assoc p r q, Pt.add_assoc (p.add r) q q.neg, Pt.add_neg, Pt.add_zero]
theorem Pt.zero_add (p : Pt) : Pt.zero.add p = p := by rw [Pt.add_comm, Pt.add_zero]
/-- The pair of numbers that a point is. -/
theorem rx_pair (X Y Z T i : K) (p : Pt) (h : Rx X Y Z T p) (hi : Z*i = 1) : X*i = p.x ∧ Y*i = p.y := by
  obtain ⟨z, rfl, rfl, rfl⟩ := h
  rw [assoc_k, assoc_k, hi]
  exact ⟨times_one _, times_one _⟩
end Go.Proofs.YtkbiiolkekpkiaaDoor.Ed
