/-
  The group law of an Edwards curve with -1, in any commutative ring: the sum lies on the curve, its parts are never by nought, it may be put together in either order and in either way. No program is spoken of here. Conditions: as each theorem says.
-/
import Derived.Test.YtedhfimjcpbcpaaDoorKbaa
namespace Go.Proofs.YtedhfimjcpbcpaaDoor.Ed
set_option linter.unusedVariables false

section
variable {m0 : Nat} [NeZero m0]
/-- A pair on the curve. -/
def On (d x y : (Fin m0)) : Prop := y*y - x*x = 1 + d*(x*x)*(y*y)

theorem assoc_x (d x1 y1 x2 y2 x3 y3 : (Fin m0)) (h1 : On d x1 y1) (h2 : On d x2 y2) (h3 : On d x3 y3) :
    ((x1*y2 + y1*x2)*(1 - d*x1*x2*y1*y2)*y3 + (y1*y2 + x1*x2)*(1 + d*x1*x2*y1*y2)*x3) * ((1 + d*x2*x3*y2*y3)*(1 - d*x2*x3*y2*y3) + d*x1*y1*(x2*y3 + y2*x3)*(y2*y3 + x2*x3))
    = (x1*(y2*y3 + x2*x3)*(1 + d*x2*x3*y2*y3) + y1*(x2*y3 + y2*x3)*(1 - d*x2*x3*y2*y3)) * ((1 + d*x1*x2*y1*y2)*(1 - d*x1*x2*y1*y2) + d*(x1*y2 + y1*x2)*(y1*y2 + x1*x2)*x3*y3) := by
  unfold On at *
  grind
theorem assoc_y (d x1 y1 x2 y2 x3 y3 : (Fin m0)) (h1 : On d x1 y1) (h2 : On d x2 y2) (h3 : On d x3 y3) :
    ((y1*y2 + x1*x2)*(1 + d*x1*x2*y1*y2)*y3 + (x1*y2 + y1*x2)*(1 - d*x1*x2*y1*y2)*x3) * ((1 + d*x2*x3*y2*y3)*(1 - d*x2*x3*y2*y3) - d*x1*y1*(x2*y3 + y2*x3)*(y2*y3 + x2*x3))
    = (y1*(y2*y3 + x2*x3)*(1 + d*x2*x3*y2*y3) + x1*(x2*y3 + y2*x3)*(1 - d*x2*x3*y2*y3)) * ((1 + d*x1*x2*y1*y2)*(1 - d*x1*x2*y1*y2) - d*(x1*y2 + y1*x2)*(y1*y2 + x1*x2)*x3*y3) := by
  unfold On at *
  grind
/-- The sum lies on the curve. -/
theorem sum_on (d x1 y1 x2 y2 u v : (Fin m0)) (h1 : On d x1 y1) (h2 : On d x2 y2) (hu : (1 + d*x1*x2*y1*y2)*u = 1) (hv : (1 - d*x1*x2*y1*y2)*v = 1) :
    On d ((x1*y2 + y1*x2)*u) ((y1*y2 + x1*x2)*v) := by
  unfold On at *
  have key : (y1*y2 + x1*x2)*(y1*y2 + x1*x2)*((1 + d*x1*x2*y1*y2)*(1 + d*x1*x2*y1*y2)) - (x1*y2 + y1*x2)*(x1*y2 + y1*x2)*((1 - d*x1*x2*y1*y2)*(1 - d*x1*x2*y1*y2))
     = ((1 + d*x1*x2*y1*y2)*(1 - d*x1*x2*y1*y2))*((1 + d*x1*x2*y1*y2)*(1 - d*x1*x2*y1*y2)) + d*((x1*y2 + y1*x2)*(x1*y2 + y1*x2))*((y1*y2 + x1*x2)*(y1*y2 + x1*x2)) := by grind
  clear h1 h2
  generalize 1 + d*x1*x2*y1*y2 = p at *
  generalize 1 - d*x1*x2*y1*y2 = m at *
  generalize x1*y2 + y1*x2 = a at *
  generalize y1*y2 + x1*x2 = b at *
  have q1 : (p*u)*(p*u) = 1 := by rw [hu]; grind
  have q2 : (m*v)*(m*v) = 1 := by rw [hv]; grind
  have e1 : b*v*(b*v) = b*b*(p*p)*(u*u*(v*v)) := by grind
  have e2 : a*u*(a*u) = a*a*(m*m)*(u*u*(v*v)) := by grind
  have e3 : (p*m)*(p*m)*(u*u*(v*v)) = 1 := by grind
  grind
/-- Neither part of a sum is by nought, where d is no square and -1 is one. -/
theorem complete (d i : (Fin m0)) (hz : ∀ a b : (Fin m0), a*b = 0 → a = 0 ∨ b = 0) (h2 : ∀ a : (Fin m0), a + a = 0 → a = 0) (h1' : ¬ (1:(Fin m0)) = 0) (hi : i*i = -1) (hd : ∀ s t : (Fin m0), d*(t*t) = s*s → t = 0)
    (x1 y1 x2 y2 : (Fin m0)) (o1 : On d x1 y1) (o2 : On d x2 y2) : ¬ (d*x1*x2*y1*y2)*(d*x1*x2*y1*y2) = 1 := by
  intro he
  obtain ⟨e, hee⟩ : ∃ e, e = d*x1*x2*y1*y2 := ⟨_, rfl⟩
  rw [← hee] at he
  unfold On at o1 o2
  have k1 : d*((x1*y1*(i*x2 + y2))*(x1*y1*(i*x2 + y2))) = (i*x1 + e*y1)*(i*x1 + e*y1) := by grind
  have k2 : d*((x1*y1*(y2 - i*x2))*(x1*y1*(y2 - i*x2))) = (e*y1 - i*x1)*(e*y1 - i*x1) := by grind
  have t1 := hd _ _ k1
  have t2 := hd _ _ k2
  clear k1 k2
  rcases hz _ _ t1 with h | h
  · have : e = 0 := by rw [hee]; grind
    rw [this] at he
    exact h1' (by grind)
  rcases hz _ _ t2 with h' | h'
  · have : e = 0 := by rw [hee]; grind
    rw [this] at he
    exact h1' (by grind)
  have hy : y2 = 0 := h2 _ (by grind)
  have hx : x2 = 0 := by
    have : i*x2 = 0 := by grind
    have : (i*i)*x2 = 0 := by grind
    grind
  rw [hx, hy] at o2
  exact h1' (by grind)
theorem frac_same (n1 d1 n2 d2 w1 w2 : (Fin m0)) (h : n1*d2 = n2*d1) (h1 : d1*w1 = 1) (h2 : d2*w2 = 1) : n1*w1 = n2*w2 := by
  have e1 : n1*w1 = (n1*d2)*(w1*w2) := by grind
  have e2 : n2*w2 = (n2*d1)*(w1*w2) := by grind
  rw [e1, e2, h]
theorem frac_left (a b p m x3 y3 d u v : (Fin m0)) (hu : p*u = 1) (hv : m*v = 1) :
    (a*u)*y3 + (b*v)*x3 = (a*m*y3 + b*p*x3)*(u*v) ∧ 1 + d*(a*u)*x3*(b*v)*y3 = (p*m + d*a*b*x3*y3)*(u*v) ∧ 1 - d*(a*u)*x3*(b*v)*y3 = (p*m - d*a*b*x3*y3)*(u*v) ∧ (b*v)*y3 + (a*u)*x3 = (b*p*y3 + a*m*x3)*(u*v) := by
  have h : (p*u)*(m*v) = 1 := by rw [hu, hv]; grind
  refine ⟨?_, ?_, ?_, ?_⟩ <;> grind
theorem frac_right (A B P M x1 y1 d u v : (Fin m0)) (hu : P*u = 1) (hv : M*v = 1) :
    x1*(B*v) + y1*(A*u) = (x1*B*P + y1*A*M)*(u*v) ∧ 1 + d*x1*(A*u)*y1*(B*v) = (P*M + d*x1*y1*A*B)*(u*v) ∧ 1 - d*x1*(A*u)*y1*(B*v) = (P*M - d*x1*y1*A*B)*(u*v) ∧ y1*(B*v) + x1*(A*u) = (y1*B*P + x1*A*M)*(u*v) := by
  have h : (P*u)*(M*v) = 1 := by rw [hu, hv]; grind
  refine ⟨?_, ?_, ?_, ?_⟩ <;> grind
theorem one_plus (a b c : (Fin m0)) : 1 + a*b*0*c*1 = 1 := by grind
theorem one_minus (a b c : (Fin m0)) : 1 - a*b*0*c*1 = 1 := by grind
theorem one_zero (a b : (Fin m0)) : (a*1 + b*0)*1 = a := by grind
theorem minus_from (a b : (Fin m0)) (h : a + b = 0) : a = -b := by grind
theorem zero_times (a : (Fin m0)) : 0*a = 0 := by grind
theorem one_times (a : (Fin m0)) : 1*a = a := by grind
theorem minus_zero (x y : (Fin m0)) (h : x - y = 0) : x = y := by grind
theorem swap_zs (y a b : (Fin m0)) : y*a*b = y*b*a := by grind
theorem times_one (a : (Fin m0)) : a*1 = a := by grind
theorem times_zero (a : (Fin m0)) : a*(0*0) + 1 = 1 := by grind
theorem on_from (d x y u v : (Fin m0)) (hu : u = y*y - 1) (hv : v = d*(y*y) + 1) (h : x*x*v = u) : On d x y := by unfold On; grind
theorem sq_from (d x y u v : (Fin m0)) (hu : u = y*y - 1) (hv : v = d*(y*y) + 1) (h : On d x y) : x*x*v = u := by unfold On at h; grind
theorem sq_neg (x v u : (Fin m0)) (h : x*x*v = u) : (-x)*(-x)*v = u := by grind
theorem two_eq (a b c : (Fin m0)) (h : a*c = b*c) : (a - b)*c = 0 := by grind
theorem from_zero (x : (Fin m0)) : 0 - x = -x := by grind
theorem minus_plus (a b c : (Fin m0)) (h : a + b = c) : a = c - b := by grind
theorem cross (n1 d1 n2 d2 c1 c2 : (Fin m0)) (h : n1*d2 = n2*d1) : (n1*c1)*(d2*c2) = (n2*c2)*(d1*c1) := by grind
end

end Go.Proofs.YtedhfimjcpbcpaaDoor.Ed

/-
  The numbers modulo 2^255 - 19 as a field; the curve's d is no square; points of the curve add up as in a group. No program is spoken of here. Conditions: as each theorem says.
-/
namespace Go.Proofs.YtedhfimjcpbcpaaDoor.Ed
set_option linter.unusedVariables false

instance : NeZero P25 := ⟨by decide +kernel⟩
/-- The numbers modulo 2^255 - 19. -/
abbrev K := Fin P25
/-- A natural as such a number. -/
def k (n : Nat) : K := Fin.ofNat P25 n
theorem k_val (n : Nat) : (k n).val = n % P25 := rfl
theorem k_eq (a b : Nat) : k a = k b ↔ a % P25 = b % P25 := by
  rw [Fin.ext_iff, k_val, k_val]
theorem k_of (a : K) : k a.val = a := Fin.ext (Nat.mod_eq_of_lt a.isLt)
theorem k_mod (a : Nat) : k (a % P25) = k a := (k_eq _ _).2 (Nat.mod_mod _ _)
theorem k_add (a b : Nat) : k (a + b) = k a + k b := by
  apply Fin.ext
  rw [Fin.val_add, k_val, k_val, k_val, ← Nat.add_mod]
theorem k_mul (a b : Nat) : k (a * b) = k a * k b := by
  apply Fin.ext
  rw [Fin.val_mul, k_val, k_val, k_val, ← Nat.mul_mod]
theorem k_zero : k 0 = 0 := rfl
theorem k_one : k 1 = 1 := rfl
theorem k_nought (a : Nat) : k a = 0 ↔ a % P25 = 0 := by
  rw [← k_zero, k_eq, Nat.zero_mod]
theorem k_P : k P25 = 0 := (k_nought _).2 (Nat.mod_self _)
theorem val_nought (a : K) : a.val % P25 = 0 ↔ a = 0 := by
  rw [← k_nought, k_of]

theorem no_div (a b : K) (h : a * b = 0) : a = 0 ∨ b = 0 := by
  have h1 : a.val * b.val % P25 = 0 := by rw [← k_nought, k_mul, k_of, k_of]; exact h
  rcases Nat.eq_zero_or_pos (a.val % P25) with e | e
  · exact Or.inl ((val_nought a).1 e)
  rcases Nat.eq_zero_or_pos (b.val % P25) with e' | e'
  · exact Or.inr ((val_nought b).1 e')
  exact absurd h1 (Pr.mul_ne P25_prime (by omega) (by omega))
theorem odd_twice (n p : Nat) (hp : p % 2 = 1) (hn : n < p) (h : (n + n) % p = 0) : n = 0 := by
  obtain ⟨c, hc⟩ := Nat.dvd_of_mod_eq_zero h
  have hc2 : c < 2 := by
    rcases Nat.lt_or_ge c 2 with q | q
    · exact q
    · have := Nat.mul_le_mul_left p q
      omega
  rcases (show c = 0 ∨ c = 1 by omega) with rfl | rfl
  · omega
  · omega
theorem P25_odd : P25 % 2 = 1 := by decide +kernel
theorem no_two (a : K) (h : a + a = 0) : a = 0 := by
  have h1 : (a.val + a.val) % P25 = 0 := by rw [← k_nought, k_add, k_of]; exact h
  refine (val_nought a).1 ?_
  rw [odd_twice a.val P25 P25_odd a.isLt h1]
  exact Nat.zero_mod _
theorem one_ne : ¬ (1 : K) = 0 := by
  rw [← k_one, k_nought]
  decide +kernel
theorem i_sq : k I25 * k I25 = -1 := by
  refine minus_from _ _ ?_
  rw [← k_one, ← k_mul, ← k_add, k_nought, Nat.add_mod, I25_sq]
  decide +kernel

/-- The curve's number: -121665 by 121666. -/
def D25 : Nat := 37095705934669439343138083508754565189542113879843219016388785533085940283555
def halfP : Nat := (P25 - 1) / 2
theorem halfP_two : 2 * halfP = P25 - 1 := by decide +kernel
theorem D25_no : D25 ^ halfP % P25 = P25 - 1 := (pm_eq P25 255 D25 halfP (by decide +kernel)).symm.trans (by decide +kernel)
theorem even_pow (t : Nat) (h : t % P25 ≠ 0) (e : Nat) (he : 2 * e = P25 - 1) : (t * t) ^ e % P25 = 1 := by
  rw [← Nat.pow_two, ← Nat.pow_mul, he]
  exact fermat P25_prime h
theorem even_none (t e : Nat) (h : t % P25 = 0) (he : 0 < e) : (t * t) ^ e % P25 = 0 := by
  obtain ⟨f, rfl⟩ : ∃ f, e = f + 1 := ⟨e - 1, by omega⟩
  rw [Nat.pow_succ, Nat.mul_mod, Nat.mul_mod t t, h]
  simp
theorem half_pos : 0 < halfP := by decide +kernel
theorem no_square (s t : K) (h : k D25 * (t * t) = s * s) : t = 0 := by
  rcases Nat.eq_zero_or_pos (t.val % P25) with e0 | e0
  · exact (val_nought t).1 e0
  exfalso
  have h1 : (D25 * (t.val * t.val)) % P25 = (s.val * s.val) % P25 := by
    rw [← k_eq, k_mul, k_mul, k_mul, k_of, k_of]; exact h
  obtain ⟨e, he⟩ : ∃ e, halfP = e := ⟨_, rfl⟩
  have e2 := halfP_two
  have ep := half_pos
  have hD := D25_no
  rw [he] at e2 ep hD
  have h2 : (D25 * (t.val * t.val)) ^ e % P25 = (s.val * s.val) ^ e % P25 := by rw [Nat.pow_mod, h1, ← Nat.pow_mod]
  rw [Nat.mul_pow, Nat.mul_mod, hD, even_pow t.val (by omega) e e2] at h2
  rcases Nat.eq_zero_or_pos (s.val % P25) with q | q
  · rw [even_none s.val e q ep] at h2
    exact absurd h2 (by decide +kernel)
  · rw [even_pow s.val (by omega) e e2] at h2
    exact absurd h2 (by decide +kernel)

theorem has_inv (a : K) (h : ¬ a = 0) : ∃ b : K, a * b = 1 := by
  obtain ⟨e, he⟩ : ∃ e, e + 1 = P25 - 1 := ⟨P25 - 2, by decide +kernel⟩
  refine ⟨k (a.val ^ e), ?_⟩
  have h1 : a.val ^ (e + 1) % P25 = 1 := by
    rw [he]
    exact fermat P25_prime (fun q => h ((val_nought a).1 q))
  rw [Nat.pow_succ, Nat.mul_comm] at h1
  have : k (a.val * a.val ^ e) = k 1 := (k_eq _ _).2 (by rw [h1]; decide +kernel)
  rw [k_mul, k_of] at this
  exact this
open Classical in
/-- What a number is 1 by. -/
noncomputable def inv (a : K) : K := if h : ∃ b : K, a * b = 1 then Classical.choose h else 0
theorem inv_mul (a : K) (h : ¬ a = 0) : a * inv a = 1 := by
  have hx := has_inv a h
  unfold inv
  rw [dif_pos hx]
  exact Classical.choose_spec hx
theorem inv_of (a b : K) (h : a * b = 1) : b = inv a := by
  have hn : ¬ a = 0 := fun e => by
    rw [e] at h
    exact one_ne (by grind)
  have hi := inv_mul a hn
  grind

/-- The curve's number in the field. -/
noncomputable def dd : K := k D25
theorem sq_not (x1 y1 x2 y2 : K) (o1 : On dd x1 y1) (o2 : On dd x2 y2) : ¬ (dd*x1*x2*y1*y2)*(dd*x1*x2*y1*y2) = 1 :=
  complete dd (k I25) no_div no_two one_ne i_sq no_square x1 y1 x2 y2 o1 o2
theorem plus_ne (x1 y1 x2 y2 : K) (o1 : On dd x1 y1) (o2 : On dd x2 y2) : ¬ 1 + dd*x1*x2*y1*y2 = 0 := fun h => sq_not x1 y1 x2 y2 o1 o2 (by grind)
theorem minus_ne (x1 y1 x2 y2 : K) (o1 : On dd x1 y1) (o2 : On dd x2 y2) : ¬ 1 - dd*x1*x2*y1*y2 = 0 := fun h => sq_not x1 y1 x2 y2 o1 o2 (by grind)

/-- A point of the curve. -/
structure Pt where
  x : K
  y : K
  on : On dd x y
theorem Pt.ext {p q : Pt} (hx : p.x = q.x) (hy : p.y = q.y) : p = q := by
  cases p; cases q; cases hx; cases hy; rfl
noncomputable def Pt.add (p q : Pt) : Pt where
  x := (p.x*q.y + p.y*q.x) * inv (1 + dd*p.x*q.x*p.y*q.y)
  y := (p.y*q.y + p.x*q.x) * inv (1 - dd*p.x*q.x*p.y*q.y)
  on := sum_on dd p.x p.y q.x q.y _ _ p.on q.on (inv_mul _ (plus_ne _ _ _ _ p.on q.on)) (inv_mul _ (minus_ne _ _ _ _ p.on q.on))
def Pt.zero : Pt := ⟨0, 1, by unfold On; grind⟩
def Pt.neg (p : Pt) : Pt := ⟨-p.x, p.y, by have h := p.on; unfold On at *; grind⟩
theorem Pt.add_comm (p q : Pt) : p.add q = q.add p := by
  have e1 : p.x*q.y + p.y*q.x = q.x*p.y + q.y*p.x := by grind
  have e2 : dd*p.x*q.x*p.y*q.y = dd*q.x*p.x*q.y*p.y := by grind
  have e3 : p.y*q.y + p.x*q.x = q.y*p.y + q.x*p.x := by grind
  exact Pt.ext (by show (_ : K) * _ = _ * _; rw [e1, e2]) (by show (_ : K) * _ = _ * _; rw [e3, e2])
theorem inv_one : inv 1 = 1 := (inv_of 1 1 (by grind)).symm
theorem Pt.add_zero (p : Pt) : p.add Pt.zero = p := by
  refine Pt.ext ?_ ?_
  · show (p.x*1 + p.y*0) * inv (1 + dd*p.x*0*p.y*1) = p.x
    rw [one_plus, inv_one]
    exact one_zero _ _
  · show (p.y*1 + p.x*0) * inv (1 - dd*p.x*0*p.y*1) = p.y
    rw [one_minus, inv_one]
    exact one_zero _ _
theorem Pt.add_neg (p : Pt) : p.add p.neg = Pt.zero := by
  have h := p.on
  refine Pt.ext ?_ ?_
  · show (p.x*p.y + p.y*(-p.x)) * inv (1 + dd*p.x*(-p.x)*p.y*p.y) = 0
    rw [show p.x*p.y + p.y*(-p.x) = (0 : K) by grind]; grind
  · show (p.y*p.y + p.x*(-p.x)) * inv (1 - dd*p.x*(-p.x)*p.y*p.y) = 1
    unfold On at h
    have hn := minus_ne p.x p.y (-p.x) p.y p.on (by have h := p.on; unfold On at *; grind)
    have hi := inv_mul _ hn
    have e : p.y*p.y + p.x*(-p.x) = 1 - dd*p.x*(-p.x)*p.y*p.y := by grind
    rw [e]; exact hi
theorem Pt.add_assoc (p q r : Pt) : (p.add q).add r = p.add (q.add r) := by
  have hu := inv_mul _ (plus_ne _ _ _ _ p.on q.on)
  have hv := inv_mul _ (minus_ne _ _ _ _ p.on q.on)
  have hU := inv_mul _ (plus_ne _ _ _ _ q.on r.on)
  have hV := inv_mul _ (minus_ne _ _ _ _ q.on r.on)
  have h1 := inv_mul _ (plus_ne _ _ _ _ (p.add q).on r.on)
  have h2 := inv_mul _ (minus_ne _ _ _ _ (p.add q).on r.on)
  have h3 := inv_mul _ (plus_ne _ _ _ _ p.on (q.add r).on)
  have h4 := inv_mul _ (minus_ne _ _ _ _ p.on (q.add r).on)
  have ax := assoc_x dd p.x p.y q.x q.y r.x r.y p.on q.on r.on
  have ay := assoc_y dd p.x p.y q.x q.y r.x r.y p.on q.on r.on
  have ex : ∀ a b : Pt, (a.add b).x = (a.x*b.y + a.y*b.x) * inv (1 + dd*a.x*b.x*a.y*b.y) := fun _ _ => rfl
  have ey : ∀ a b : Pt, (a.add b).y = (a.y*b.y + a.x*b.x) * inv (1 - dd*a.x*b.x*a.y*b.y) := fun _ _ => rfl
  obtain ⟨l1, l2, l3, l4⟩ := frac_left (p.x*q.y + p.y*q.x) (p.y*q.y + p.x*q.x) _ _ r.x r.y dd _ _ hu hv
  obtain ⟨r1, r2, r3, r4⟩ := frac_right (q.x*r.y + q.y*r.x) (q.y*r.y + q.x*r.x) _ _ p.x p.y dd _ _ hU hV
  refine Pt.ext ?_ ?_
  · rw [ex (p.add q) r, ex p (q.add r)]
    refine frac_same _ _ _ _ _ _ ?_ h1 h3
    rw [ex p q, ey p q, ex q r, ey q r, l1, l2, r1, r2]
    exact cross _ _ _ _ _ _ ax
  · rw [ey (p.add q) r, ey p (q.add r)]
    refine frac_same _ _ _ _ _ _ ?_ h2 h4
    rw [ex p q, ey p q, ex q r, ey q r, l4, l3, r4, r3]
    exact cross _ _ _ _ _ _ ay

/-- X by Z, Y by Z is the point. -/
def Rp (X Y Z : Nat) (p : Pt) : Prop := X < P25 ∧ Y < P25 ∧ Z < P25 ∧ ¬ k Z = 0 ∧ k X = p.x * k Z ∧ k Y = p.y * k Z
theorem k_sub (a b : Nat) (h : b ≤ a + P25) : k ((a + P25 - b) % P25) = k a - k b := by
  refine minus_plus _ _ _ ?_
  rw [k_mod, ← k_add, show a + P25 - b + b = a + P25 by omega, k_add, k_P]
  grind
theorem lt_mod (a : Nat) : a % P25 < P25 := Nat.mod_lt _ (by decide +kernel)
theorem mul_ne (a b : K) (ha : ¬ a = 0) (hb : ¬ b = 0) : ¬ a * b = 0 := fun h => (no_div a b h).elim ha hb
end Go.Proofs.YtedhfimjcpbcpaaDoor.Ed

/-
  Points of the curve as four numbers of the field (the third not nought; the first, second and fourth are x, y and x by y, by the third): what sums and doubles are, whichever way they are reckoned. No program is spoken of here. Conditions: as each theorem says.
-/
namespace Go.Proofs.YtedhfimjcpbcpaaDoor.Ed
set_option linter.unusedVariables false
section
variable {m0 : Nat} [NeZero m0]
theorem sum_x (n1 d1 i1 d2 s t : (Fin m0)) (h : d1*i1 = 1) : (s*n1)*(t*d2) = (n1*i1)*((t*d2)*(s*d1)) := by grind
theorem sum_y (n2 d2 i2 d1 s t : (Fin m0)) (h : d2*i2 = 1) : (s*d1)*(t*n2) = (n2*i2)*((t*d2)*(s*d1)) := by grind
theorem sum_t (n1 d1 i1 n2 d2 i2 s t : (Fin m0)) (h1 : d1*i1 = 1) (h2 : d2*i2 = 1) : (s*n1)*(t*n2) = (n1*i1)*(n2*i2)*((t*d2)*(s*d1)) := by grind
theorem add_e (x1 y1 z1 x2 y2 z2 : (Fin m0)) : (y1*z1 + x1*z1)*(y2*z2 + x2*z2) - (y1*z1 - x1*z1)*(y2*z2 - x2*z2) = (z1*z2 + z1*z2)*(x1*y2 + y1*x2) := by grind
theorem add_h (x1 y1 z1 x2 y2 z2 : (Fin m0)) : (y1*z1 + x1*z1)*(y2*z2 + x2*z2) + (y1*z1 - x1*z1)*(y2*z2 - x2*z2) = (z1*z2 + z1*z2)*(y1*y2 + x1*x2) := by grind
theorem add_g (d x1 y1 z1 x2 y2 z2 : (Fin m0)) : z1*z2 + z1*z2 + (x1*y1*z1)*(d + d)*(x2*y2*z2) = (z1*z2 + z1*z2)*(1 + d*x1*x2*y1*y2) := by grind
theorem add_f (d x1 y1 z1 x2 y2 z2 : (Fin m0)) : z1*z2 + z1*z2 - (x1*y1*z1)*(d + d)*(x2*y2*z2) = (z1*z2 + z1*z2)*(1 - d*x1*x2*y1*y2) := by grind
theorem dbl_g (d x y z : (Fin m0)) (o : On d x y) : (y*z)*(y*z) - (x*z)*(x*z) = (z*z)*(1 + d*x*x*y*y) := by unfold On at o; grind
end
/-- Four numbers are a point. -/
def Rx (X Y Z T : K) (p : Pt) : Prop := ¬ Z = 0 ∧ X = p.x*Z ∧ Y = p.y*Z ∧ T = p.x*p.y*Z
theorem twice_ne (a : K) (h : ¬ a = 0) : ¬ a + a = 0 := fun e => h (no_two a e)
/-- Whatever makes the four halves of the sum, each pair by a number of its own, makes the sum. -/
theorem rx_sum (p q : Pt) (s t e f g h : K) (hs : ¬ s = 0) (ht : ¬ t = 0) (he : e = s*(p.x*q.y + p.y*q.x)) (hg : g = s*(1 + dd*p.x*q.x*p.y*q.y)) (hh : h = t*(p.y*q.y + p.x*q.x)) (hf : f = t*(1 - dd*p.x*q.x*p.y*q.y)) :
    Rx (e*f) (g*h) (f*g) (e*h) (p.add q) := by
  have hp := plus_ne _ _ _ _ p.on q.on
  have hm := minus_ne _ _ _ _ p.on q.on
  rw [he, hg, hh, hf]
  exact ⟨mul_ne _ _ (mul_ne _ _ ht hm) (mul_ne _ _ hs hp), sum_x _ _ _ _ s t (inv_mul _ hp), sum_y _ _ _ _ s t (inv_mul _ hm), sum_t _ _ _ _ _ _ s t (inv_mul _ hp) (inv_mul _ hm)⟩
/-- The sum by eight products. -/
theorem rx_add (X1 Y1 Z1 T1 X2 Y2 Z2 T2 a b c d : K) (p q : Pt) (hp : Rx X1 Y1 Z1 T1 p) (hq : Rx X2 Y2 Z2 T2 q) (ha : a = (Y1 - X1)*(Y2 - X2)) (hb : b = (Y1 + X1)*(Y2 + X2)) (hc : c = T1*(dd + dd)*T2) (hd : d = Z1*Z2 + Z1*Z2) :
    Rx ((b - a)*(d - c)) ((d + c)*(b + a)) ((d - c)*(d + c)) ((b - a)*(b + a)) (p.add q) := by
  obtain ⟨z1, rfl, rfl, rfl⟩ := hp
  obtain ⟨z2, rfl, rfl, rfl⟩ := hq
  subst ha hb hc hd
  exact rx_sum p q (Z1*Z2 + Z1*Z2) (Z1*Z2 + Z1*Z2) _ _ _ _ (twice_ne _ (mul_ne _ _ z1 z2)) (twice_ne _ (mul_ne _ _ z1 z2)) (add_e _ _ _ _ _ _) (add_g _ _ _ _ _ _ _) (add_h _ _ _ _ _ _) (add_f _ _ _ _ _ _ _)
theorem rx_zero : Rx 0 1 1 0 Pt.zero := ⟨one_ne, (zero_times _).symm, (one_times _).symm, by show (0 : K) = 0*1*1; rw [zero_times, zero_times]⟩
theorem rx_one (p : Pt) : Rx p.x p.y 1 (p.x*p.y) p := ⟨one_ne, (times_one _).symm, (times_one _).symm, (times_one _).symm⟩
/-- Two points are one just if their numbers agree crosswise. -/
theorem rx_same (X1 Y1 Z1 T1 X2 Y2 Z2 T2 : K) (p q : Pt) (hp : Rx X1 Y1 Z1 T1 p) (hq : Rx X2 Y2 Z2 T2 q) : (X1*Z2 = X2*Z1 ∧ Y1*Z2 = Y2*Z1) ↔ p = q := by
  obtain ⟨z1, rfl, rfl, rfl⟩ := hp
  obtain ⟨z2, rfl, rfl, rfl⟩ := hq
  have key : ∀ x y : K, x*Z1*Z2 = y*Z2*Z1 → x = y := by
    intro x y h
    have h2 : (x - y)*(Z1*Z2) = 0 := by grind
    rcases no_div _ _ h2 with e | e
    · exact minus_zero _ _ e
    · exact absurd e (mul_ne _ _ z1 z2)
  constructor
  · rintro ⟨h1, h2⟩
    exact Pt.ext (key _ _ h1) (key _ _ h2)
  · rintro rfl
    exact ⟨swap_zs _ _ _, swap_zs _ _ _⟩
theorem Pt.zero_add (p : Pt) : Pt.zero.add p = p := by rw [Pt.add_comm, Pt.add_zero]
end Go.Proofs.YtedhfimjcpbcpaaDoor.Ed

/-
  A region that draws its order and whose calls make memory of their own but turn none that was there: one walk in the order of the text serves every order. And the same value held against itself. Conditions: none beyond those written.
-/
namespace Go.Proofs.YtedhfimjcpbcpaaDoor
open Go.RowKit

/-- The world w with whatever w0 has beyond w's blocks: w with more memory. -/
def ext (w w0 : World) : World := { heap := w.heap ++ w0.heap.extract w.heap.size w0.heap.size, tape := w.tape, drawn := w0.drawn, os := w.os, output := w.output }

theorem ext_below (w w0 : World) : Below w.heap.size w (ext w w0) :=
  ⟨rfl, rfl, rfl, by simp [ext], fun k hk => by simp [ext, Array.getElem?_append, hk]⟩

theorem ext_of {w w0 : World} (h : Below w.heap.size w w0) : ext w w0 = w0 := by
  obtain ⟨h1, t1, d1, o1, p1⟩ := w0
  obtain ⟨ho, ht, hp, hs, hb⟩ := h
  simp only at ho ht hp hs hb
  subst ho ht hp
  unfold ext
  congr 1
  dsimp only
  apply Array.ext_getElem?
  intro i
  by_cases hi : i < w.heap.size
  · rw [Array.getElem?_append, if_pos hi, hb i hi]
  · rw [Array.getElem?_append, if_neg hi, Array.getElem?_extract]
    by_cases h2 : i < h1.size
    · rw [if_pos (by simp only [Nat.min_self]; omega), show w.heap.size + (i - w.heap.size) = i by omega]
    · rw [if_neg (by simp only [Nat.min_self]; omega), Array.getElem?_eq_none (by omega)]

theorem ext_cell (w w0 : World) (b o : Nat) (h : b < w.heap.size) : (ext w w0).cell? ⟨b, o, none⟩ = w.cell? ⟨b, o, none⟩ := (ext_below w w0).cell (p := ⟨b, o, none⟩) h
theorem ext_frozen (w w0 : World) (b o : Nat) (h : b < w.heap.size) : (ext w w0).frozen? ⟨b, o, none⟩ = w.frozen? ⟨b, o, none⟩ := (ext_below w w0).frozen (p := ⟨b, o, none⟩) h

theorem wp_region_ext {P : Program} {id : Nat} {Q : Exit → Act → World → Prop} {a : Act} {w : World} {l : List Oper} (hm : P.follows .mixedOrders = true) (hB : Region.lexB .any l.toArray = true)
    (h : wpQuiet P l.toArray (fun w' => ∃ n, w' = ext w n) (fun a' => ∀ w', (∃ n, w' = ext w n) → Q .normal a' w') l a) : (Code.region id l.toArray true).wp P Q a w :=
  wp_region_quiet (C := fun w' => ∃ n, w' = ext w n) hm hB ⟨{ w with drawn := w.drawn + 1 }, (ext_of ⟨rfl, rfl, rfl, Nat.le_refl _, fun _ _ => rfl⟩).symm⟩ (by simpa using h)

/-- A callee's contract, met in the world 'ext w n'. -/
theorem calls_ext {P : Program} {f : FuncId} {args : Array Value} {w n : World} {v : Value}
    (h : Calls P f args (ext w n) fun e w' => e = .returned v ∧ Below (ext w n).heap.size (ext w n) w') : Calls P f args (ext w n) fun e w'' => e = .returned v ∧ ∃ m, w'' = ext w m :=
  h.mono fun _ w'' ⟨he, hb⟩ => ⟨he, w'', (ext_of ((ext_below w n).trans (hb.mono (ext_below w n).size))).symm⟩
/-- Block b holds these four words. -/
structure Box (W : World) (b : Nat) (v0 v1 v2 v3 : Int) : Prop where
  lt : b < W.heap.size
  c0 : W.cell? ⟨b, 0, none⟩ = some (.int .u64 v0)
  c1 : W.cell? ⟨b, 1, none⟩ = some (.int .u64 v1)
  c2 : W.cell? ⟨b, 2, none⟩ = some (.int .u64 v2)
  c3 : W.cell? ⟨b, 3, none⟩ = some (.int .u64 v3)
theorem Box.below {W W' : World} {b : Nat} {v0 v1 v2 v3 : Int} (h : Box W b v0 v1 v2 v3) (hb : Below W.heap.size W W') : Box W' b v0 v1 v2 v3 :=
  ⟨Nat.lt_of_lt_of_le h.lt hb.size, (hb.cell (p := ⟨b, 0, none⟩) h.lt).trans h.c0, (hb.cell (p := ⟨b, 1, none⟩) h.lt).trans h.c1, (hb.cell (p := ⟨b, 2, none⟩) h.lt).trans h.c2, (hb.cell (p := ⟨b, 3, none⟩) h.lt).trans h.c3⟩
theorem Box.alloc {W : World} {b : Nat} {v0 v1 v2 v3 : Int} (h : Box W b v0 v1 v2 v3) (o : Obj) : Box (W.alloc o) b v0 v1 v2 v3 := h.below (Below.alloc (Below.refl _ _) (Nat.le_refl _) o)
theorem Box.new (W : World) (v0 v1 v2 v3 : Int) (t : TypeId) : Box (W.alloc (.cells #[.int .u64 v0, .int .u64 v1, .int .u64 v2, .int .u64 v3] t)) W.heap.size v0 v1 v2 v3 :=
  ⟨by simp, by simp, by simp, by simp, by simp⟩

/-- What stands behind is asked of every world that meets F. -/
theorem wp_cut {P : Program} {c : Code} {Q : Exit → Act → World → Prop} {a : Act} {w : World} (F : World → Prop) (h : F w) (k : ∀ w', F w' → c.wp P Q a w') : c.wp P Q a w := k w h

end Go.Proofs.YtedhfimjcpbcpaaDoor

/-
  The contracts of the field's settle, settled, column.plus, rest, over and spread: for words they return the words or columns that the exact arithmetic says, and change no memory that was there. Conditions: as each theorem says.
-/
namespace Go.Proofs.YtedhfimjcpbcpaaDoor
open Go.RowKit
set_option linter.unusedVariables false
attribute [local go_sem] ext_cell ext_frozen

theorem mask51 (x : Nat) (hx : x < 18446744073709551616) : bits .and .u64 (x : Int) 2251799813685247 = ((x % 2251799813685248 : Nat) : Int) := by
  have := bits_and_u64_nat x 2251799813685247 hx (by omega)
  rw [show (2251799813685247 : Nat) = 2 ^ 51 - 1 from rfl, Nat.and_two_pow_sub_one_eq_mod] at this
  exact this
/-- A word, cut at 51 bits. -/
theorem cut51 (x : Int) (h : Wd x) : ∃ r q : Int, bits .and .u64 x 2251799813685247 = r ∧ x / 2251799813685248 = q ∧ Hid (x = r + 2251799813685248 * q ∧ 0 ≤ r ∧ r < 2251799813685248 ∧ 0 ≤ q ∧ q < 8192) := by
  unfold Wd at h
  obtain ⟨n, rfl⟩ := Int.eq_ofNat_of_zero_le h.1
  refine ⟨_, _, mask51 n (by omega), rfl, ?_⟩
  unfold Hid
  omega
theorem wrapW (x : Int) (h0 : 0 ≤ x) (h1 : x < 18446744073709551616) : IntKind.u64.wrap x = x := by rw [IntKind.wrap_u64]; omega
/-- Limbs below 2^52. -/
def Tame (l0 l1 l2 l3 l4 : Int) : Prop := (0 ≤ l0 ∧ l0 < 4503599627370496) ∧ (0 ≤ l1 ∧ l1 < 4503599627370496) ∧ (0 ≤ l2 ∧ l2 < 4503599627370496) ∧ (0 ≤ l3 ∧ l3 < 4503599627370496) ∧ (0 ≤ l4 ∧ l4 < 4503599627370496)
/-- What five limbs stand for. -/
def val5 (l0 l1 l2 l3 l4 : Int) : Int := l0 + 2251799813685248 * l1 + 5070602400912917605986812821504 * l2 + 11417981541647679048466287755595961091061972992 * l3 + 25711008708143844408671393477458601640355247900524685364822016 * l4

set_option maxHeartbeats 1000000 in
theorem settle_step (l0 l1 l2 l3 l4 : Int) (h0 : Wd l0) (h1 : Wd l1) (h2 : Wd l2) (h3 : Wd l3) (h4 : Wd l4) : ∃ t0 t1 t2 t3 t4 : Int, Hid (Tame t0 t1 t2 t3 t4 ∧ t0 = l0 % 2251799813685248 + 19 * (l4 / 2251799813685248) ∧ t1 = l1 % 2251799813685248 + l0 / 2251799813685248 ∧ t2 = l2 % 2251799813685248 + l1 / 2251799813685248 ∧ t3 = l3 % 2251799813685248 + l2 / 2251799813685248 ∧ t4 = l4 % 2251799813685248 + l3 / 2251799813685248) ∧
    ∀ w : World, Calls Tryd.prog 96 #[.int .u64 l0, .int .u64 l1, .int .u64 l2, .int .u64 l3, .int .u64 l4] w fun e w' => e = .returned (.tuple #[.int .u64 t0, .int .u64 t1, .int .u64 t2, .int .u64 t3, .int .u64 t4]) ∧ w' = w := by
  obtain ⟨r0, q0, a0, b0, E0⟩ := cut51 l0 h0
  obtain ⟨r1, q1, a1, b1, E1⟩ := cut51 l1 h1
  obtain ⟨r2, q2, a2, b2, E2⟩ := cut51 l2 h2
  obtain ⟨r3, q3, a3, b3, E3⟩ := cut51 l3 h3
  obtain ⟨r4, q4, a4, b4, E4⟩ := cut51 l4 h4
  refine ⟨r0 + 19 * q4, r1 + q0, r2 + q1, r3 + q2, r4 + q3, ?_, ?_⟩
  · unfold Hid Tame; unfold Hid at E0 E1 E2 E3 E4
    clear a0 a1 a2 a3 a4 h0 h1 h2 h3 h4
    omega
  · intro w
    have c0 : IntKind.u64.wrap (19 * q4) = 19 * q4 := wrapW _ (by unfold Hid at E4; omega) (by unfold Hid at E4; omega)
    have d0 : IntKind.u64.wrap (r0 + 19 * q4) = r0 + 19 * q4 := wrapW _ (by unfold Hid at E0 E4; omega) (by unfold Hid at E0 E4; omega)
    have d1 : IntKind.u64.wrap (r1 + q0) = r1 + q0 := wrapW _ (by unfold Hid at E0 E1; omega) (by unfold Hid at E0 E1; omega)
    have d2 : IntKind.u64.wrap (r2 + q1) = r2 + q1 := wrapW _ (by unfold Hid at E2 E1; omega) (by unfold Hid at E2 E1; omega)
    have d3 : IntKind.u64.wrap (r3 + q2) = r3 + q2 := wrapW _ (by unfold Hid at E2 E3; omega) (by unfold Hid at E2 E3; omega)
    have d4 : IntKind.u64.wrap (r4 + q3) = r4 + q3 := wrapW _ (by unfold Hid at E4 E3; omega) (by unfold Hid at E4 E3; omega)
    clear E0 E1 E2 E3 E4 h0 h1 h2 h3 h4
    go_enter Tryd.func96, Tryd.ntmps96
    go_wp2_with fail
    refine bodyPost_ret (v := .tuple #[.int .u64 (r0 + 19 * q4), .int .u64 (r1 + q0), .int .u64 (r2 + q1), .int .u64 (r3 + q2), .int .u64 (r4 + q3)]) (by simp [results, Tryd.results96, go_sem]) rfl ⟨rfl, rfl⟩

set_option maxHeartbeats 1000000 in
theorem plus_step (h l a b : Int) (hh : Wd h) (hl : Wd l) (ha : Wd a) (hb : Wd b) (hlt : h * 18446744073709551616 + l + a * b < 18446744073709551616 * 18446744073709551616) : ∃ h' l' : Int, Wd h' ∧ Wd l' ∧ Hid (h' * 18446744073709551616 + l' = h * 18446744073709551616 + l + a * b) ∧
    ∀ w : World, Calls Tryd.prog 95 #[.agg #[.int .u64 h, .int .u64 l], .int .u64 a, .int .u64 b] w fun e w' => e = .returned (.agg #[.int .u64 h', .int .u64 l']) ∧ ∃ c1 c2 : Array Value, w' = (w.alloc (.cells c1 125)).alloc (.cells c2 125) := by
  obtain ⟨m, n, hn, hm, E, Q⟩ := mul_step a b ha hb
  obtain ⟨s, c, hs, hc, F, R⟩ := add_step n l 0 hn hl ⟨by omega, by omega⟩
  obtain ⟨t, d, ht, hd, G, S⟩ := add_step m h c ⟨by omega, by omega⟩ hh hc
  refine ⟨t, s, ht, hs, ?_, ?_⟩
  · unfold Hid at *
    rw [E] at hlt ⊢
    unfold Wd at *
    omega
  · intro w
    clear E F G hlt hh hl ha hb hn hm hs hc ht hd
    go_enter Tryd.func95, Tryd.ntmps95
    go_wp2_with (go_at_call 114; refine (Q _).mono ?_; rintro e w' ⟨rfl, rfl⟩)
    refine bodyPost_ret (v := .agg #[.int .u64 t, .int .u64 s]) (by simp [results, Tryd.results95, go_sem]) rfl ⟨rfl, ?_⟩
    exact ⟨_, _, rfl⟩

theorem rest_any (h l r : Int) (e : bits .and .u64 l 2251799813685247 = r) (w : World) :
    Calls Tryd.prog 115 #[.agg #[.int .u64 h, .int .u64 l]] w fun e w' => e = .returned (.int .u64 r) ∧ Below w.heap.size w w' := by
  go_enter Tryd.func115, Tryd.ntmps115
  go_wp2_with fail
  refine bodyPost_ret (v := .int .u64 r) (by simp [results, Tryd.results115, go_sem]) rfl ⟨rfl, ?_⟩
  repeat (first | exact Below.refl _ _ | refine Below.alloc ?_ (by simp <;> omega) _)
theorem over_any (h l q : Int) (e : bits .or .u64 (IntKind.u64.wrap (h * 8192)) (l / 2251799813685248) = q) (w : World) :
    Calls Tryd.prog 116 #[.agg #[.int .u64 h, .int .u64 l]] w fun e w' => e = .returned (.int .u64 q) ∧ Below w.heap.size w w' := by
  go_enter Tryd.func116, Tryd.ntmps116
  go_wp2_with fail
  refine bodyPost_ret (v := .int .u64 q) (by simp [results, Tryd.results116, go_sem]) rfl ⟨rfl, ?_⟩
  repeat (first | exact Below.refl _ _ | refine Below.alloc ?_ (by simp <;> omega) _)
theorem or_add51 (h l : Nat) (hh : h < 2251799813685248) (hl : l < 18446744073709551616) : bits .or .u64 (IntKind.u64.wrap ((h : Int) * 8192)) ((l : Int) / 2251799813685248) = ((h * 8192 + l / 2251799813685248 : Nat) : Int) := by
  have e1 : IntKind.u64.wrap ((h : Int) * 8192) = ((2 ^ 13 * h : Nat) : Int) := by rw [wrapW _ (by omega) (by omega)]; omega
  have e2 : (l : Int) / 2251799813685248 = ((l / 2251799813685248 : Nat) : Int) := by simp
  rw [e1, e2]
  have h2 : l / 2251799813685248 < 2 ^ 13 := by omega
  have := bits_or_u64_nat (2 ^ 13 * h) (l / 2251799813685248) (by omega) (by omega)
  rw [this, ← Nat.two_pow_add_eq_or_of_lt h2]
  congr 1
  omega
/-- A column, cut at 51 bits. -/
theorem col51 (h l : Int) (hh : Wd h) (hl : Wd l) (hlt : h < 2251799813685248) : ∃ r q : Int, bits .and .u64 l 2251799813685247 = r ∧ bits .or .u64 (IntKind.u64.wrap (h * 8192)) (l / 2251799813685248) = q ∧ Hid (h * 18446744073709551616 + l = r + 2251799813685248 * q ∧ 0 ≤ r ∧ r < 2251799813685248 ∧ 0 ≤ q ∧ q < 18446744073709551616) := by
  unfold Wd at hh hl
  obtain ⟨h, rfl⟩ := Int.eq_ofNat_of_zero_le hh.1
  obtain ⟨l, rfl⟩ := Int.eq_ofNat_of_zero_le hl.1
  refine ⟨_, _, mask51 l (by omega), or_add51 h l (by omega) (by omega), ?_⟩
  unfold Hid
  omega

set_option maxHeartbeats 4000000 in
theorem spread_step (h0 l0 h1 l1 h2 l2 h3 l3 h4 l4 : Int) (u0 : Wd h0) (v0 : Wd l0) (k0 : h0 < 140737488355328) (u1 : Wd h1) (v1 : Wd l1) (k1 : h1 < 140737488355328) (u2 : Wd h2) (v2 : Wd l2) (k2 : h2 < 140737488355328) (u3 : Wd h3) (v3 : Wd l3) (k3 : h3 < 140737488355328) (u4 : Wd h4) (v4 : Wd l4) (k4 : h4 < 70368744177664) : ∃ t0 t1 t2 t3 t4 : Int, Wd t0 ∧ Wd t1 ∧ Wd t2 ∧ Wd t3 ∧ Wd t4 ∧ Hid (t0 = (h0 * 18446744073709551616 + l0) % 2251799813685248 + 19 * ((h4 * 18446744073709551616 + l4) / 2251799813685248) ∧ t1 = (h1 * 18446744073709551616 + l1) % 2251799813685248 + (h0 * 18446744073709551616 + l0) / 2251799813685248 ∧ t2 = (h2 * 18446744073709551616 + l2) % 2251799813685248 + (h1 * 18446744073709551616 + l1) / 2251799813685248 ∧ t3 = (h3 * 18446744073709551616 + l3) % 2251799813685248 + (h2 * 18446744073709551616 + l2) / 2251799813685248 ∧ t4 = (h4 * 18446744073709551616 + l4) % 2251799813685248 + (h3 * 18446744073709551616 + l3) / 2251799813685248) ∧
    ∀ w : World, Calls Tryd.prog 97 #[.agg #[.int .u64 h0, .int .u64 l0], .agg #[.int .u64 h1, .int .u64 l1], .agg #[.int .u64 h2, .int .u64 l2], .agg #[.int .u64 h3, .int .u64 l3], .agg #[.int .u64 h4, .int .u64 l4]] w fun e w' => e = .returned (.tuple #[.int .u64 t0, .int .u64 t1, .int .u64 t2, .int .u64 t3, .int .u64 t4]) ∧ Below w.heap.size w w' := by
  obtain ⟨r0, q0, a0, b0, E0⟩ := col51 h0 l0 u0 v0 (by omega)
  obtain ⟨r1, q1, a1, b1, E1⟩ := col51 h1 l1 u1 v1 (by omega)
  obtain ⟨r2, q2, a2, b2, E2⟩ := col51 h2 l2 u2 v2 (by omega)
  obtain ⟨r3, q3, a3, b3, E3⟩ := col51 h3 l3 u3 v3 (by omega)
  obtain ⟨r4, q4, a4, b4, E4⟩ := col51 h4 l4 u4 v4 (by omega)
  have F : Hid ((0 ≤ q0 ∧ q0 < 1152921504606846976) ∧ (0 ≤ q1 ∧ q1 < 1152921504606846976) ∧ (0 ≤ q2 ∧ q2 < 1152921504606846976) ∧ (0 ≤ q3 ∧ q3 < 1152921504606846976) ∧ (0 ≤ q4 ∧ q4 < 576460752303423488)) := by
    unfold Hid at *; unfold Wd at *; clear a0 a1 a2 a3 a4 b0 b1 b2 b3 b4; omega
  refine ⟨r0 + 19 * q4, r1 + q0, r2 + q1, r3 + q2, r4 + q3, ?_, ?_, ?_, ?_, ?_, ?_, ?_⟩
  iterate 5 (· unfold Wd; unfold Hid at *; clear a0 a1 a2 a3 a4 b0 b1 b2 b3 b4; omega)
  · unfold Hid at *; clear a0 a1 a2 a3 a4 b0 b1 b2 b3 b4; omega
  · intro w
    have c0 : IntKind.u64.wrap (19 * q4) = 19 * q4 := wrapW _ (by unfold Hid at F; omega) (by unfold Hid at F; omega)
    have d0 : IntKind.u64.wrap (r0 + 19 * q4) = r0 + 19 * q4 := wrapW _ (by unfold Hid at E0 F; omega) (by unfold Hid at E0 F; omega)
    have d1 : IntKind.u64.wrap (r1 + q0) = r1 + q0 := wrapW _ (by unfold Hid at F E1; omega) (by unfold Hid at F E1; omega)
    have d2 : IntKind.u64.wrap (r2 + q1) = r2 + q1 := wrapW _ (by unfold Hid at E2 F; omega) (by unfold Hid at E2 F; omega)
    have d3 : IntKind.u64.wrap (r3 + q2) = r3 + q2 := wrapW _ (by unfold Hid at F E3; omega) (by unfold Hid at F E3; omega)
    have d4 : IntKind.u64.wrap (r4 + q3) = r4 + q3 := wrapW _ (by unfold Hid at E4 F; omega) (by unfold Hid at E4 F; omega)
    have R0 : Hid (∀ w, Calls Tryd.prog 115 #[.agg #[.int .u64 h0, .int .u64 l0]] w fun e w' => e = .returned (.int .u64 r0) ∧ Below w.heap.size w w') := fun w => rest_any h0 l0 r0 a0 w
    have O0 : Hid (∀ w, Calls Tryd.prog 116 #[.agg #[.int .u64 h0, .int .u64 l0]] w fun e w' => e = .returned (.int .u64 q0) ∧ Below w.heap.size w w') := fun w => over_any h0 l0 q0 b0 w
    have R1 : Hid (∀ w, Calls Tryd.prog 115 #[.agg #[.int .u64 h1, .int .u64 l1]] w fun e w' => e = .returned (.int .u64 r1) ∧ Below w.heap.size w w') := fun w => rest_any h1 l1 r1 a1 w
    have O1 : Hid (∀ w, Calls Tryd.prog 116 #[.agg #[.int .u64 h1, .int .u64 l1]] w fun e w' => e = .returned (.int .u64 q1) ∧ Below w.heap.size w w') := fun w => over_any h1 l1 q1 b1 w
    have R2 : Hid (∀ w, Calls Tryd.prog 115 #[.agg #[.int .u64 h2, .int .u64 l2]] w fun e w' => e = .returned (.int .u64 r2) ∧ Below w.heap.size w w') := fun w => rest_any h2 l2 r2 a2 w
    have O2 : Hid (∀ w, Calls Tryd.prog 116 #[.agg #[.int .u64 h2, .int .u64 l2]] w fun e w' => e = .returned (.int .u64 q2) ∧ Below w.heap.size w w') := fun w => over_any h2 l2 q2 b2 w
    have R3 : Hid (∀ w, Calls Tryd.prog 115 #[.agg #[.int .u64 h3, .int .u64 l3]] w fun e w' => e = .returned (.int .u64 r3) ∧ Below w.heap.size w w') := fun w => rest_any h3 l3 r3 a3 w
    have O3 : Hid (∀ w, Calls Tryd.prog 116 #[.agg #[.int .u64 h3, .int .u64 l3]] w fun e w' => e = .returned (.int .u64 q3) ∧ Below w.heap.size w w') := fun w => over_any h3 l3 q3 b3 w
    have R4 : Hid (∀ w, Calls Tryd.prog 115 #[.agg #[.int .u64 h4, .int .u64 l4]] w fun e w' => e = .returned (.int .u64 r4) ∧ Below w.heap.size w w') := fun w => rest_any h4 l4 r4 a4 w
    have O4 : Hid (∀ w, Calls Tryd.prog 116 #[.agg #[.int .u64 h4, .int .u64 l4]] w fun e w' => e = .returned (.int .u64 q4) ∧ Below w.heap.size w w') := fun w => over_any h4 l4 q4 b4 w
    clear E0 E1 E2 E3 E4 F u0 v0 k0 u1 v1 k1 u2 v2 k2 u3 v3 k3 u4 v4 k4 a0 a1 a2 a3 a4 b0 b1 b2 b3 b4
    go_enter Tryd.func97, Tryd.ntmps97
    go_wp2_with fail
    refine wp_region_ext (by kernel_rfl) (by kernel_rfl) ?_
    repeat (go_big_quiet_step ((first
      | with_reducible exact calls_ext (R0.out _)
      | with_reducible exact calls_ext (O0.out _)
      | with_reducible exact calls_ext (R1.out _)
      | with_reducible exact calls_ext (O1.out _)
      | with_reducible exact calls_ext (R2.out _)
      | with_reducible exact calls_ext (O2.out _)
      | with_reducible exact calls_ext (R3.out _)
      | with_reducible exact calls_ext (O3.out _)
      | with_reducible exact calls_ext (R4.out _)
      | with_reducible exact calls_ext (O4.out _))))
    refine wpQuiet_nil ?_
    intro W1 hw
    obtain ⟨n, rfl⟩ := hw
    have Hb := ext_below ((((((w.alloc (.cells #[.int .u64 h0, .int .u64 l0] 125)).alloc (.cells #[.int .u64 h1, .int .u64 l1] 125)).alloc (.cells #[.int .u64 h2, .int .u64 l2] 125)).alloc (.cells #[.int .u64 h3, .int .u64 l3] 125)).alloc (.cells #[.int .u64 h4, .int .u64 l4] 125))) n
    go_wp2_with fail
    refine bodyPost_ret (v := .tuple #[.int .u64 (r0 + 19 * q4), .int .u64 (r1 + q0), .int .u64 (r2 + q1), .int .u64 (r3 + q2), .int .u64 (r4 + q3)]) (by simp [results, Tryd.results97, go_sem]) rfl ?_
    refine ⟨rfl, Below.trans ?_ (Hb.mono (by simp <;> omega))⟩
    repeat (first | exact Below.refl _ _ | refine Below.alloc ?_ (by simp <;> omega) _)

set_option maxHeartbeats 1000000 in
theorem settled_step (l0 l1 l2 l3 l4 : Int) (h0 : Wd l0) (h1 : Wd l1) (h2 : Wd l2) (h3 : Wd l3) (h4 : Wd l4) : ∃ t0 t1 t2 t3 t4 : Int, Hid (Tame t0 t1 t2 t3 t4 ∧ t0 = l0 % 2251799813685248 + 19 * (l4 / 2251799813685248) ∧ t1 = l1 % 2251799813685248 + l0 / 2251799813685248 ∧ t2 = l2 % 2251799813685248 + l1 / 2251799813685248 ∧ t3 = l3 % 2251799813685248 + l2 / 2251799813685248 ∧ t4 = l4 % 2251799813685248 + l3 / 2251799813685248) ∧
    ∀ w : World, Calls Tryd.prog 99 #[.agg #[.int .u64 l0, .int .u64 l1, .int .u64 l2, .int .u64 l3, .int .u64 l4]] w fun e w' => e = .returned (.agg #[.int .u64 t0, .int .u64 t1, .int .u64 t2, .int .u64 t3, .int .u64 t4]) ∧ Below w.heap.size w w' := by
  obtain ⟨t0, t1, t2, t3, t4, E, Q⟩ := settle_step l0 l1 l2 l3 l4 h0 h1 h2 h3 h4
  refine ⟨t0, t1, t2, t3, t4, E, fun w => ?_⟩
  clear E h0 h1 h2 h3 h4
  go_enter Tryd.func99, Tryd.ntmps99
  go_wp2_with (go_at_call 96; refine (Q _).mono ?_; rintro e w' ⟨rfl, rfl⟩)
  refine bodyPost_ret (v := .agg #[.int .u64 t0, .int .u64 t1, .int .u64 t2, .int .u64 t3, .int .u64 t4]) (by simp [results, Tryd.results99, go_sem]) rfl ⟨rfl, ?_⟩
  repeat (first | exact Below.refl _ _ | refine Below.drew ?_ | refine Below.alloc ?_ (by simp <;> omega) _ | refine Below.setCell ?_ (by simp <;> omega) _)

end Go.Proofs.YtedhfimjcpbcpaaDoor

/-
  Boxes of two and of five words; sums of products in a column. Conditions: as each theorem says.
-/
namespace Go.Proofs.YtedhfimjcpbcpaaDoor
open Go.RowKit
set_option linter.unusedVariables false
set_option linter.unusedSimpArgs false

theorem below_drewN {B : Nat} {w W : World} (h : Below B w W) (n : Nat) : Below B w (W.drewN n) := ⟨h.os, h.tape, h.output, h.size, h.block⟩
/-- Block g holds these words, and may be written. -/
structure Bl2 (W : World) (g : Nat) (v0 v1 : Int) : Prop where
  lt : g < W.heap.size
  c0 : W.cell? ⟨g, 0, none⟩ = some (.int .u64 v0)
  c1 : W.cell? ⟨g, 1, none⟩ = some (.int .u64 v1)
  fr : ∀ j, W.frozen? ⟨g, j, none⟩ = false
theorem Bl2.below {W W' : World} {b : Nat} {v0 v1 : Int} (h : Bl2 W b v0 v1) (hb : Below W.heap.size W W') : Bl2 W' b v0 v1 :=
  ⟨Nat.lt_of_lt_of_le h.lt hb.size, (hb.cell (p := ⟨b, 0, none⟩) h.lt).trans h.c0, (hb.cell (p := ⟨b, 1, none⟩) h.lt).trans h.c1, fun j => (hb.frozen (p := ⟨b, j, none⟩) h.lt).trans (h.fr j)⟩
theorem Bl2.alloc {W : World} {b : Nat} {v0 v1 : Int} (h : Bl2 W b v0 v1) (o : Obj) : Bl2 (W.alloc o) b v0 v1 := h.below (Below.alloc (Below.refl _ _) (Nat.le_refl _) o)
theorem Bl2.drew {W : World} {b : Nat} {v0 v1 : Int} (h : Bl2 W b v0 v1) : Bl2 W.drew b v0 v1 := h.below (Below.refl _ _).drew
theorem Bl2.drewN {W : World} {b : Nat} {v0 v1 : Int} (h : Bl2 W b v0 v1) (n : Nat) : Bl2 (W.drewN n) b v0 v1 := h.below (below_drewN (Below.refl _ _) n)
theorem Bl2.new (W : World) (g : Nat) (v0 v1 : Int) (t : TypeId) (hg : g = W.heap.size) : Bl2 (W.alloc (.cells #[.int .u64 v0, .int .u64 v1] t)) g v0 v1 := by
  subst hg
  exact ⟨by simp, by simp, by simp, fun j => by simp [go_sem]⟩
theorem Bl2.other {W : World} {b : Nat} {v0 v1 : Int} (h : Bl2 W b v0 v1) (g i : Nat) (v : Value) (hg : g ≠ b) : Bl2 (W.setCell ⟨g, i, none⟩ v) b v0 v1 :=
  ⟨by simpa using h.lt, by rw [World.cell?_setCell_other _ _ _ _ (fun e => hg (congrArg Addr.block e))]; exact h.c0, by rw [World.cell?_setCell_other _ _ _ _ (fun e => hg (congrArg Addr.block e))]; exact h.c1, fun j => by simpa using h.fr j⟩
theorem Bl2.set {W : World} {b : Nat} {v0 v1 : Int} (h : Bl2 W b v0 v1) (x0 x1 : Int) : Bl2 ((W.setCell ⟨b, 0, none⟩ (.int .u64 x0)).setCell ⟨b, 1, none⟩ (.int .u64 x1)) b x0 x1 := by
  obtain ⟨h0, h1, h2, hf⟩ := h
  refine ⟨by simpa using h0, ?_, ?_, fun j => by simpa using hf j⟩ <;> simp [go_sem, h0, hf, h1, h2]
/-- Block g holds these words, and may be written. -/
structure Bl5 (W : World) (g : Nat) (v0 v1 v2 v3 v4 : Int) : Prop where
  lt : g < W.heap.size
  c0 : W.cell? ⟨g, 0, none⟩ = some (.int .u64 v0)
  c1 : W.cell? ⟨g, 1, none⟩ = some (.int .u64 v1)
  c2 : W.cell? ⟨g, 2, none⟩ = some (.int .u64 v2)
  c3 : W.cell? ⟨g, 3, none⟩ = some (.int .u64 v3)
  c4 : W.cell? ⟨g, 4, none⟩ = some (.int .u64 v4)
  fr : ∀ j, W.frozen? ⟨g, j, none⟩ = false
theorem Bl5.below {W W' : World} {b : Nat} {v0 v1 v2 v3 v4 : Int} (h : Bl5 W b v0 v1 v2 v3 v4) (hb : Below W.heap.size W W') : Bl5 W' b v0 v1 v2 v3 v4 :=
  ⟨Nat.lt_of_lt_of_le h.lt hb.size, (hb.cell (p := ⟨b, 0, none⟩) h.lt).trans h.c0, (hb.cell (p := ⟨b, 1, none⟩) h.lt).trans h.c1, (hb.cell (p := ⟨b, 2, none⟩) h.lt).trans h.c2, (hb.cell (p := ⟨b, 3, none⟩) h.lt).trans h.c3, (hb.cell (p := ⟨b, 4, none⟩) h.lt).trans h.c4, fun j => (hb.frozen (p := ⟨b, j, none⟩) h.lt).trans (h.fr j)⟩
theorem Bl5.alloc {W : World} {b : Nat} {v0 v1 v2 v3 v4 : Int} (h : Bl5 W b v0 v1 v2 v3 v4) (o : Obj) : Bl5 (W.alloc o) b v0 v1 v2 v3 v4 := h.below (Below.alloc (Below.refl _ _) (Nat.le_refl _) o)
theorem Bl5.drew {W : World} {b : Nat} {v0 v1 v2 v3 v4 : Int} (h : Bl5 W b v0 v1 v2 v3 v4) : Bl5 W.drew b v0 v1 v2 v3 v4 := h.below (Below.refl _ _).drew
theorem Bl5.drewN {W : World} {b : Nat} {v0 v1 v2 v3 v4 : Int} (h : Bl5 W b v0 v1 v2 v3 v4) (n : Nat) : Bl5 (W.drewN n) b v0 v1 v2 v3 v4 := h.below (below_drewN (Below.refl _ _) n)
theorem Bl5.new (W : World) (g : Nat) (v0 v1 v2 v3 v4 : Int) (t : TypeId) (hg : g = W.heap.size) : Bl5 (W.alloc (.cells #[.int .u64 v0, .int .u64 v1, .int .u64 v2, .int .u64 v3, .int .u64 v4] t)) g v0 v1 v2 v3 v4 := by
  subst hg
  exact ⟨by simp, by simp, by simp, by simp, by simp, by simp, fun j => by simp [go_sem]⟩
theorem Bl5.other {W : World} {b : Nat} {v0 v1 v2 v3 v4 : Int} (h : Bl5 W b v0 v1 v2 v3 v4) (g i : Nat) (v : Value) (hg : g ≠ b) : Bl5 (W.setCell ⟨g, i, none⟩ v) b v0 v1 v2 v3 v4 :=
  ⟨by simpa using h.lt, by rw [World.cell?_setCell_other _ _ _ _ (fun e => hg (congrArg Addr.block e))]; exact h.c0, by rw [World.cell?_setCell_other _ _ _ _ (fun e => hg (congrArg Addr.block e))]; exact h.c1, by rw [World.cell?_setCell_other _ _ _ _ (fun e => hg (congrArg Addr.block e))]; exact h.c2, by rw [World.cell?_setCell_other _ _ _ _ (fun e => hg (congrArg Addr.block e))]; exact h.c3, by rw [World.cell?_setCell_other _ _ _ _ (fun e => hg (congrArg Addr.block e))]; exact h.c4, fun j => by simpa using h.fr j⟩
theorem Bl5.set {W : World} {b : Nat} {v0 v1 v2 v3 v4 : Int} (h : Bl5 W b v0 v1 v2 v3 v4) (x0 x1 x2 x3 x4 : Int) : Bl5 (((((W.setCell ⟨b, 0, none⟩ (.int .u64 x0)).setCell ⟨b, 1, none⟩ (.int .u64 x1)).setCell ⟨b, 2, none⟩ (.int .u64 x2)).setCell ⟨b, 3, none⟩ (.int .u64 x3)).setCell ⟨b, 4, none⟩ (.int .u64 x4)) b x0 x1 x2 x3 x4 := by
  obtain ⟨h0, h1, h2, h3, h4, h5, hf⟩ := h
  refine ⟨by simpa using h0, ?_, ?_, ?_, ?_, ?_, fun j => by simpa using hf j⟩ <;> simp [go_sem, h0, hf, h1, h2, h3, h4, h5]
def pick5 (x0 x1 x2 x3 x4 x5 : Int) : Nat → Int
  | 0 => x0 | 1 => x1 | 2 => x2 | 3 => x3 | 4 => x4 | _ => x5
theorem Bl5.at {W : World} {g : Nat} {v0 v1 v2 v3 v4 : Int} (h : Bl5 W g v0 v1 v2 v3 v4) (k : Nat) (hk : k < 5) : W.cell? ⟨g, k, none⟩ = some (.int .u64 (pick5 v0 v1 v2 v3 v4 0 k)) := by
  match k, hk with
  | 0, _ => exact h.c0
  | 1, _ => exact h.c1
  | 2, _ => exact h.c2
  | 3, _ => exact h.c3
  | 4, _ => exact h.c4
theorem calls_at {P : Program} {f : FuncId} {args : Array Value} {Q : Ending → World → Prop} {w : World} (F : World → Prop) (h : F w) (k : ∀ w', F w' → Calls P f args w' Q) : Calls P f args w Q := k w h
theorem body_cut {P : Program} {fn : Func} {Q : Ending → World → Prop} {x : Exit} {a : Act} {w : World} (F : World → Prop) (h : F w) (k : ∀ w', F w' → bodyPost P fn Q x a w') : bodyPost P fn Q x a w := k w h
theorem mul_lt' (a b A B : Int) (h0 : 0 ≤ a) (h1 : a < A) (h2 : 0 ≤ b) (h3 : b < B) : 0 ≤ a * b ∧ a * b < A * B := by
  refine ⟨Int.mul_nonneg h0 h2, ?_⟩
  have e1 : a * b ≤ a * B := Int.mul_le_mul_of_nonneg_left (by omega) h0
  have e2 : a * B < A * B := Int.mul_lt_mul_of_pos_right h1 (by omega)
  omega
set_option maxHeartbeats 1000000 in
theorem col5 (a0 a1 a2 a3 a4 b0 b1 b2 b3 b4 : Int) (ha0 : Wd a0) (hb0 : Wd b0) (p0 : 0 ≤ a0 * b0 ∧ a0 * b0 < 1298074214633706907132624082305024) (ha1 : Wd a1) (hb1 : Wd b1) (p1 : 0 ≤ a1 * b1 ∧ a1 * b1 < 1298074214633706907132624082305024) (ha2 : Wd a2) (hb2 : Wd b2) (p2 : 0 ≤ a2 * b2 ∧ a2 * b2 < 1298074214633706907132624082305024) (ha3 : Wd a3) (hb3 : Wd b3) (p3 : 0 ≤ a3 * b3 ∧ a3 * b3 < 1298074214633706907132624082305024) (ha4 : Wd a4) (hb4 : Wd b4) (p4 : 0 ≤ a4 * b4 ∧ a4 * b4 < 1298074214633706907132624082305024) : ∃ h1 l1 h2 l2 h3 l3 h4 l4 h5 l5 : Int, (∀ w : World, Calls Tryd.prog 95 #[.agg #[.int .u64 0, .int .u64 0], .int .u64 a0, .int .u64 b0] w fun e w' => e = .returned (.agg #[.int .u64 h1, .int .u64 l1]) ∧ ∃ c1 c2 : Array Value, w' = (w.alloc (.cells c1 125)).alloc (.cells c2 125)) ∧ (∀ w : World, Calls Tryd.prog 95 #[.agg #[.int .u64 h1, .int .u64 l1], .int .u64 a1, .int .u64 b1] w fun e w' => e = .returned (.agg #[.int .u64 h2, .int .u64 l2]) ∧ ∃ c1 c2 : Array Value, w' = (w.alloc (.cells c1 125)).alloc (.cells c2 125)) ∧ (∀ w : World, Calls Tryd.prog 95 #[.agg #[.int .u64 h2, .int .u64 l2], .int .u64 a2, .int .u64 b2] w fun e w' => e = .returned (.agg #[.int .u64 h3, .int .u64 l3]) ∧ ∃ c1 c2 : Array Value, w' = (w.alloc (.cells c1 125)).alloc (.cells c2 125)) ∧ (∀ w : World, Calls Tryd.prog 95 #[.agg #[.int .u64 h3, .int .u64 l3], .int .u64 a3, .int .u64 b3] w fun e w' => e = .returned (.agg #[.int .u64 h4, .int .u64 l4]) ∧ ∃ c1 c2 : Array Value, w' = (w.alloc (.cells c1 125)).alloc (.cells c2 125)) ∧ (∀ w : World, Calls Tryd.prog 95 #[.agg #[.int .u64 h4, .int .u64 l4], .int .u64 a4, .int .u64 b4] w fun e w' => e = .returned (.agg #[.int .u64 h5, .int .u64 l5]) ∧ ∃ c1 c2 : Array Value, w' = (w.alloc (.cells c1 125)).alloc (.cells c2 125)) ∧ Wd h5 ∧ Wd l5 ∧ Hid (h5 * 18446744073709551616 + l5 = a0 * b0 + a1 * b1 + a2 * b2 + a3 * b3 + a4 * b4) := by
  obtain ⟨h1, l1, w1, x1, E1, Q1⟩ := plus_step 0 0 a0 b0 ⟨by omega, by omega⟩ ⟨by omega, by omega⟩ ha0 hb0 (by clear ha0; omega)
  obtain ⟨h2, l2, w2, x2, E2, Q2⟩ := plus_step h1 l1 a1 b1 w1 x1 ha1 hb1 (by unfold Hid at *; clear Q1; omega)
  obtain ⟨h3, l3, w3, x3, E3, Q3⟩ := plus_step h2 l2 a2 b2 w2 x2 ha2 hb2 (by unfold Hid at *; clear Q1 Q2; omega)
  obtain ⟨h4, l4, w4, x4, E4, Q4⟩ := plus_step h3 l3 a3 b3 w3 x3 ha3 hb3 (by unfold Hid at *; clear Q1 Q2 Q3; omega)
  obtain ⟨h5, l5, w5, x5, E5, Q5⟩ := plus_step h4 l4 a4 b4 w4 x4 ha4 hb4 (by unfold Hid at *; clear Q1 Q2 Q3 Q4; omega)
  refine ⟨h1, l1, h2, l2, h3, l3, h4, l4, h5, l5, Q1, Q2, Q3, Q4, Q5, w5, x5, ?_⟩
  unfold Hid at *; clear Q1 Q2 Q3 Q4 Q5; omega
set_option maxHeartbeats 1000000 in
theorem col3 (a0 a1 a2 b0 b1 b2 : Int) (ha0 : Wd a0) (hb0 : Wd b0) (p0 : 0 ≤ a0 * b0 ∧ a0 * b0 < 1298074214633706907132624082305024) (ha1 : Wd a1) (hb1 : Wd b1) (p1 : 0 ≤ a1 * b1 ∧ a1 * b1 < 1298074214633706907132624082305024) (ha2 : Wd a2) (hb2 : Wd b2) (p2 : 0 ≤ a2 * b2 ∧ a2 * b2 < 1298074214633706907132624082305024) : ∃ h1 l1 h2 l2 h3 l3 : Int, (∀ w : World, Calls Tryd.prog 95 #[.agg #[.int .u64 0, .int .u64 0], .int .u64 a0, .int .u64 b0] w fun e w' => e = .returned (.agg #[.int .u64 h1, .int .u64 l1]) ∧ ∃ c1 c2 : Array Value, w' = (w.alloc (.cells c1 125)).alloc (.cells c2 125)) ∧ (∀ w : World, Calls Tryd.prog 95 #[.agg #[.int .u64 h1, .int .u64 l1], .int .u64 a1, .int .u64 b1] w fun e w' => e = .returned (.agg #[.int .u64 h2, .int .u64 l2]) ∧ ∃ c1 c2 : Array Value, w' = (w.alloc (.cells c1 125)).alloc (.cells c2 125)) ∧ (∀ w : World, Calls Tryd.prog 95 #[.agg #[.int .u64 h2, .int .u64 l2], .int .u64 a2, .int .u64 b2] w fun e w' => e = .returned (.agg #[.int .u64 h3, .int .u64 l3]) ∧ ∃ c1 c2 : Array Value, w' = (w.alloc (.cells c1 125)).alloc (.cells c2 125)) ∧ Wd h3 ∧ Wd l3 ∧ Hid (h3 * 18446744073709551616 + l3 = a0 * b0 + a1 * b1 + a2 * b2) := by
  obtain ⟨h1, l1, w1, x1, E1, Q1⟩ := plus_step 0 0 a0 b0 ⟨by omega, by omega⟩ ⟨by omega, by omega⟩ ha0 hb0 (by clear ha0; omega)
  obtain ⟨h2, l2, w2, x2, E2, Q2⟩ := plus_step h1 l1 a1 b1 w1 x1 ha1 hb1 (by unfold Hid at *; clear Q1; omega)
  obtain ⟨h3, l3, w3, x3, E3, Q3⟩ := plus_step h2 l2 a2 b2 w2 x2 ha2 hb2 (by unfold Hid at *; clear Q1 Q2; omega)
  refine ⟨h1, l1, h2, l2, h3, l3, Q1, Q2, Q3, w3, x3, ?_⟩
  unfold Hid at *; clear Q1 Q2 Q3; omega

end Go.Proofs.YtedhfimjcpbcpaaDoor

/-
  The contract of the field's Mul: for tame elements it returns a tame element whose number is the product modulo 2^255 - 19, and changes no memory that was there. Conditions: as the theorem says.
-/
namespace Go.Proofs.YtedhfimjcpbcpaaDoor
open Go.RowKit
set_option linter.unusedVariables false

theorem mul_poly (a0 a1 a2 a3 a4 b0 b1 b2 b3 b4 B : Int) :
    (a0 + B * a1 + B ^ 2 * a2 + B ^ 3 * a3 + B ^ 4 * a4) * (b0 + B * b1 + B ^ 2 * b2 + B ^ 3 * b3 + B ^ 4 * b4) =
    (a0 * b0 + a1 * (19 * b4) + a2 * (19 * b3) + a3 * (19 * b2) + a4 * (19 * b1)) + B * (a0 * b1 + a1 * b0 + a2 * (19 * b4) + a3 * (19 * b3) + a4 * (19 * b2)) + B ^ 2 * (a0 * b2 + a1 * b1 + a2 * b0 + a3 * (19 * b4) + a4 * (19 * b3)) + B ^ 3 * (a0 * b3 + a1 * b2 + a2 * b1 + a3 * b0 + a4 * (19 * b4)) + B ^ 4 * (a0 * b4 + a1 * b3 + a2 * b2 + a3 * b1 + a4 * b0)
     + (B ^ 5 - 19) * ((a1 * b4 + a2 * b3 + a3 * b2 + a4 * b1) + B * (a2 * b4 + a3 * b3 + a4 * b2) + B ^ 2 * (a3 * b4 + a4 * b3) + B ^ 3 * (a4 * b4)) := by
  grind
theorem mul_val5 (a0 a1 a2 a3 a4 b0 b1 b2 b3 b4 : Int) : ∃ k : Int, val5 a0 a1 a2 a3 a4 * val5 b0 b1 b2 b3 b4 =
    val5 (a0 * b0 + a1 * (19 * b4) + a2 * (19 * b3) + a3 * (19 * b2) + a4 * (19 * b1)) (a0 * b1 + a1 * b0 + a2 * (19 * b4) + a3 * (19 * b3) + a4 * (19 * b2)) (a0 * b2 + a1 * b1 + a2 * b0 + a3 * (19 * b4) + a4 * (19 * b3)) (a0 * b3 + a1 * b2 + a2 * b1 + a3 * b0 + a4 * (19 * b4)) (a0 * b4 + a1 * b3 + a2 * b2 + a3 * b1 + a4 * b0) + (P25 : Int) * k :=
  ⟨_, mul_poly a0 a1 a2 a3 a4 b0 b1 b2 b3 b4 2251799813685248⟩
/-- Columns that are spread and settled keep their number. -/
theorem spread_val (c0 c1 c2 c3 c4 s0 s1 s2 s3 s4 t0 t1 t2 t3 t4 : Int)
    (h : s0 = c0 % 2251799813685248 + 19 * (c4 / 2251799813685248) ∧ s1 = c1 % 2251799813685248 + c0 / 2251799813685248 ∧ s2 = c2 % 2251799813685248 + c1 / 2251799813685248 ∧ s3 = c3 % 2251799813685248 + c2 / 2251799813685248 ∧ s4 = c4 % 2251799813685248 + c3 / 2251799813685248)
    (g : t0 = s0 % 2251799813685248 + 19 * (s4 / 2251799813685248) ∧ t1 = s1 % 2251799813685248 + s0 / 2251799813685248 ∧ t2 = s2 % 2251799813685248 + s1 / 2251799813685248 ∧ t3 = s3 % 2251799813685248 + s2 / 2251799813685248 ∧ t4 = s4 % 2251799813685248 + s3 / 2251799813685248) :
    ∃ k : Int, val5 c0 c1 c2 c3 c4 = val5 t0 t1 t2 t3 t4 + (P25 : Int) * k := by
  refine ⟨c4 / 2251799813685248 + s4 / 2251799813685248, ?_⟩
  unfold val5 P25
  omega
theorem mod_of_sum {x y k : Int} (h : x = y + (P25 : Int) * k) : y % (P25 : Int) = x % (P25 : Int) := by rw [h, Int.add_mul_emod_self_left]

/-- Five limbs. -/
structure L5 where
  l0 : Int
  l1 : Int
  l2 : Int
  l3 : Int
  l4 : Int
def L5.Tm (x : L5) : Prop := Tame x.l0 x.l1 x.l2 x.l3 x.l4
def L5.num (x : L5) : Int := val5 x.l0 x.l1 x.l2 x.l3 x.l4
/-- A column that has been added to. -/
def PlusTo (h l a b h' l' : Int) : Prop := ∀ w : World, Calls Tryd.prog 95 #[.agg #[.int .u64 h, .int .u64 l], .int .u64 a, .int .u64 b] w fun e w' => e = .returned (.agg #[.int .u64 h', .int .u64 l']) ∧ Below w.heap.size w w'
theorem plusTo_of {h l a b h' l' : Int} (q : ∀ w : World, Calls Tryd.prog 95 #[.agg #[.int .u64 h, .int .u64 l], .int .u64 a, .int .u64 b] w fun e w' => e = .returned (.agg #[.int .u64 h', .int .u64 l']) ∧ ∃ c1 c2 : Array Value, w' = (w.alloc (.cells c1 125)).alloc (.cells c2 125)) : PlusTo h l a b h' l' :=
  fun w => (q w).mono fun e w' ⟨he, c1, c2, hw⟩ => ⟨he, by subst hw; exact ((Below.refl _ _).alloc (Nat.le_refl _) _).alloc (by simp) _⟩

set_option maxHeartbeats 4000000 in
/-- The columns of a product, after each limb. -/
theorem mul_cols (a0 a1 a2 a3 a4 b0 b1 b2 b3 b4 : Int) (ta : Tame a0 a1 a2 a3 a4) (tb : Tame b0 b1 b2 b3 b4) : ∃ (H L Y : Nat → Nat → Int),
    (∀ j, H j 0 = 0 ∧ L j 0 = 0) ∧ (Y 0 0 = b0 ∧ Y 1 0 = b1 ∧ Y 2 0 = b2 ∧ Y 3 0 = b3 ∧ Y 4 0 = b4) ∧
    (∀ k, k < 5 → IntKind.u64.wrap (19 * Y 4 k) = Y 0 (k + 1) ∧ Y 0 k = Y 1 (k + 1) ∧ Y 1 k = Y 2 (k + 1) ∧ Y 2 k = Y 3 (k + 1) ∧ Y 3 k = Y 4 (k + 1)) ∧
    (∀ k, k < 5 → ∀ j, j < 5 → PlusTo (H j k) (L j k) (pick5 a0 a1 a2 a3 a4 0 k) (Y j k) (H j (k + 1)) (L j (k + 1))) ∧
    ∃ s0 s1 s2 s3 s4 t0 t1 t2 t3 t4 : Int, Tame t0 t1 t2 t3 t4 ∧ Hid (val5 t0 t1 t2 t3 t4 % (P25 : Int) = val5 a0 a1 a2 a3 a4 * val5 b0 b1 b2 b3 b4 % (P25 : Int)) ∧
    (∀ w : World, Calls Tryd.prog 97 #[.agg #[.int .u64 (H 0 5), .int .u64 (L 0 5)], .agg #[.int .u64 (H 1 5), .int .u64 (L 1 5)], .agg #[.int .u64 (H 2 5), .int .u64 (L 2 5)], .agg #[.int .u64 (H 3 5), .int .u64 (L 3 5)], .agg #[.int .u64 (H 4 5), .int .u64 (L 4 5)]] w fun e w' => e = .returned (.tuple #[.int .u64 s0, .int .u64 s1, .int .u64 s2, .int .u64 s3, .int .u64 s4]) ∧ Below w.heap.size w w') ∧
    (∀ w : World, Calls Tryd.prog 96 #[.int .u64 s0, .int .u64 s1, .int .u64 s2, .int .u64 s3, .int .u64 s4] w fun e w' => e = .returned (.tuple #[.int .u64 t0, .int .u64 t1, .int .u64 t2, .int .u64 t3, .int .u64 t4]) ∧ w' = w) := by
  have wa0 : Wd a0 := by unfold Tame at ta; unfold Wd; clear tb; omega
  have wb0 : Wd b0 := by unfold Tame at tb; unfold Wd; clear ta; omega
  have wc0 : Wd (19 * b0) := by unfold Tame at tb; unfold Wd; clear ta; omega
  have wa1 : Wd a1 := by unfold Tame at ta; unfold Wd; clear tb; omega
  have wb1 : Wd b1 := by unfold Tame at tb; unfold Wd; clear ta; omega
  have wc1 : Wd (19 * b1) := by unfold Tame at tb; unfold Wd; clear ta; omega
  have wa2 : Wd a2 := by unfold Tame at ta; unfold Wd; clear tb; omega
  have wb2 : Wd b2 := by unfold Tame at tb; unfold Wd; clear ta; omega
  have wc2 : Wd (19 * b2) := by unfold Tame at tb; unfold Wd; clear ta; omega
  have wa3 : Wd a3 := by unfold Tame at ta; unfold Wd; clear tb; omega
  have wb3 : Wd b3 := by unfold Tame at tb; unfold Wd; clear ta; omega
  have wc3 : Wd (19 * b3) := by unfold Tame at tb; unfold Wd; clear ta; omega
  have wa4 : Wd a4 := by unfold Tame at ta; unfold Wd; clear tb; omega
  have wb4 : Wd b4 := by unfold Tame at tb; unfold Wd; clear ta; omega
  have wc4 : Wd (19 * b4) := by unfold Tame at tb; unfold Wd; clear ta; omega
  have p00 := mul_lt' a0 b0 4503599627370496 4503599627370496 (by unfold Tame at ta; omega) (by unfold Tame at ta; omega) (by unfold Tame at tb; omega) (by unfold Tame at tb; omega)
  have p01 := mul_lt' a0 b1 4503599627370496 4503599627370496 (by unfold Tame at ta; omega) (by unfold Tame at ta; omega) (by unfold Tame at tb; omega) (by unfold Tame at tb; omega)
  have p02 := mul_lt' a0 b2 4503599627370496 4503599627370496 (by unfold Tame at ta; omega) (by unfold Tame at ta; omega) (by unfold Tame at tb; omega) (by unfold Tame at tb; omega)
  have p03 := mul_lt' a0 b3 4503599627370496 4503599627370496 (by unfold Tame at ta; omega) (by unfold Tame at ta; omega) (by unfold Tame at tb; omega) (by unfold Tame at tb; omega)
  have p04 := mul_lt' a0 b4 4503599627370496 4503599627370496 (by unfold Tame at ta; omega) (by unfold Tame at ta; omega) (by unfold Tame at tb; omega) (by unfold Tame at tb; omega)
  have p10 := mul_lt' a1 b0 4503599627370496 4503599627370496 (by unfold Tame at ta; omega) (by unfold Tame at ta; omega) (by unfold Tame at tb; omega) (by unfold Tame at tb; omega)
  have p11 := mul_lt' a1 b1 4503599627370496 4503599627370496 (by unfold Tame at ta; omega) (by unfold Tame at ta; omega) (by unfold Tame at tb; omega) (by unfold Tame at tb; omega)
  have p12 := mul_lt' a1 b2 4503599627370496 4503599627370496 (by unfold Tame at ta; omega) (by unfold Tame at ta; omega) (by unfold Tame at tb; omega) (by unfold Tame at tb; omega)
  have p13 := mul_lt' a1 b3 4503599627370496 4503599627370496 (by unfold Tame at ta; omega) (by unfold Tame at ta; omega) (by unfold Tame at tb; omega) (by unfold Tame at tb; omega)
  have g14 := mul_lt' a1 (19 * b4) 4503599627370496 85568392920039424 (by unfold Tame at ta; omega) (by unfold Tame at ta; omega) (by unfold Tame at tb; omega) (by unfold Tame at tb; omega)
  have p20 := mul_lt' a2 b0 4503599627370496 4503599627370496 (by unfold Tame at ta; omega) (by unfold Tame at ta; omega) (by unfold Tame at tb; omega) (by unfold Tame at tb; omega)
  have p21 := mul_lt' a2 b1 4503599627370496 4503599627370496 (by unfold Tame at ta; omega) (by unfold Tame at ta; omega) (by unfold Tame at tb; omega) (by unfold Tame at tb; omega)
  have p22 := mul_lt' a2 b2 4503599627370496 4503599627370496 (by unfold Tame at ta; omega) (by unfold Tame at ta; omega) (by unfold Tame at tb; omega) (by unfold Tame at tb; omega)
  have g23 := mul_lt' a2 (19 * b3) 4503599627370496 85568392920039424 (by unfold Tame at ta; omega) (by unfold Tame at ta; omega) (by unfold Tame at tb; omega) (by unfold Tame at tb; omega)
  have g24 := mul_lt' a2 (19 * b4) 4503599627370496 85568392920039424 (by unfold Tame at ta; omega) (by unfold Tame at ta; omega) (by unfold Tame at tb; omega) (by unfold Tame at tb; omega)
  have p30 := mul_lt' a3 b0 4503599627370496 4503599627370496 (by unfold Tame at ta; omega) (by unfold Tame at ta; omega) (by unfold Tame at tb; omega) (by unfold Tame at tb; omega)
  have p31 := mul_lt' a3 b1 4503599627370496 4503599627370496 (by unfold Tame at ta; omega) (by unfold Tame at ta; omega) (by unfold Tame at tb; omega) (by unfold Tame at tb; omega)
  have g32 := mul_lt' a3 (19 * b2) 4503599627370496 85568392920039424 (by unfold Tame at ta; omega) (by unfold Tame at ta; omega) (by unfold Tame at tb; omega) (by unfold Tame at tb; omega)
  have g33 := mul_lt' a3 (19 * b3) 4503599627370496 85568392920039424 (by unfold Tame at ta; omega) (by unfold Tame at ta; omega) (by unfold Tame at tb; omega) (by unfold Tame at tb; omega)
  have g34 := mul_lt' a3 (19 * b4) 4503599627370496 85568392920039424 (by unfold Tame at ta; omega) (by unfold Tame at ta; omega) (by unfold Tame at tb; omega) (by unfold Tame at tb; omega)
  have p40 := mul_lt' a4 b0 4503599627370496 4503599627370496 (by unfold Tame at ta; omega) (by unfold Tame at ta; omega) (by unfold Tame at tb; omega) (by unfold Tame at tb; omega)
  have g41 := mul_lt' a4 (19 * b1) 4503599627370496 85568392920039424 (by unfold Tame at ta; omega) (by unfold Tame at ta; omega) (by unfold Tame at tb; omega) (by unfold Tame at tb; omega)
  have g42 := mul_lt' a4 (19 * b2) 4503599627370496 85568392920039424 (by unfold Tame at ta; omega) (by unfold Tame at ta; omega) (by unfold Tame at tb; omega) (by unfold Tame at tb; omega)
  have g43 := mul_lt' a4 (19 * b3) 4503599627370496 85568392920039424 (by unfold Tame at ta; omega) (by unfold Tame at ta; omega) (by unfold Tame at tb; omega) (by unfold Tame at tb; omega)
  have g44 := mul_lt' a4 (19 * b4) 4503599627370496 85568392920039424 (by unfold Tame at ta; omega) (by unfold Tame at ta; omega) (by unfold Tame at tb; omega) (by unfold Tame at tb; omega)
  obtain ⟨h0_1, l0_1, h0_2, l0_2, h0_3, l0_3, h0_4, l0_4, h0_5, l0_5, Q0_0, Q0_1, Q0_2, Q0_3, Q0_4, y0, z0, E0⟩ := col5 a0 a1 a2 a3 a4 b0 (19 * b4) (19 * b3) (19 * b2) (19 * b1) wa0 wb0 ⟨p00.1, by have := p00.2; omega⟩ wa1 wc4 ⟨g14.1, by have := g14.2; omega⟩ wa2 wc3 ⟨g23.1, by have := g23.2; omega⟩ wa3 wc2 ⟨g32.1, by have := g32.2; omega⟩ wa4 wc1 ⟨g41.1, by have := g41.2; omega⟩
  obtain ⟨h1_1, l1_1, h1_2, l1_2, h1_3, l1_3, h1_4, l1_4, h1_5, l1_5, Q1_0, Q1_1, Q1_2, Q1_3, Q1_4, y1, z1, E1⟩ := col5 a0 a1 a2 a3 a4 b1 b0 (19 * b4) (19 * b3) (19 * b2) wa0 wb1 ⟨p01.1, by have := p01.2; omega⟩ wa1 wb0 ⟨p10.1, by have := p10.2; omega⟩ wa2 wc4 ⟨g24.1, by have := g24.2; omega⟩ wa3 wc3 ⟨g33.1, by have := g33.2; omega⟩ wa4 wc2 ⟨g42.1, by have := g42.2; omega⟩
  obtain ⟨h2_1, l2_1, h2_2, l2_2, h2_3, l2_3, h2_4, l2_4, h2_5, l2_5, Q2_0, Q2_1, Q2_2, Q2_3, Q2_4, y2, z2, E2⟩ := col5 a0 a1 a2 a3 a4 b2 b1 b0 (19 * b4) (19 * b3) wa0 wb2 ⟨p02.1, by have := p02.2; omega⟩ wa1 wb1 ⟨p11.1, by have := p11.2; omega⟩ wa2 wb0 ⟨p20.1, by have := p20.2; omega⟩ wa3 wc4 ⟨g34.1, by have := g34.2; omega⟩ wa4 wc3 ⟨g43.1, by have := g43.2; omega⟩
  obtain ⟨h3_1, l3_1, h3_2, l3_2, h3_3, l3_3, h3_4, l3_4, h3_5, l3_5, Q3_0, Q3_1, Q3_2, Q3_3, Q3_4, y3, z3, E3⟩ := col5 a0 a1 a2 a3 a4 b3 b2 b1 b0 (19 * b4) wa0 wb3 ⟨p03.1, by have := p03.2; omega⟩ wa1 wb2 ⟨p12.1, by have := p12.2; omega⟩ wa2 wb1 ⟨p21.1, by have := p21.2; omega⟩ wa3 wb0 ⟨p30.1, by have := p30.2; omega⟩ wa4 wc4 ⟨g44.1, by have := g44.2; omega⟩
  obtain ⟨h4_1, l4_1, h4_2, l4_2, h4_3, l4_3, h4_4, l4_4, h4_5, l4_5, Q4_0, Q4_1, Q4_2, Q4_3, Q4_4, y4, z4, E4⟩ := col5 a0 a1 a2 a3 a4 b4 b3 b2 b1 b0 wa0 wb4 ⟨p04.1, by have := p04.2; omega⟩ wa1 wb3 ⟨p13.1, by have := p13.2; omega⟩ wa2 wb2 ⟨p22.1, by have := p22.2; omega⟩ wa3 wb1 ⟨p31.1, by have := p31.2; omega⟩ wa4 wb0 ⟨p40.1, by have := p40.2; omega⟩
  have m0 : h0_5 < 140737488355328 := by unfold Hid at E0; unfold Wd at z0; have := p00; have := g14; have := g23; have := g32; have := g41; omega
  have m1 : h1_5 < 140737488355328 := by unfold Hid at E1; unfold Wd at z1; have := p01; have := p10; have := g24; have := g33; have := g42; omega
  have m2 : h2_5 < 140737488355328 := by unfold Hid at E2; unfold Wd at z2; have := p02; have := p11; have := p20; have := g34; have := g43; omega
  have m3 : h3_5 < 140737488355328 := by unfold Hid at E3; unfold Wd at z3; have := p03; have := p12; have := p21; have := p30; have := g44; omega
  have m4 : h4_5 < 70368744177664 := by unfold Hid at E4; unfold Wd at z4; have := p04; have := p13; have := p22; have := p31; have := p40; omega
  obtain ⟨s0, s1, s2, s3, s4, ws0, ws1, ws2, ws3, ws4, S, QS⟩ := spread_step h0_5 l0_5 h1_5 l1_5 h2_5 l2_5 h3_5 l3_5 h4_5 l4_5 y0 z0 m0 y1 z1 m1 y2 z2 m2 y3 z3 m3 y4 z4 m4
  obtain ⟨t0, t1, t2, t3, t4, T, QT⟩ := settle_step s0 s1 s2 s3 s4 ws0 ws1 ws2 ws3 ws4
  refine ⟨fun j => match j with | 0 => pick5 0 h0_1 h0_2 h0_3 h0_4 h0_5 | 1 => pick5 0 h1_1 h1_2 h1_3 h1_4 h1_5 | 2 => pick5 0 h2_1 h2_2 h2_3 h2_4 h2_5 | 3 => pick5 0 h3_1 h3_2 h3_3 h3_4 h3_5 | 4 => pick5 0 h4_1 h4_2 h4_3 h4_4 h4_5 | _ => fun _ => 0, fun j => match j with | 0 => pick5 0 l0_1 l0_2 l0_3 l0_4 l0_5 | 1 => pick5 0 l1_1 l1_2 l1_3 l1_4 l1_5 | 2 => pick5 0 l2_1 l2_2 l2_3 l2_4 l2_5 | 3 => pick5 0 l3_1 l3_2 l3_3 l3_4 l3_5 | 4 => pick5 0 l4_1 l4_2 l4_3 l4_4 l4_5 | _ => fun _ => 0, fun j => match j with | 0 => pick5 b0 (19 * b4) (19 * b3) (19 * b2) (19 * b1) (19 * b0) | 1 => pick5 b1 b0 (19 * b4) (19 * b3) (19 * b2) (19 * b1) | 2 => pick5 b2 b1 b0 (19 * b4) (19 * b3) (19 * b2) | 3 => pick5 b3 b2 b1 b0 (19 * b4) (19 * b3) | 4 => pick5 b4 b3 b2 b1 b0 (19 * b4) | _ => fun _ => 0, ?_, ⟨rfl, rfl, rfl, rfl, rfl⟩, ?_, ?_, s0, s1, s2, s3, s4, t0, t1, t2, t3, t4, T.out.1, ?_, QS, QT⟩
  · intro j
    match j with
    | 0 | 1 | 2 | 3 | 4 => exact ⟨rfl, rfl⟩
    | n + 5 => exact ⟨rfl, rfl⟩
  · intro k hk
    match k, hk with
    | 0, _ => exact ⟨wrapW _ wc4.1 wc4.2, rfl, rfl, rfl, rfl⟩
    | 1, _ => exact ⟨wrapW _ wc3.1 wc3.2, rfl, rfl, rfl, rfl⟩
    | 2, _ => exact ⟨wrapW _ wc2.1 wc2.2, rfl, rfl, rfl, rfl⟩
    | 3, _ => exact ⟨wrapW _ wc1.1 wc1.2, rfl, rfl, rfl, rfl⟩
    | 4, _ => exact ⟨wrapW _ wc0.1 wc0.2, rfl, rfl, rfl, rfl⟩
  · intro k hk j hj
    match k, hk, j, hj with
    | 0, _, 0, _ => exact plusTo_of Q0_0
    | 1, _, 0, _ => exact plusTo_of Q0_1
    | 2, _, 0, _ => exact plusTo_of Q0_2
    | 3, _, 0, _ => exact plusTo_of Q0_3
    | 4, _, 0, _ => exact plusTo_of Q0_4
    | 0, _, 1, _ => exact plusTo_of Q1_0
    | 1, _, 1, _ => exact plusTo_of Q1_1
    | 2, _, 1, _ => exact plusTo_of Q1_2
    | 3, _, 1, _ => exact plusTo_of Q1_3
    | 4, _, 1, _ => exact plusTo_of Q1_4
    | 0, _, 2, _ => exact plusTo_of Q2_0
    | 1, _, 2, _ => exact plusTo_of Q2_1
    | 2, _, 2, _ => exact plusTo_of Q2_2
    | 3, _, 2, _ => exact plusTo_of Q2_3
    | 4, _, 2, _ => exact plusTo_of Q2_4
    | 0, _, 3, _ => exact plusTo_of Q3_0
    | 1, _, 3, _ => exact plusTo_of Q3_1
    | 2, _, 3, _ => exact plusTo_of Q3_2
    | 3, _, 3, _ => exact plusTo_of Q3_3
    | 4, _, 3, _ => exact plusTo_of Q3_4
    | 0, _, 4, _ => exact plusTo_of Q4_0
    | 1, _, 4, _ => exact plusTo_of Q4_1
    | 2, _, 4, _ => exact plusTo_of Q4_2
    | 3, _, 4, _ => exact plusTo_of Q4_3
    | 4, _, 4, _ => exact plusTo_of Q4_4
  · unfold Hid at E0 E1 E2 E3 E4 ⊢
    obtain ⟨k1, e1⟩ := mul_val5 a0 a1 a2 a3 a4 b0 b1 b2 b3 b4
    obtain ⟨k2, e2⟩ := spread_val _ _ _ _ _ _ _ _ _ _ _ _ _ _ _ S.out T.out.2
    rw [E0, E1, E2, E3, E4] at e2
    rw [mod_of_sum e2, ← mod_of_sum e1]

end Go.Proofs.YtedhfimjcpbcpaaDoor

/-
  The walk of the field's Mul: for tame elements it returns a tame element whose number is the product modulo 2^255 - 19, and changes no memory that was there. Conditions: as the theorem says.
-/
namespace Go.Proofs.YtedhfimjcpbcpaaDoor
open Go.RowKit
set_option linter.unusedVariables false

set_option maxHeartbeats 16000000 in
set_option maxRecDepth 100000 in
theorem mul_step5 (a0 a1 a2 a3 a4 b0 b1 b2 b3 b4 : Int) (ta : Tame a0 a1 a2 a3 a4) (tb : Tame b0 b1 b2 b3 b4) : ∃ t0 t1 t2 t3 t4 : Int, Tame t0 t1 t2 t3 t4 ∧ Hid (val5 t0 t1 t2 t3 t4 % (P25 : Int) = val5 a0 a1 a2 a3 a4 * val5 b0 b1 b2 b3 b4 % (P25 : Int)) ∧
    ∀ w : World, Calls Tryd.prog 66 #[.agg #[.int .u64 a0, .int .u64 a1, .int .u64 a2, .int .u64 a3, .int .u64 a4], .agg #[.int .u64 b0, .int .u64 b1, .int .u64 b2, .int .u64 b3, .int .u64 b4]] w fun e w' => e = .returned (.agg #[.int .u64 t0, .int .u64 t1, .int .u64 t2, .int .u64 t3, .int .u64 t4]) ∧ Below w.heap.size w w' := by
  obtain ⟨H, L, Y, z0, y0, y1, q, s0, s1, s2, s3, s4, t0, t1, t2, t3, t4, tt, ev, QS, QT⟩ := mul_cols a0 a1 a2 a3 a4 b0 b1 b2 b3 b4 ta tb
  refine ⟨t0, t1, t2, t3, t4, tt, ev, fun w => ?_⟩
  clear tt ev ta tb
  obtain ⟨yy0, yy1, yy2, yy3, yy4⟩ := y0
  have Z0 : Hid _ := z0
  have Y1 : Hid (∀ k, k < 5 → IntKind.u64.wrap (19 * Y 4 k) = Y 0 (k + 1) ∧ Y 0 k = Y 1 (k + 1) ∧ Y 1 k = Y 2 (k + 1) ∧ Y 2 k = Y 3 (k + 1) ∧ Y 3 k = Y 4 (k + 1)) := y1
  have Q : Hid (∀ k, k < 5 → ∀ j, j < 5 → PlusTo (H j k) (L j k) (pick5 a0 a1 a2 a3 a4 0 k) (Y j k) (H j (k + 1)) (L j (k + 1))) := q
  have qs : Hid (∀ w : World, Calls Tryd.prog 97 #[.agg #[.int .u64 (H 0 5), .int .u64 (L 0 5)], .agg #[.int .u64 (H 1 5), .int .u64 (L 1 5)], .agg #[.int .u64 (H 2 5), .int .u64 (L 2 5)], .agg #[.int .u64 (H 3 5), .int .u64 (L 3 5)], .agg #[.int .u64 (H 4 5), .int .u64 (L 4 5)]] w fun e w' => e = .returned (.tuple #[.int .u64 s0, .int .u64 s1, .int .u64 s2, .int .u64 s3, .int .u64 s4]) ∧ Below w.heap.size w w') := QS
  have qt : Hid (∀ w : World, Calls Tryd.prog 96 #[.int .u64 s0, .int .u64 s1, .int .u64 s2, .int .u64 s3, .int .u64 s4] w fun e w' => e = .returned (.tuple #[.int .u64 t0, .int .u64 t1, .int .u64 t2, .int .u64 t3, .int .u64 t4]) ∧ w' = w) := QT
  clear z0 y1 q QS QT
  go_enter Tryd.func66, Tryd.ntmps66
  go_wp2_with fail
  go_quiet (fail)
  go_wp2_with fail
  go_loopw [10, 11, 12, 13, 14, 27] (fun v0 v1 v2 v3 v4 i wr => ∃ k : Nat, k ≤ 5 ∧ i = .int .i64 (k : Int) ∧ v0 = .int .u64 (Y 0 k) ∧ v1 = .int .u64 (Y 1 k) ∧ v2 = .int .u64 (Y 2 k) ∧ v3 = .int .u64 (Y 3 k) ∧ v4 = .int .u64 (Y 4 k) ∧ Hid (Bl5 wr w.heap.size a0 a1 a2 a3 a4) ∧ Hid (Bl5 wr (w.heap.size + 1 + 1) 0 0 0 0 0) ∧ Hid (Bl2 wr (w.heap.size + 1 + 1 + 1) (H 0 k) (L 0 k)) ∧ Hid (Bl2 wr (w.heap.size + 1 + 1 + 1 + 1) (H 1 k) (L 1 k)) ∧ Hid (Bl2 wr (w.heap.size + 1 + 1 + 1 + 1 + 1) (H 2 k) (L 2 k)) ∧ Hid (Bl2 wr (w.heap.size + 1 + 1 + 1 + 1 + 1 + 1) (H 3 k) (L 3 k)) ∧ Hid (Bl2 wr (w.heap.size + 1 + 1 + 1 + 1 + 1 + 1 + 1) (H 4 k) (L 4 k)) ∧ Hid (Below w.heap.size w wr)) (fun _ _ _ _ _ i _ => 5 - (intOf i).toNat)
  case atStart =>
    refine ⟨0, by omega, rfl, by rw [yy0], by rw [yy1], by rw [yy2], by rw [yy3], by rw [yy4], ?_, ?_, ?_, ?_, ?_, ?_, ?_, ?_⟩
    all_goals (unfold Hid)
    · repeat (first | refine Bl5.drewN ?_ _ | (refine Bl5.new _ _ _ _ _ _ _ _ ?_; simp; done) | refine Bl5.alloc ?_ _)
    · repeat (first | refine Bl5.drewN ?_ _ | (refine Bl5.new _ _ _ _ _ _ _ _ ?_; simp; done) | refine Bl5.alloc ?_ _)
    iterate 5 (· rw [(Z0.out _).1, (Z0.out _).2]; repeat (first | refine Bl2.drewN ?_ _ | (refine Bl2.new _ _ _ _ _ ?_; simp; done) | refine Bl2.alloc ?_ _))
    · repeat (first | exact Below.refl _ _ | refine below_drewN ?_ _ | refine Below.alloc ?_ (by simp <;> omega) _)
  case round =>
    obtain ⟨k, hk, rfl, rfl, rfl, rfl, rfl, rfl, hA, hR, K0, K1, K2, K3, K4, hB⟩ := hrel
    clear yy0 yy1 yy2 yy3 yy4 Z0
    obtain ⟨w0, hw0⟩ : ∃ w0, wr = w0 := ⟨_, rfl⟩
    subst hw0
    by_cases hlt : k < 5
    · have q0 : Hid (PlusTo (H 0 k) (L 0 k) (pick5 a0 a1 a2 a3 a4 0 k) (Y 0 k) (H 0 (k + 1)) (L 0 (k + 1))) := Q.out k hlt 0 (by omega)
      have q1 : Hid (PlusTo (H 1 k) (L 1 k) (pick5 a0 a1 a2 a3 a4 0 k) (Y 1 k) (H 1 (k + 1)) (L 1 (k + 1))) := Q.out k hlt 1 (by omega)
      have q2 : Hid (PlusTo (H 2 k) (L 2 k) (pick5 a0 a1 a2 a3 a4 0 k) (Y 2 k) (H 2 (k + 1)) (L 2 (k + 1))) := Q.out k hlt 2 (by omega)
      have q3 : Hid (PlusTo (H 3 k) (L 3 k) (pick5 a0 a1 a2 a3 a4 0 k) (Y 3 k) (H 3 (k + 1)) (L 3 (k + 1))) := Q.out k hlt 3 (by omega)
      have q4 : Hid (PlusTo (H 4 k) (L 4 k) (pick5 a0 a1 a2 a3 a4 0 k) (Y 4 k) (H 4 (k + 1)) (L 4 (k + 1))) := Q.out k hlt 4 (by omega)
      have hx := hA.out.at k hlt
      obtain ⟨x, hX⟩ : ∃ x, pick5 a0 a1 a2 a3 a4 0 k = x := ⟨_, rfl⟩
      rw [hX] at hx q0 q1 q2 q3 q4
      obtain ⟨h0, eh0⟩ : ∃ z, H 0 k = z := ⟨_, rfl⟩
      obtain ⟨h0n, eh0n⟩ : ∃ z, H 0 (k + 1) = z := ⟨_, rfl⟩
      obtain ⟨l0, el0⟩ : ∃ z, L 0 k = z := ⟨_, rfl⟩
      obtain ⟨l0n, el0n⟩ : ∃ z, L 0 (k + 1) = z := ⟨_, rfl⟩
      obtain ⟨y0, ey0⟩ : ∃ z, Y 0 k = z := ⟨_, rfl⟩
      rw [eh0, el0, ey0, eh0n, el0n] at q0
      rw [eh0, el0] at K0
      obtain ⟨h1, eh1⟩ : ∃ z, H 1 k = z := ⟨_, rfl⟩
      obtain ⟨h1n, eh1n⟩ : ∃ z, H 1 (k + 1) = z := ⟨_, rfl⟩
      obtain ⟨l1, el1⟩ : ∃ z, L 1 k = z := ⟨_, rfl⟩
      obtain ⟨l1n, el1n⟩ : ∃ z, L 1 (k + 1) = z := ⟨_, rfl⟩
      obtain ⟨y1, ey1⟩ : ∃ z, Y 1 k = z := ⟨_, rfl⟩
      rw [eh1, el1, ey1, eh1n, el1n] at q1
      rw [eh1, el1] at K1
      obtain ⟨h2, eh2⟩ : ∃ z, H 2 k = z := ⟨_, rfl⟩
      obtain ⟨h2n, eh2n⟩ : ∃ z, H 2 (k + 1) = z := ⟨_, rfl⟩
      obtain ⟨l2, el2⟩ : ∃ z, L 2 k = z := ⟨_, rfl⟩
      obtain ⟨l2n, el2n⟩ : ∃ z, L 2 (k + 1) = z := ⟨_, rfl⟩
      obtain ⟨y2, ey2⟩ : ∃ z, Y 2 k = z := ⟨_, rfl⟩
      rw [eh2, el2, ey2, eh2n, el2n] at q2
      rw [eh2, el2] at K2
      obtain ⟨h3, eh3⟩ : ∃ z, H 3 k = z := ⟨_, rfl⟩
      obtain ⟨h3n, eh3n⟩ : ∃ z, H 3 (k + 1) = z := ⟨_, rfl⟩
      obtain ⟨l3, el3⟩ : ∃ z, L 3 k = z := ⟨_, rfl⟩
      obtain ⟨l3n, el3n⟩ : ∃ z, L 3 (k + 1) = z := ⟨_, rfl⟩
      obtain ⟨y3, ey3⟩ : ∃ z, Y 3 k = z := ⟨_, rfl⟩
      rw [eh3, el3, ey3, eh3n, el3n] at q3
      rw [eh3, el3] at K3
      obtain ⟨h4, eh4⟩ : ∃ z, H 4 k = z := ⟨_, rfl⟩
      obtain ⟨h4n, eh4n⟩ : ∃ z, H 4 (k + 1) = z := ⟨_, rfl⟩
      obtain ⟨l4, el4⟩ : ∃ z, L 4 k = z := ⟨_, rfl⟩
      obtain ⟨l4n, el4n⟩ : ∃ z, L 4 (k + 1) = z := ⟨_, rfl⟩
      obtain ⟨y4, ey4⟩ : ∃ z, Y 4 k = z := ⟨_, rfl⟩
      rw [eh4, el4, ey4, eh4n, el4n] at q4
      rw [eh4, el4] at K4
      obtain ⟨f0, f1, f2, f3, f4⟩ := Y1.out k hlt
      rw [ey4] at f0; rw [ey0] at f1; rw [ey1] at f2; rw [ey2] at f3; rw [ey3] at f4
      obtain ⟨yn, eyn⟩ : ∃ z, Y 0 (k + 1) = z := ⟨_, rfl⟩
      rw [eyn] at f0
      have F : Hid (Y 0 (k + 1) = yn ∧ y0 = Y 1 (k + 1) ∧ y1 = Y 2 (k + 1) ∧ y2 = Y 3 (k + 1) ∧ y3 = Y 4 (k + 1)) := ⟨eyn, f1, f2, f3, f4⟩
      have E0 : Hid (H 0 (k + 1) = h0n ∧ L 0 (k + 1) = l0n) := ⟨eh0n, el0n⟩
      have E1 : Hid (H 1 (k + 1) = h1n ∧ L 1 (k + 1) = l1n) := ⟨eh1n, el1n⟩
      have E2 : Hid (H 2 (k + 1) = h2n ∧ L 2 (k + 1) = l2n) := ⟨eh2n, el2n⟩
      have E3 : Hid (H 3 (k + 1) = h3n ∧ L 3 (k + 1) = l3n) := ⟨eh3n, el3n⟩
      have E4 : Hid (H 4 (k + 1) = h4n ∧ L 4 (k + 1) = l4n) := ⟨eh4n, el4n⟩
      rw [ey0, ey1, ey2, ey3, ey4]
      have I : Hid (k < 5) := hlt
      have hk1 : (k : Int) < 5 := by omega
      clear Q Y1 hX eyn f1 f2 f3 f4 eh0 el0 eh0n el0n ey0 eh1 el1 eh1n el1n ey1 eh2 el2 eh2n el2n ey2 eh3 el3 eh3n el3n ey3 eh4 el4 eh4n el4n ey4
      obtain ⟨al, -, -, -, -, -, af⟩ := hA.out
      obtain ⟨m0l, m0c, m0d, m0f⟩ := K0.out
      go_wp2_with fail
      refine (q0.out _).mono ?_
      rintro e w1 ⟨rfl, g1⟩
      clear m0l m0c m0d m0f hx al af
      have hA' := hold (hA.out.below g1)
      have hR' := hold (hR.out.below g1)
      have K0' := hold (K0.out.below g1)
      have K1' := hold (K1.out.below g1)
      have K2' := hold (K2.out.below g1)
      have K3' := hold (K3.out.below g1)
      have K4' := hold (K4.out.below g1)
      have hB' := hold (hB.out.trans (g1.mono hB.out.size))
      clear hA hR K0 K1 K2 K3 K4 hB g1
      have hA := hA'; clear hA'
      have hR := hR'; clear hR'
      have K0 := K0'; clear K0'
      have K1 := K1'; clear K1'
      have K2 := K2'; clear K2'
      have K3 := K3'; clear K3'
      have K4 := K4'; clear K4'
      have hB := hB'; clear hB'
      obtain ⟨m0l, m0c, m0d, m0f⟩ := K0.out
      obtain ⟨m1l, m1c, m1d, m1f⟩ := K1.out
      go_wp2_with fail
      refine (q1.out _).mono ?_
      rintro e w2 ⟨rfl, g2⟩
      clear m0l m0c m0d m0f m1l m1c m1d m1f
      have hA' : Hid (Bl5 w2 w.heap.size a0 a1 a2 a3 a4) := ((hA.out.other (w.heap.size + 1 + 1 + 1) 0 (.int .u64 h0n) (by omega)).other (w.heap.size + 1 + 1 + 1) 1 (.int .u64 l0n) (by omega)).below g2
      have hR' : Hid (Bl5 w2 (w.heap.size + 1 + 1) 0 0 0 0 0) := ((hR.out.other (w.heap.size + 1 + 1 + 1) 0 (.int .u64 h0n) (by omega)).other (w.heap.size + 1 + 1 + 1) 1 (.int .u64 l0n) (by omega)).below g2
      have K0' : Hid (Bl2 w2 (w.heap.size + 1 + 1 + 1) h0n l0n) := (K0.out.set h0n l0n).below g2
      have K1' : Hid (Bl2 w2 (w.heap.size + 1 + 1 + 1 + 1) h1 l1) := ((K1.out.other (w.heap.size + 1 + 1 + 1) 0 (.int .u64 h0n) (by omega)).other (w.heap.size + 1 + 1 + 1) 1 (.int .u64 l0n) (by omega)).below g2
      have K2' : Hid (Bl2 w2 (w.heap.size + 1 + 1 + 1 + 1 + 1) h2 l2) := ((K2.out.other (w.heap.size + 1 + 1 + 1) 0 (.int .u64 h0n) (by omega)).other (w.heap.size + 1 + 1 + 1) 1 (.int .u64 l0n) (by omega)).below g2
      have K3' : Hid (Bl2 w2 (w.heap.size + 1 + 1 + 1 + 1 + 1 + 1) h3 l3) := ((K3.out.other (w.heap.size + 1 + 1 + 1) 0 (.int .u64 h0n) (by omega)).other (w.heap.size + 1 + 1 + 1) 1 (.int .u64 l0n) (by omega)).below g2
      have K4' : Hid (Bl2 w2 (w.heap.size + 1 + 1 + 1 + 1 + 1 + 1 + 1) h4 l4) := ((K4.out.other (w.heap.size + 1 + 1 + 1) 0 (.int .u64 h0n) (by omega)).other (w.heap.size + 1 + 1 + 1) 1 (.int .u64 l0n) (by omega)).below g2
      have hB' : Hid (Below w.heap.size w w2) := ((hB.out.setCell (by simp <;> omega) _).setCell (by simp <;> omega) _).trans (g2.mono (by simp; exact hB.out.size))
      clear hA hR K0 K1 K2 K3 K4 hB g2
      have hA := hA'; clear hA'
      have hR := hR'; clear hR'
      have K0 := K0'; clear K0'
      have K1 := K1'; clear K1'
      have K2 := K2'; clear K2'
      have K3 := K3'; clear K3'
      have K4 := K4'; clear K4'
      have hB := hB'; clear hB'
      obtain ⟨m1l, m1c, m1d, m1f⟩ := K1.out
      obtain ⟨m2l, m2c, m2d, m2f⟩ := K2.out
      go_wp2_with fail
      refine (q2.out _).mono ?_
      rintro e w3 ⟨rfl, g3⟩
      clear m1l m1c m1d m1f m2l m2c m2d m2f
      have hA' : Hid (Bl5 w3 w.heap.size a0 a1 a2 a3 a4) := ((hA.out.other (w.heap.size + 1 + 1 + 1 + 1) 0 (.int .u64 h1n) (by omega)).other (w.heap.size + 1 + 1 + 1 + 1) 1 (.int .u64 l1n) (by omega)).below g3
      have hR' : Hid (Bl5 w3 (w.heap.size + 1 + 1) 0 0 0 0 0) := ((hR.out.other (w.heap.size + 1 + 1 + 1 + 1) 0 (.int .u64 h1n) (by omega)).other (w.heap.size + 1 + 1 + 1 + 1) 1 (.int .u64 l1n) (by omega)).below g3
      have K0' : Hid (Bl2 w3 (w.heap.size + 1 + 1 + 1) h0n l0n) := ((K0.out.other (w.heap.size + 1 + 1 + 1 + 1) 0 (.int .u64 h1n) (by omega)).other (w.heap.size + 1 + 1 + 1 + 1) 1 (.int .u64 l1n) (by omega)).below g3
      have K1' : Hid (Bl2 w3 (w.heap.size + 1 + 1 + 1 + 1) h1n l1n) := (K1.out.set h1n l1n).below g3
      have K2' : Hid (Bl2 w3 (w.heap.size + 1 + 1 + 1 + 1 + 1) h2 l2) := ((K2.out.other (w.heap.size + 1 + 1 + 1 + 1) 0 (.int .u64 h1n) (by omega)).other (w.heap.size + 1 + 1 + 1 + 1) 1 (.int .u64 l1n) (by omega)).below g3
      have K3' : Hid (Bl2 w3 (w.heap.size + 1 + 1 + 1 + 1 + 1 + 1) h3 l3) := ((K3.out.other (w.heap.size + 1 + 1 + 1 + 1) 0 (.int .u64 h1n) (by omega)).other (w.heap.size + 1 + 1 + 1 + 1) 1 (.int .u64 l1n) (by omega)).below g3
      have K4' : Hid (Bl2 w3 (w.heap.size + 1 + 1 + 1 + 1 + 1 + 1 + 1) h4 l4) := ((K4.out.other (w.heap.size + 1 + 1 + 1 + 1) 0 (.int .u64 h1n) (by omega)).other (w.heap.size + 1 + 1 + 1 + 1) 1 (.int .u64 l1n) (by omega)).below g3
      have hB' : Hid (Below w.heap.size w w3) := ((hB.out.setCell (by simp <;> omega) _).setCell (by simp <;> omega) _).trans (g3.mono (by simp; exact hB.out.size))
      clear hA hR K0 K1 K2 K3 K4 hB g3
      have hA := hA'; clear hA'
      have hR := hR'; clear hR'
      have K0 := K0'; clear K0'
      have K1 := K1'; clear K1'
      have K2 := K2'; clear K2'
      have K3 := K3'; clear K3'
      have K4 := K4'; clear K4'
      have hB := hB'; clear hB'
      obtain ⟨m2l, m2c, m2d, m2f⟩ := K2.out
      obtain ⟨m3l, m3c, m3d, m3f⟩ := K3.out
      go_wp2_with fail
      refine (q3.out _).mono ?_
      rintro e w4 ⟨rfl, g4⟩
      clear m2l m2c m2d m2f m3l m3c m3d m3f
      have hA' : Hid (Bl5 w4 w.heap.size a0 a1 a2 a3 a4) := ((hA.out.other (w.heap.size + 1 + 1 + 1 + 1 + 1) 0 (.int .u64 h2n) (by omega)).other (w.heap.size + 1 + 1 + 1 + 1 + 1) 1 (.int .u64 l2n) (by omega)).below g4
      have hR' : Hid (Bl5 w4 (w.heap.size + 1 + 1) 0 0 0 0 0) := ((hR.out.other (w.heap.size + 1 + 1 + 1 + 1 + 1) 0 (.int .u64 h2n) (by omega)).other (w.heap.size + 1 + 1 + 1 + 1 + 1) 1 (.int .u64 l2n) (by omega)).below g4
      have K0' : Hid (Bl2 w4 (w.heap.size + 1 + 1 + 1) h0n l0n) := ((K0.out.other (w.heap.size + 1 + 1 + 1 + 1 + 1) 0 (.int .u64 h2n) (by omega)).other (w.heap.size + 1 + 1 + 1 + 1 + 1) 1 (.int .u64 l2n) (by omega)).below g4
      have K1' : Hid (Bl2 w4 (w.heap.size + 1 + 1 + 1 + 1) h1n l1n) := ((K1.out.other (w.heap.size + 1 + 1 + 1 + 1 + 1) 0 (.int .u64 h2n) (by omega)).other (w.heap.size + 1 + 1 + 1 + 1 + 1) 1 (.int .u64 l2n) (by omega)).below g4
      have K2' : Hid (Bl2 w4 (w.heap.size + 1 + 1 + 1 + 1 + 1) h2n l2n) := (K2.out.set h2n l2n).below g4
      have K3' : Hid (Bl2 w4 (w.heap.size + 1 + 1 + 1 + 1 + 1 + 1) h3 l3) := ((K3.out.other (w.heap.size + 1 + 1 + 1 + 1 + 1) 0 (.int .u64 h2n) (by omega)).other (w.heap.size + 1 + 1 + 1 + 1 + 1) 1 (.int .u64 l2n) (by omega)).below g4
      have K4' : Hid (Bl2 w4 (w.heap.size + 1 + 1 + 1 + 1 + 1 + 1 + 1) h4 l4) := ((K4.out.other (w.heap.size + 1 + 1 + 1 + 1 + 1) 0 (.int .u64 h2n) (by omega)).other (w.heap.size + 1 + 1 + 1 + 1 + 1) 1 (.int .u64 l2n) (by omega)).below g4
      have hB' : Hid (Below w.heap.size w w4) := ((hB.out.setCell (by simp <;> omega) _).setCell (by simp <;> omega) _).trans (g4.mono (by simp; exact hB.out.size))
      clear hA hR K0 K1 K2 K3 K4 hB g4
      have hA := hA'; clear hA'
      have hR := hR'; clear hR'
      have K0 := K0'; clear K0'
      have K1 := K1'; clear K1'
      have K2 := K2'; clear K2'
      have K3 := K3'; clear K3'
      have K4 := K4'; clear K4'
      have hB := hB'; clear hB'
      obtain ⟨m3l, m3c, m3d, m3f⟩ := K3.out
      obtain ⟨m4l, m4c, m4d, m4f⟩ := K4.out
      go_wp2_with fail
      refine (q4.out _).mono ?_
      rintro e w5 ⟨rfl, g5⟩
      clear m3l m3c m3d m3f m4l m4c m4d m4f
      have hA' : Hid (Bl5 w5 w.heap.size a0 a1 a2 a3 a4) := ((hA.out.other (w.heap.size + 1 + 1 + 1 + 1 + 1 + 1) 0 (.int .u64 h3n) (by omega)).other (w.heap.size + 1 + 1 + 1 + 1 + 1 + 1) 1 (.int .u64 l3n) (by omega)).below g5
      have hR' : Hid (Bl5 w5 (w.heap.size + 1 + 1) 0 0 0 0 0) := ((hR.out.other (w.heap.size + 1 + 1 + 1 + 1 + 1 + 1) 0 (.int .u64 h3n) (by omega)).other (w.heap.size + 1 + 1 + 1 + 1 + 1 + 1) 1 (.int .u64 l3n) (by omega)).below g5
      have K0' : Hid (Bl2 w5 (w.heap.size + 1 + 1 + 1) h0n l0n) := ((K0.out.other (w.heap.size + 1 + 1 + 1 + 1 + 1 + 1) 0 (.int .u64 h3n) (by omega)).other (w.heap.size + 1 + 1 + 1 + 1 + 1 + 1) 1 (.int .u64 l3n) (by omega)).below g5
      have K1' : Hid (Bl2 w5 (w.heap.size + 1 + 1 + 1 + 1) h1n l1n) := ((K1.out.other (w.heap.size + 1 + 1 + 1 + 1 + 1 + 1) 0 (.int .u64 h3n) (by omega)).other (w.heap.size + 1 + 1 + 1 + 1 + 1 + 1) 1 (.int .u64 l3n) (by omega)).below g5
      have K2' : Hid (Bl2 w5 (w.heap.size + 1 + 1 + 1 + 1 + 1) h2n l2n) := ((K2.out.other (w.heap.size + 1 + 1 + 1 + 1 + 1 + 1) 0 (.int .u64 h3n) (by omega)).other (w.heap.size + 1 + 1 + 1 + 1 + 1 + 1) 1 (.int .u64 l3n) (by omega)).below g5
      have K3' : Hid (Bl2 w5 (w.heap.size + 1 + 1 + 1 + 1 + 1 + 1) h3n l3n) := (K3.out.set h3n l3n).below g5
      have K4' : Hid (Bl2 w5 (w.heap.size + 1 + 1 + 1 + 1 + 1 + 1 + 1) h4 l4) := ((K4.out.other (w.heap.size + 1 + 1 + 1 + 1 + 1 + 1) 0 (.int .u64 h3n) (by omega)).other (w.heap.size + 1 + 1 + 1 + 1 + 1 + 1) 1 (.int .u64 l3n) (by omega)).below g5
      have hB' : Hid (Below w.heap.size w w5) := ((hB.out.setCell (by simp <;> omega) _).setCell (by simp <;> omega) _).trans (g5.mono (by simp; exact hB.out.size))
      clear hA hR K0 K1 K2 K3 K4 hB g5
      have hA := hA'; clear hA'
      have hR := hR'; clear hR'
      have K0 := K0'; clear K0'
      have K1 := K1'; clear K1'
      have K2 := K2'; clear K2'
      have K3 := K3'; clear K3'
      have K4 := K4'; clear K4'
      have hB := hB'; clear hB'
      obtain ⟨m4l, m4c, m4d, m4f⟩ := K4.out
      go_wp2_with fail
      go_roundw
      case rel =>
        obtain ⟨F0, F1, F2, F3, F4⟩ := F.out
        refine ⟨k + 1, by omega, by go_num, by rw [F0], by rw [F1], by rw [F2], by rw [F3], by rw [F4], ?_, ?_, ?_, ?_, ?_, ?_, ?_, ?_⟩
        all_goals unfold Hid
        · exact ((hA.out.other (w.heap.size + 1 + 1 + 1 + 1 + 1 + 1 + 1) 0 (.int .u64 h4n) (by omega)).other (w.heap.size + 1 + 1 + 1 + 1 + 1 + 1 + 1) 1 (.int .u64 l4n) (by omega))
        · exact ((hR.out.other (w.heap.size + 1 + 1 + 1 + 1 + 1 + 1 + 1) 0 (.int .u64 h4n) (by omega)).other (w.heap.size + 1 + 1 + 1 + 1 + 1 + 1 + 1) 1 (.int .u64 l4n) (by omega))
        · rw [E0.out.1, E0.out.2]; exact ((K0.out.other (w.heap.size + 1 + 1 + 1 + 1 + 1 + 1 + 1) 0 (.int .u64 h4n) (by omega)).other (w.heap.size + 1 + 1 + 1 + 1 + 1 + 1 + 1) 1 (.int .u64 l4n) (by omega))
        · rw [E1.out.1, E1.out.2]; exact ((K1.out.other (w.heap.size + 1 + 1 + 1 + 1 + 1 + 1 + 1) 0 (.int .u64 h4n) (by omega)).other (w.heap.size + 1 + 1 + 1 + 1 + 1 + 1 + 1) 1 (.int .u64 l4n) (by omega))
        · rw [E2.out.1, E2.out.2]; exact ((K2.out.other (w.heap.size + 1 + 1 + 1 + 1 + 1 + 1 + 1) 0 (.int .u64 h4n) (by omega)).other (w.heap.size + 1 + 1 + 1 + 1 + 1 + 1 + 1) 1 (.int .u64 l4n) (by omega))
        · rw [E3.out.1, E3.out.2]; exact ((K3.out.other (w.heap.size + 1 + 1 + 1 + 1 + 1 + 1 + 1) 0 (.int .u64 h4n) (by omega)).other (w.heap.size + 1 + 1 + 1 + 1 + 1 + 1 + 1) 1 (.int .u64 l4n) (by omega))
        · rw [E4.out.1, E4.out.2]; exact K4.out.set h4n l4n
        · exact (hB.out.setCell (by simp <;> omega) _).setCell (by simp <;> omega) _
      case measure => have := I.out; simp [intOf]; omega
    · obtain rfl : k = 5 := by omega
      obtain ⟨m0l, m0c, m0d, m0f⟩ := K0.out
      obtain ⟨m1l, m1c, m1d, m1f⟩ := K1.out
      obtain ⟨m2l, m2c, m2d, m2f⟩ := K2.out
      obtain ⟨m3l, m3c, m3d, m3f⟩ := K3.out
      obtain ⟨m4l, m4c, m4d, m4f⟩ := K4.out
      clear Y1 Q
      go_wp2_with fail
      refine (qs.out _).mono ?_
      rintro e w1 ⟨rfl, g1⟩
      have R1 := hold (hR.out.below g1)
      have B1 := hold (hB.out.trans (g1.mono hB.out.size))
      clear m0l m0c m0d m0f m1l m1c m1d m1f m2l m2c m2d m2f m3l m3c m3d m3f m4l m4c m4d m4f hA hR K0 K1 K2 K3 K4 hB g1 qs
      go_wp2_with fail
      refine (qt.out _).mono ?_
      rintro e w2 ⟨rfl, hw2⟩
      rw [hw2]; clear hw2 w2 qt
      obtain ⟨rl, r0, r1, r2, r3, r4, rf⟩ := R1.out
      go_wp2_with fail
      refine body_cut (fun W => Bl5 W (w.heap.size + 1 + 1) t0 t1 t2 t3 t4 ∧ Below w.heap.size w W) ⟨(R1.out.set t0 t1 t2 t3 t4).set t0 t1 t2 t3 t4, ?_⟩ ?_
      · iterate 10 (refine Below.setCell ?_ (by simp <;> omega) _)
        exact B1.out
      · clear rl r0 r1 r2 r3 r4 rf R1 B1
        rintro W ⟨⟨rl, r0, r1, r2, r3, r4, rf⟩, hb⟩
        refine bodyPost_ret (v := .agg #[.int .u64 t0, .int .u64 t1, .int .u64 t2, .int .u64 t3, .int .u64 t4]) (by simp [results, Tryd.results66, go_sem, r0, r1, r2, r3, r4]) rfl ⟨rfl, hb⟩

theorem mul_fe (x y : L5) (hx : x.Tm) (hy : y.Tm) : ∃ z : L5, z.Tm ∧ Hid (z.num % (P25 : Int) = x.num * y.num % (P25 : Int)) ∧ ∀ w : World, Calls Tryd.prog 66 #[.agg #[.int .u64 x.l0, .int .u64 x.l1, .int .u64 x.l2, .int .u64 x.l3, .int .u64 x.l4], .agg #[.int .u64 y.l0, .int .u64 y.l1, .int .u64 y.l2, .int .u64 y.l3, .int .u64 y.l4]] w fun e w' => e = .returned (.agg #[.int .u64 z.l0, .int .u64 z.l1, .int .u64 z.l2, .int .u64 z.l3, .int .u64 z.l4]) ∧ Below w.heap.size w w' := by
  obtain ⟨t0, t1, t2, t3, t4, h1, h2, h3⟩ := mul_step5 x.l0 x.l1 x.l2 x.l3 x.l4 y.l0 y.l1 y.l2 y.l3 y.l4 hx hy
  exact ⟨⟨t0, t1, t2, t3, t4⟩, h1, h2, h3⟩

end Go.Proofs.YtedhfimjcpbcpaaDoor

/-
  The contract of the field's Square: for a tame element and any n it returns a tame element whose number is the element's, squared n times (none below 1, at most 1000), modulo 2^255 - 19, and changes no memory that was there. Conditions: as the theorem says.
-/
namespace Go.Proofs.YtedhfimjcpbcpaaDoor
open Go.RowKit
set_option linter.unusedVariables false

theorem sq_poly (x0 x1 x2 x3 x4 B : Int) :
    (x0 + B * x1 + B ^ 2 * x2 + B ^ 3 * x3 + B ^ 4 * x4) * (x0 + B * x1 + B ^ 2 * x2 + B ^ 3 * x3 + B ^ 4 * x4) =
    (x0 * x0 + (2 * x1) * (19 * x4) + (2 * x2) * (19 * x3)) + B * ((2 * x0) * x1 + (2 * x2) * (19 * x4) + x3 * (19 * x3)) + B ^ 2 * ((2 * x0) * x2 + x1 * x1 + (2 * x3) * (19 * x4)) + B ^ 3 * ((2 * x0) * x3 + (2 * x1) * x2 + x4 * (19 * x4)) + B ^ 4 * ((2 * x0) * x4 + (2 * x1) * x3 + x2 * x2)
     + (B ^ 5 - 19) * (2 * (x1 * x4 + x2 * x3) + B * (2 * x2 * x4 + x3 * x3) + B ^ 2 * (2 * x3 * x4) + B ^ 3 * (x4 * x4)) := by
  grind
theorem sq_val5 (x0 x1 x2 x3 x4 : Int) : ∃ k : Int, val5 x0 x1 x2 x3 x4 * val5 x0 x1 x2 x3 x4 =
    val5 (x0 * x0 + (2 * x1) * (19 * x4) + (2 * x2) * (19 * x3)) ((2 * x0) * x1 + (2 * x2) * (19 * x4) + x3 * (19 * x3)) ((2 * x0) * x2 + x1 * x1 + (2 * x3) * (19 * x4)) ((2 * x0) * x3 + (2 * x1) * x2 + x4 * (19 * x4)) ((2 * x0) * x4 + (2 * x1) * x3 + x2 * x2) + (P25 : Int) * k :=
  ⟨_, sq_poly x0 x1 x2 x3 x4 2251799813685248⟩
set_option maxHeartbeats 4000000 in
/-- The columns of a square. -/
theorem sq_cols (x0 x1 x2 x3 x4 : Int) (tx : Tame x0 x1 x2 x3 x4) : ∃ h0_1 l0_1 h0_2 l0_2 h0_3 l0_3 : Int, ∃ h1_1 l1_1 h1_2 l1_2 h1_3 l1_3 : Int, ∃ h2_1 l2_1 h2_2 l2_2 h2_3 l2_3 : Int, ∃ h3_1 l3_1 h3_2 l3_2 h3_3 l3_3 : Int, ∃ h4_1 l4_1 h4_2 l4_2 h4_3 l4_3 : Int, PlusTo 0 0 x0 x0 h0_1 l0_1 ∧ PlusTo h0_1 l0_1 (2 * x1) (19 * x4) h0_2 l0_2 ∧ PlusTo h0_2 l0_2 (2 * x2) (19 * x3) h0_3 l0_3 ∧ PlusTo 0 0 (2 * x0) x1 h1_1 l1_1 ∧ PlusTo h1_1 l1_1 (2 * x2) (19 * x4) h1_2 l1_2 ∧ PlusTo h1_2 l1_2 x3 (19 * x3) h1_3 l1_3 ∧ PlusTo 0 0 (2 * x0) x2 h2_1 l2_1 ∧ PlusTo h2_1 l2_1 x1 x1 h2_2 l2_2 ∧ PlusTo h2_2 l2_2 (2 * x3) (19 * x4) h2_3 l2_3 ∧ PlusTo 0 0 (2 * x0) x3 h3_1 l3_1 ∧ PlusTo h3_1 l3_1 (2 * x1) x2 h3_2 l3_2 ∧ PlusTo h3_2 l3_2 x4 (19 * x4) h3_3 l3_3 ∧ PlusTo 0 0 (2 * x0) x4 h4_1 l4_1 ∧ PlusTo h4_1 l4_1 (2 * x1) x3 h4_2 l4_2 ∧ PlusTo h4_2 l4_2 x2 x2 h4_3 l4_3 ∧ 
    ∃ s0 s1 s2 s3 s4 t0 t1 t2 t3 t4 : Int, Tame t0 t1 t2 t3 t4 ∧ Hid (val5 t0 t1 t2 t3 t4 % (P25 : Int) = val5 x0 x1 x2 x3 x4 * val5 x0 x1 x2 x3 x4 % (P25 : Int)) ∧
    (∀ w : World, Calls Tryd.prog 97 #[.agg #[.int .u64 h0_3, .int .u64 l0_3], .agg #[.int .u64 h1_3, .int .u64 l1_3], .agg #[.int .u64 h2_3, .int .u64 l2_3], .agg #[.int .u64 h3_3, .int .u64 l3_3], .agg #[.int .u64 h4_3, .int .u64 l4_3]] w fun e w' => e = .returned (.tuple #[.int .u64 s0, .int .u64 s1, .int .u64 s2, .int .u64 s3, .int .u64 s4]) ∧ Below w.heap.size w w') ∧
    (∀ w : World, Calls Tryd.prog 96 #[.int .u64 s0, .int .u64 s1, .int .u64 s2, .int .u64 s3, .int .u64 s4] w fun e w' => e = .returned (.tuple #[.int .u64 t0, .int .u64 t1, .int .u64 t2, .int .u64 t3, .int .u64 t4]) ∧ w' = w) ∧
    IntKind.u64.wrap (2 * x0) = 2 * x0 ∧ IntKind.u64.wrap (2 * x1) = 2 * x1 ∧ IntKind.u64.wrap (2 * x2) = 2 * x2 ∧ IntKind.u64.wrap (2 * x3) = 2 * x3 ∧ IntKind.u64.wrap (19 * x3) = 19 * x3 ∧ IntKind.u64.wrap (19 * x4) = 19 * x4 := by
  have W19_x3 : Wd (19 * x3) := by unfold Tame at tx; unfold Wd; omega
  have W19_x4 : Wd (19 * x4) := by unfold Tame at tx; unfold Wd; omega
  have W2_x0 : Wd (2 * x0) := by unfold Tame at tx; unfold Wd; omega
  have W2_x1 : Wd (2 * x1) := by unfold Tame at tx; unfold Wd; omega
  have W2_x2 : Wd (2 * x2) := by unfold Tame at tx; unfold Wd; omega
  have W2_x3 : Wd (2 * x3) := by unfold Tame at tx; unfold Wd; omega
  have Wx0 : Wd (x0) := by unfold Tame at tx; unfold Wd; omega
  have Wx1 : Wd (x1) := by unfold Tame at tx; unfold Wd; omega
  have Wx2 : Wd (x2) := by unfold Tame at tx; unfold Wd; omega
  have Wx3 : Wd (x3) := by unfold Tame at tx; unfold Wd; omega
  have Wx4 : Wd (x4) := by unfold Tame at tx; unfold Wd; omega
  have p00 := mul_lt' x0 x0 4503599627370496 4503599627370496 (by unfold Tame at tx; omega) (by unfold Tame at tx; omega) (by unfold Tame at tx; omega) (by unfold Tame at tx; omega)
  have p01 := mul_lt' (2 * x1) (19 * x4) 9007199254740992 85568392920039424 (by unfold Tame at tx; omega) (by unfold Tame at tx; omega) (by unfold Tame at tx; omega) (by unfold Tame at tx; omega)
  have p02 := mul_lt' (2 * x2) (19 * x3) 9007199254740992 85568392920039424 (by unfold Tame at tx; omega) (by unfold Tame at tx; omega) (by unfold Tame at tx; omega) (by unfold Tame at tx; omega)
  have p10 := mul_lt' (2 * x0) x1 9007199254740992 4503599627370496 (by unfold Tame at tx; omega) (by unfold Tame at tx; omega) (by unfold Tame at tx; omega) (by unfold Tame at tx; omega)
  have p11 := mul_lt' (2 * x2) (19 * x4) 9007199254740992 85568392920039424 (by unfold Tame at tx; omega) (by unfold Tame at tx; omega) (by unfold Tame at tx; omega) (by unfold Tame at tx; omega)
  have p12 := mul_lt' x3 (19 * x3) 4503599627370496 85568392920039424 (by unfold Tame at tx; omega) (by unfold Tame at tx; omega) (by unfold Tame at tx; omega) (by unfold Tame at tx; omega)
  have p20 := mul_lt' (2 * x0) x2 9007199254740992 4503599627370496 (by unfold Tame at tx; omega) (by unfold Tame at tx; omega) (by unfold Tame at tx; omega) (by unfold Tame at tx; omega)
  have p21 := mul_lt' x1 x1 4503599627370496 4503599627370496 (by unfold Tame at tx; omega) (by unfold Tame at tx; omega) (by unfold Tame at tx; omega) (by unfold Tame at tx; omega)
  have p22 := mul_lt' (2 * x3) (19 * x4) 9007199254740992 85568392920039424 (by unfold Tame at tx; omega) (by unfold Tame at tx; omega) (by unfold Tame at tx; omega) (by unfold Tame at tx; omega)
  have p30 := mul_lt' (2 * x0) x3 9007199254740992 4503599627370496 (by unfold Tame at tx; omega) (by unfold Tame at tx; omega) (by unfold Tame at tx; omega) (by unfold Tame at tx; omega)
  have p31 := mul_lt' (2 * x1) x2 9007199254740992 4503599627370496 (by unfold Tame at tx; omega) (by unfold Tame at tx; omega) (by unfold Tame at tx; omega) (by unfold Tame at tx; omega)
  have p32 := mul_lt' x4 (19 * x4) 4503599627370496 85568392920039424 (by unfold Tame at tx; omega) (by unfold Tame at tx; omega) (by unfold Tame at tx; omega) (by unfold Tame at tx; omega)
  have p40 := mul_lt' (2 * x0) x4 9007199254740992 4503599627370496 (by unfold Tame at tx; omega) (by unfold Tame at tx; omega) (by unfold Tame at tx; omega) (by unfold Tame at tx; omega)
  have p41 := mul_lt' (2 * x1) x3 9007199254740992 4503599627370496 (by unfold Tame at tx; omega) (by unfold Tame at tx; omega) (by unfold Tame at tx; omega) (by unfold Tame at tx; omega)
  have p42 := mul_lt' x2 x2 4503599627370496 4503599627370496 (by unfold Tame at tx; omega) (by unfold Tame at tx; omega) (by unfold Tame at tx; omega) (by unfold Tame at tx; omega)
  obtain ⟨h0_1, l0_1, h0_2, l0_2, h0_3, l0_3, Q0_0, Q0_1, Q0_2, y0, z0, E0⟩ := col3 x0 (2 * x1) (2 * x2) x0 (19 * x4) (19 * x3) Wx0 Wx0 ⟨p00.1, by have := p00.2; omega⟩ W2_x1 W19_x4 ⟨p01.1, by have := p01.2; omega⟩ W2_x2 W19_x3 ⟨p02.1, by have := p02.2; omega⟩
  obtain ⟨h1_1, l1_1, h1_2, l1_2, h1_3, l1_3, Q1_0, Q1_1, Q1_2, y1, z1, E1⟩ := col3 (2 * x0) (2 * x2) x3 x1 (19 * x4) (19 * x3) W2_x0 Wx1 ⟨p10.1, by have := p10.2; omega⟩ W2_x2 W19_x4 ⟨p11.1, by have := p11.2; omega⟩ Wx3 W19_x3 ⟨p12.1, by have := p12.2; omega⟩
  obtain ⟨h2_1, l2_1, h2_2, l2_2, h2_3, l2_3, Q2_0, Q2_1, Q2_2, y2, z2, E2⟩ := col3 (2 * x0) x1 (2 * x3) x2 x1 (19 * x4) W2_x0 Wx2 ⟨p20.1, by have := p20.2; omega⟩ Wx1 Wx1 ⟨p21.1, by have := p21.2; omega⟩ W2_x3 W19_x4 ⟨p22.1, by have := p22.2; omega⟩
  obtain ⟨h3_1, l3_1, h3_2, l3_2, h3_3, l3_3, Q3_0, Q3_1, Q3_2, y3, z3, E3⟩ := col3 (2 * x0) (2 * x1) x4 x3 x2 (19 * x4) W2_x0 Wx3 ⟨p30.1, by have := p30.2; omega⟩ W2_x1 Wx2 ⟨p31.1, by have := p31.2; omega⟩ Wx4 W19_x4 ⟨p32.1, by have := p32.2; omega⟩
  obtain ⟨h4_1, l4_1, h4_2, l4_2, h4_3, l4_3, Q4_0, Q4_1, Q4_2, y4, z4, E4⟩ := col3 (2 * x0) (2 * x1) x2 x4 x3 x2 W2_x0 Wx4 ⟨p40.1, by have := p40.2; omega⟩ W2_x1 Wx3 ⟨p41.1, by have := p41.2; omega⟩ Wx2 Wx2 ⟨p42.1, by have := p42.2; omega⟩
  have m0 : h0_3 < 140737488355328 := by unfold Hid at E0; unfold Wd at z0; have := p00; have := p01; have := p02; omega
  have m1 : h1_3 < 140737488355328 := by unfold Hid at E1; unfold Wd at z1; have := p10; have := p11; have := p12; omega
  have m2 : h2_3 < 140737488355328 := by unfold Hid at E2; unfold Wd at z2; have := p20; have := p21; have := p22; omega
  have m3 : h3_3 < 140737488355328 := by unfold Hid at E3; unfold Wd at z3; have := p30; have := p31; have := p32; omega
  have m4 : h4_3 < 70368744177664 := by unfold Hid at E4; unfold Wd at z4; have := p40; have := p41; have := p42; omega
  obtain ⟨s0, s1, s2, s3, s4, ws0, ws1, ws2, ws3, ws4, S, QS⟩ := spread_step h0_3 l0_3 h1_3 l1_3 h2_3 l2_3 h3_3 l3_3 h4_3 l4_3 y0 z0 m0 y1 z1 m1 y2 z2 m2 y3 z3 m3 y4 z4 m4
  obtain ⟨t0, t1, t2, t3, t4, T, QT⟩ := settle_step s0 s1 s2 s3 s4 ws0 ws1 ws2 ws3 ws4
  refine ⟨h0_1, l0_1, h0_2, l0_2, h0_3, l0_3, h1_1, l1_1, h1_2, l1_2, h1_3, l1_3, h2_1, l2_1, h2_2, l2_2, h2_3, l2_3, h3_1, l3_1, h3_2, l3_2, h3_3, l3_3, h4_1, l4_1, h4_2, l4_2, h4_3, l4_3, plusTo_of Q0_0, plusTo_of Q0_1, plusTo_of Q0_2, plusTo_of Q1_0, plusTo_of Q1_1, plusTo_of Q1_2, plusTo_of Q2_0, plusTo_of Q2_1, plusTo_of Q2_2, plusTo_of Q3_0, plusTo_of Q3_1, plusTo_of Q3_2, plusTo_of Q4_0, plusTo_of Q4_1, plusTo_of Q4_2, s0, s1, s2, s3, s4, t0, t1, t2, t3, t4, T.out.1, ?_, QS, QT, wrapW _ W2_x0.1 W2_x0.2, wrapW _ W2_x1.1 W2_x1.2, wrapW _ W2_x2.1 W2_x2.2, wrapW _ W2_x3.1 W2_x3.2, wrapW _ W19_x3.1 W19_x3.2, wrapW _ W19_x4.1 W19_x4.2⟩
  unfold Hid at E0 E1 E2 E3 E4 ⊢
  obtain ⟨k1, e1⟩ := sq_val5 x0 x1 x2 x3 x4
  obtain ⟨k2, e2⟩ := spread_val _ _ _ _ _ _ _ _ _ _ _ _ _ _ _ S.out T.out.2
  rw [E0, E1, E2, E3, E4] at e2
  rw [mod_of_sum e2, ← mod_of_sum e1]

/-- How one square goes, column by column. -/
def SqTo (x0 x1 x2 x3 x4 t0 t1 t2 t3 t4 : Int) : Prop := ∃ h0_1 l0_1 h0_2 l0_2 h0_3 l0_3 : Int, ∃ h1_1 l1_1 h1_2 l1_2 h1_3 l1_3 : Int, ∃ h2_1 l2_1 h2_2 l2_2 h2_3 l2_3 : Int, ∃ h3_1 l3_1 h3_2 l3_2 h3_3 l3_3 : Int, ∃ h4_1 l4_1 h4_2 l4_2 h4_3 l4_3 : Int, PlusTo 0 0 x0 x0 h0_1 l0_1 ∧ PlusTo h0_1 l0_1 (2 * x1) (19 * x4) h0_2 l0_2 ∧ PlusTo h0_2 l0_2 (2 * x2) (19 * x3) h0_3 l0_3 ∧ PlusTo 0 0 (2 * x0) x1 h1_1 l1_1 ∧ PlusTo h1_1 l1_1 (2 * x2) (19 * x4) h1_2 l1_2 ∧ PlusTo h1_2 l1_2 x3 (19 * x3) h1_3 l1_3 ∧ PlusTo 0 0 (2 * x0) x2 h2_1 l2_1 ∧ PlusTo h2_1 l2_1 x1 x1 h2_2 l2_2 ∧ PlusTo h2_2 l2_2 (2 * x3) (19 * x4) h2_3 l2_3 ∧ PlusTo 0 0 (2 * x0) x3 h3_1 l3_1 ∧ PlusTo h3_1 l3_1 (2 * x1) x2 h3_2 l3_2 ∧ PlusTo h3_2 l3_2 x4 (19 * x4) h3_3 l3_3 ∧ PlusTo 0 0 (2 * x0) x4 h4_1 l4_1 ∧ PlusTo h4_1 l4_1 (2 * x1) x3 h4_2 l4_2 ∧ PlusTo h4_2 l4_2 x2 x2 h4_3 l4_3 ∧  ∃ s0 s1 s2 s3 s4 : Int, (∀ w : World, Calls Tryd.prog 97 #[.agg #[.int .u64 h0_3, .int .u64 l0_3], .agg #[.int .u64 h1_3, .int .u64 l1_3], .agg #[.int .u64 h2_3, .int .u64 l2_3], .agg #[.int .u64 h3_3, .int .u64 l3_3], .agg #[.int .u64 h4_3, .int .u64 l4_3]] w fun e w' => e = .returned (.tuple #[.int .u64 s0, .int .u64 s1, .int .u64 s2, .int .u64 s3, .int .u64 s4]) ∧ Below w.heap.size w w') ∧ (∀ w : World, Calls Tryd.prog 96 #[.int .u64 s0, .int .u64 s1, .int .u64 s2, .int .u64 s3, .int .u64 s4] w fun e w' => e = .returned (.tuple #[.int .u64 t0, .int .u64 t1, .int .u64 t2, .int .u64 t3, .int .u64 t4]) ∧ w' = w) ∧ IntKind.u64.wrap (2 * x0) = 2 * x0 ∧ IntKind.u64.wrap (2 * x1) = 2 * x1 ∧ IntKind.u64.wrap (2 * x2) = 2 * x2 ∧ IntKind.u64.wrap (2 * x3) = 2 * x3 ∧ IntKind.u64.wrap (19 * x3) = 19 * x3 ∧ IntKind.u64.wrap (19 * x4) = 19 * x4
theorem sqTo_ex (x : L5) (hx : x.Tm) : ∃ t : L5, t.Tm ∧ t.num % (P25 : Int) = x.num * x.num % (P25 : Int) ∧ SqTo x.l0 x.l1 x.l2 x.l3 x.l4 t.l0 t.l1 t.l2 t.l3 t.l4 := by
  obtain ⟨h0_1, l0_1, h0_2, l0_2, h0_3, l0_3, h1_1, l1_1, h1_2, l1_2, h1_3, l1_3, h2_1, l2_1, h2_2, l2_2, h2_3, l2_3, h3_1, l3_1, h3_2, l3_2, h3_3, l3_3, h4_1, l4_1, h4_2, l4_2, h4_3, l4_3, q0_0, q0_1, q0_2, q1_0, q1_1, q1_2, q2_0, q2_1, q2_2, q3_0, q3_1, q3_2, q4_0, q4_1, q4_2, s0, s1, s2, s3, s4, t0, t1, t2, t3, t4, tt, ev, QS, QT, f0, f1, f2, f3, f4, f5⟩ := sq_cols x.l0 x.l1 x.l2 x.l3 x.l4 hx
  exact ⟨⟨t0, t1, t2, t3, t4⟩, tt, ev.out, h0_1, l0_1, h0_2, l0_2, h0_3, l0_3, h1_1, l1_1, h1_2, l1_2, h1_3, l1_3, h2_1, l2_1, h2_2, l2_2, h2_3, l2_3, h3_1, l3_1, h3_2, l3_2, h3_3, l3_3, h4_1, l4_1, h4_2, l4_2, h4_3, l4_3, q0_0, q0_1, q0_2, q1_0, q1_1, q1_2, q2_0, q2_1, q2_2, q3_0, q3_1, q3_2, q4_0, q4_1, q4_2, s0, s1, s2, s3, s4, QS, QT, f0, f1, f2, f3, f4, f5⟩

/-- Squared k times. -/
theorem pow_sq (v y : Int) (k : Nat) (h : y % (P25 : Int) = v ^ 2 ^ k % (P25 : Int)) : y * y % (P25 : Int) = v ^ 2 ^ (k + 1) % (P25 : Int) := by
  rw [Nat.pow_succ, Int.pow_mul, Int.pow_succ, Int.pow_succ, Int.pow_zero, Int.one_mul, Int.mul_emod, h, ← Int.mul_emod]

theorem sq_seq (x : L5) (hx : x.Tm) : ∃ X : Nat → L5, X 0 = x ∧ ∀ k, (X k).Tm ∧ (X k).num % (P25 : Int) = x.num ^ 2 ^ k % (P25 : Int) ∧ SqTo (X k).l0 (X k).l1 (X k).l2 (X k).l3 (X k).l4 (X (k + 1)).l0 (X (k + 1)).l1 (X (k + 1)).l2 (X (k + 1)).l3 (X (k + 1)).l4 := by
  let f : {y : L5 // y.Tm} → {y : L5 // y.Tm} := fun y => ⟨Classical.choose (sqTo_ex y.1 y.2), (Classical.choose_spec (sqTo_ex y.1 y.2)).1⟩
  let S : Nat → {y : L5 // y.Tm} := fun k => Nat.rec ⟨x, hx⟩ (fun _ y => f y) k
  have hS : ∀ k, S (k + 1) = f (S k) := fun k => rfl
  refine ⟨fun k => (S k).1, rfl, fun k => ⟨(S k).2, ?_, ?_⟩⟩
  · induction k with
    | zero => show x.num % _ = _; rw [Nat.pow_zero, Int.pow_succ, Int.pow_zero, Int.one_mul]
    | succ k ih =>
      have h := (Classical.choose_spec (sqTo_ex (S k).1 (S k).2)).2.1
      show (f (S k)).1.num % _ = _
      exact h.trans (pow_sq _ _ k ih)
  · exact (Classical.choose_spec (sqTo_ex (S k).1 (S k).2)).2.2

set_option maxHeartbeats 16000000 in
set_option maxRecDepth 100000 in
theorem square_fe (x : L5) (n : Int) (hx : x.Tm) (hn : -9223372036854775808 ≤ n ∧ n ≤ 9223372036854775807) (m : Nat) (hm : (n ≤ 0 ∧ m = 0) ∨ (0 ≤ n ∧ n ≤ 1000 ∧ n = (m : Int)) ∨ (1000 < n ∧ m = 1000)) :
    ∃ t : L5, t.Tm ∧ Hid (t.num % (P25 : Int) = x.num ^ 2 ^ m % (P25 : Int)) ∧ ∀ w : World, Calls Tryd.prog 80 #[.agg #[.int .u64 x.l0, .int .u64 x.l1, .int .u64 x.l2, .int .u64 x.l3, .int .u64 x.l4], .int .i64 n] w fun e w' => e = .returned (.agg #[.int .u64 t.l0, .int .u64 t.l1, .int .u64 t.l2, .int .u64 t.l3, .int .u64 t.l4]) ∧ Below w.heap.size w w' := by
  obtain ⟨X, hX0, hX⟩ := sq_seq x hx
  refine ⟨X m, (hX m).1, (hX m).2.1, fun w => ?_⟩
  have HS : Hid (∀ k, SqTo (X k).l0 (X k).l1 (X k).l2 (X k).l3 (X k).l4 (X (k + 1)).l0 (X (k + 1)).l1 (X (k + 1)).l2 (X (k + 1)).l3 (X (k + 1)).l4) := fun k => (hX k).2.2
  have HX0 : Hid (X 0 = x) := hX0
  obtain ⟨a0, a1, a2, a3, a4⟩ := x
  dsimp only
  clear hX hX0 hx
  obtain ⟨r, hr⟩ : ∃ r : Int, min n 1000 = r := ⟨_, rfl⟩
  have hr1 : r ≤ (m : Int) := by omega
  have hr2 : 0 < m → r = (m : Int) := by omega
  have hr3 : -9223372036854775808 ≤ r ∧ r ≤ 1000 := by omega
  go_enter Tryd.func80, Tryd.ntmps80
  go_wp2_with fail
  go_quiet (fail)
  go_wp2_with fail
  go_loopw [5, 6, 7, 8, 9, 31] (fun v0 v1 v2 v3 v4 i wr => ∃ (k : Nat), k ≤ m ∧ i = .int .i64 (k : Int) ∧ v0 = .int .u64 (X k).l0 ∧ v1 = .int .u64 (X k).l1 ∧ v2 = .int .u64 (X k).l2 ∧ v3 = .int .u64 (X k).l3 ∧ v4 = .int .u64 (X k).l4 ∧ Hid (Bl5 wr (w.heap.size + 1) 0 0 0 0 0) ∧ Hid (Below w.heap.size w wr)) (fun _ _ _ _ _ i _ => m - (intOf i).toNat)
  case atStart =>
    refine ⟨0, by omega, rfl, by rw [HX0.out], by rw [HX0.out], by rw [HX0.out], by rw [HX0.out], by rw [HX0.out], ?_, ?_⟩
    all_goals (unfold Hid)
    · refine Bl5.drewN ?_ _
      refine Bl5.new _ _ _ _ _ _ _ _ ?_
      simp
    · repeat (first | exact Below.refl _ _ | refine below_drewN ?_ _ | refine Below.alloc ?_ (by simp <;> omega) _)
  case round =>
    obtain ⟨k, hk, rfl, rfl, rfl, rfl, rfl, rfl, hR, hB⟩ := hrel
    clear HX0 hr hn hm
    obtain ⟨w0, hw0⟩ : ∃ w0, wr = w0 := ⟨_, rfl⟩
    subst hw0
    by_cases hlt : k < m
    · have HK := HS.out k
      obtain ⟨⟨x0, x1, x2, x3, x4⟩, hXk⟩ : ∃ y, X k = y := ⟨_, rfl⟩
      obtain ⟨⟨t0, t1, t2, t3, t4⟩, hXn⟩ : ∃ y, X (k + 1) = y := ⟨_, rfl⟩
      rw [hXk, hXn] at HK
      rw [hXk]
      dsimp only at HK ⊢
      have HXn : Hid (X (k + 1) = ⟨t0, t1, t2, t3, t4⟩) := hXn
      obtain ⟨h0_1, l0_1, h0_2, l0_2, h0_3, l0_3, h1_1, l1_1, h1_2, l1_2, h1_3, l1_3, h2_1, l2_1, h2_2, l2_2, h2_3, l2_3, h3_1, l3_1, h3_2, l3_2, h3_3, l3_3, h4_1, l4_1, h4_2, l4_2, h4_3, l4_3, q0_0, q0_1, q0_2, q1_0, q1_1, q1_2, q2_0, q2_1, q2_2, q3_0, q3_1, q3_2, q4_0, q4_1, q4_2, s0, s1, s2, s3, s4, QS, QT, f0, f1, f2, f3, f4, f5⟩ := HK
      have Q0_0 : Hid (PlusTo 0 0 x0 x0 h0_1 l0_1) := q0_0
      have Q0_1 : Hid (PlusTo h0_1 l0_1 (2 * x1) (19 * x4) h0_2 l0_2) := q0_1
      have Q0_2 : Hid (PlusTo h0_2 l0_2 (2 * x2) (19 * x3) h0_3 l0_3) := q0_2
      have Q1_0 : Hid (PlusTo 0 0 (2 * x0) x1 h1_1 l1_1) := q1_0
      have Q1_1 : Hid (PlusTo h1_1 l1_1 (2 * x2) (19 * x4) h1_2 l1_2) := q1_1
      have Q1_2 : Hid (PlusTo h1_2 l1_2 x3 (19 * x3) h1_3 l1_3) := q1_2
      have Q2_0 : Hid (PlusTo 0 0 (2 * x0) x2 h2_1 l2_1) := q2_0
      have Q2_1 : Hid (PlusTo h2_1 l2_1 x1 x1 h2_2 l2_2) := q2_1
      have Q2_2 : Hid (PlusTo h2_2 l2_2 (2 * x3) (19 * x4) h2_3 l2_3) := q2_2
      have Q3_0 : Hid (PlusTo 0 0 (2 * x0) x3 h3_1 l3_1) := q3_0
      have Q3_1 : Hid (PlusTo h3_1 l3_1 (2 * x1) x2 h3_2 l3_2) := q3_1
      have Q3_2 : Hid (PlusTo h3_2 l3_2 x4 (19 * x4) h3_3 l3_3) := q3_2
      have Q4_0 : Hid (PlusTo 0 0 (2 * x0) x4 h4_1 l4_1) := q4_0
      have Q4_1 : Hid (PlusTo h4_1 l4_1 (2 * x1) x3 h4_2 l4_2) := q4_1
      have Q4_2 : Hid (PlusTo h4_2 l4_2 x2 x2 h4_3 l4_3) := q4_2
      have qs : Hid (∀ w : World, Calls Tryd.prog 97 #[.agg #[.int .u64 h0_3, .int .u64 l0_3], .agg #[.int .u64 h1_3, .int .u64 l1_3], .agg #[.int .u64 h2_3, .int .u64 l2_3], .agg #[.int .u64 h3_3, .int .u64 l3_3], .agg #[.int .u64 h4_3, .int .u64 l4_3]] w fun e w' => e = .returned (.tuple #[.int .u64 s0, .int .u64 s1, .int .u64 s2, .int .u64 s3, .int .u64 s4]) ∧ Below w.heap.size w w') := QS
      have qt : Hid (∀ w : World, Calls Tryd.prog 96 #[.int .u64 s0, .int .u64 s1, .int .u64 s2, .int .u64 s3, .int .u64 s4] w fun e w' => e = .returned (.tuple #[.int .u64 t0, .int .u64 t1, .int .u64 t2, .int .u64 t3, .int .u64 t4]) ∧ w' = w) := QT
      have hm0 : (k : Int) < r := by omega
      have hk3 : (k : Int) < 1000 := by omega
      clear QS QT hXk hXn q0_0 q0_1 q0_2 q1_0 q1_1 q1_2 q2_0 q2_1 q2_2 q3_0 q3_1 q3_2 q4_0 q4_1 q4_2
      have I : Hid (k < m) := hlt
      clear hr1 hr2 hr3
      go_wp2_with fail
      refine (Q0_0.out _).mono ?_
      rintro e w1 ⟨rfl, g⟩
      have hR' := hold (hR.out.below g)
      have hB' := hold (hB.out.trans (g.mono hB.out.size))
      clear hR hB g 
      have hR := hR'; clear hR'
      have hB := hB'; clear hB'
      clear Q0_0
      go_wp2_with fail
      refine (Q0_1.out _).mono ?_
      rintro e w2 ⟨rfl, g⟩
      have hR' := hold (hR.out.below g)
      have hB' := hold (hB.out.trans (g.mono hB.out.size))
      clear hR hB g 
      have hR := hR'; clear hR'
      have hB := hB'; clear hB'
      clear Q0_1
      go_wp2_with fail
      refine (Q0_2.out _).mono ?_
      rintro e w3 ⟨rfl, g⟩
      have hR' := hold (hR.out.below g)
      have hB' := hold (hB.out.trans (g.mono hB.out.size))
      clear hR hB g 
      have hR := hR'; clear hR'
      have hB := hB'; clear hB'
      clear Q0_2
      go_wp2_with fail
      refine (Q1_0.out _).mono ?_
      rintro e w4 ⟨rfl, g⟩
      have K0' : Hid (Bl2 w4 w3.heap.size h0_3 l0_3) := (Bl2.new w3 _ h0_3 l0_3 125 rfl).below g
      have hR' : Hid (Bl5 w4 (w.heap.size + 1) 0 0 0 0 0) := (hR.out.alloc _).below g
      have hB' : Hid (Below w.heap.size w w4) := (hB.out.alloc hB.out.size _).trans (g.mono (by simp; have := hB.out.size; omega))
      clear hR hB g 
      have hR := hR'; clear hR'
      have hB := hB'; clear hB'
      have K0 := K0'; clear K0'
      clear Q1_0
      go_wp2_with fail
      refine (Q1_1.out _).mono ?_
      rintro e w5 ⟨rfl, g⟩
      have K0' := hold (K0.out.below g)
      have hR' := hold (hR.out.below g)
      have hB' := hold (hB.out.trans (g.mono hB.out.size))
      clear hR hB g K0
      have hR := hR'; clear hR'
      have hB := hB'; clear hB'
      have K0 := K0'; clear K0'
      clear Q1_1
      go_wp2_with fail
      refine (Q1_2.out _).mono ?_
      rintro e w6 ⟨rfl, g⟩
      have K0' := hold (K0.out.below g)
      have hR' := hold (hR.out.below g)
      have hB' := hold (hB.out.trans (g.mono hB.out.size))
      clear hR hB g K0
      have hR := hR'; clear hR'
      have hB := hB'; clear hB'
      have K0 := K0'; clear K0'
      clear Q1_2
      go_wp2_with fail
      refine (Q2_0.out _).mono ?_
      rintro e w7 ⟨rfl, g⟩
      have K1' : Hid (Bl2 w7 w6.heap.size h1_3 l1_3) := (Bl2.new w6 _ h1_3 l1_3 125 rfl).below g
      have K0' : Hid (Bl2 w7 w3.heap.size h0_3 l0_3) := (K0.out.alloc _).below g
      have hR' : Hid (Bl5 w7 (w.heap.size + 1) 0 0 0 0 0) := (hR.out.alloc _).below g
      have hB' : Hid (Below w.heap.size w w7) := (hB.out.alloc hB.out.size _).trans (g.mono (by simp; have := hB.out.size; omega))
      clear hR hB g K0
      have hR := hR'; clear hR'
      have hB := hB'; clear hB'
      have K0 := K0'; clear K0'
      have K1 := K1'; clear K1'
      clear Q2_0
      go_wp2_with fail
      refine (Q2_1.out _).mono ?_
      rintro e w8 ⟨rfl, g⟩
      have K0' := hold (K0.out.below g)
      have K1' := hold (K1.out.below g)
      have hR' := hold (hR.out.below g)
      have hB' := hold (hB.out.trans (g.mono hB.out.size))
      clear hR hB g K0 K1
      have hR := hR'; clear hR'
      have hB := hB'; clear hB'
      have K0 := K0'; clear K0'
      have K1 := K1'; clear K1'
      clear Q2_1
      go_wp2_with fail
      refine (Q2_2.out _).mono ?_
      rintro e w9 ⟨rfl, g⟩
      have K0' := hold (K0.out.below g)
      have K1' := hold (K1.out.below g)
      have hR' := hold (hR.out.below g)
      have hB' := hold (hB.out.trans (g.mono hB.out.size))
      clear hR hB g K0 K1
      have hR := hR'; clear hR'
      have hB := hB'; clear hB'
      have K0 := K0'; clear K0'
      have K1 := K1'; clear K1'
      clear Q2_2
      go_wp2_with fail
      refine (Q3_0.out _).mono ?_
      rintro e w10 ⟨rfl, g⟩
      have K2' : Hid (Bl2 w10 w9.heap.size h2_3 l2_3) := (Bl2.new w9 _ h2_3 l2_3 125 rfl).below g
      have K0' : Hid (Bl2 w10 w3.heap.size h0_3 l0_3) := (K0.out.alloc _).below g
      have K1' : Hid (Bl2 w10 w6.heap.size h1_3 l1_3) := (K1.out.alloc _).below g
      have hR' : Hid (Bl5 w10 (w.heap.size + 1) 0 0 0 0 0) := (hR.out.alloc _).below g
      have hB' : Hid (Below w.heap.size w w10) := (hB.out.alloc hB.out.size _).trans (g.mono (by simp; have := hB.out.size; omega))
      clear hR hB g K0 K1
      have hR := hR'; clear hR'
      have hB := hB'; clear hB'
      have K0 := K0'; clear K0'
      have K1 := K1'; clear K1'
      have K2 := K2'; clear K2'
      clear Q3_0
      go_wp2_with fail
      refine (Q3_1.out _).mono ?_
      rintro e w11 ⟨rfl, g⟩
      have K0' := hold (K0.out.below g)
      have K1' := hold (K1.out.below g)
      have K2' := hold (K2.out.below g)
      have hR' := hold (hR.out.below g)
      have hB' := hold (hB.out.trans (g.mono hB.out.size))
      clear hR hB g K0 K1 K2
      have hR := hR'; clear hR'
      have hB := hB'; clear hB'
      have K0 := K0'; clear K0'
      have K1 := K1'; clear K1'
      have K2 := K2'; clear K2'
      clear Q3_1
      go_wp2_with fail
      refine (Q3_2.out _).mono ?_
      rintro e w12 ⟨rfl, g⟩
      have K0' := hold (K0.out.below g)
      have K1' := hold (K1.out.below g)
      have K2' := hold (K2.out.below g)
      have hR' := hold (hR.out.below g)
      have hB' := hold (hB.out.trans (g.mono hB.out.size))
      clear hR hB g K0 K1 K2
      have hR := hR'; clear hR'
      have hB := hB'; clear hB'
      have K0 := K0'; clear K0'
      have K1 := K1'; clear K1'
      have K2 := K2'; clear K2'
      clear Q3_2
      go_wp2_with fail
      refine (Q4_0.out _).mono ?_
      rintro e w13 ⟨rfl, g⟩
      have K3' : Hid (Bl2 w13 w12.heap.size h3_3 l3_3) := (Bl2.new w12 _ h3_3 l3_3 125 rfl).below g
      have K0' : Hid (Bl2 w13 w3.heap.size h0_3 l0_3) := (K0.out.alloc _).below g
      have K1' : Hid (Bl2 w13 w6.heap.size h1_3 l1_3) := (K1.out.alloc _).below g
      have K2' : Hid (Bl2 w13 w9.heap.size h2_3 l2_3) := (K2.out.alloc _).below g
      have hR' : Hid (Bl5 w13 (w.heap.size + 1) 0 0 0 0 0) := (hR.out.alloc _).below g
      have hB' : Hid (Below w.heap.size w w13) := (hB.out.alloc hB.out.size _).trans (g.mono (by simp; have := hB.out.size; omega))
      clear hR hB g K0 K1 K2
      have hR := hR'; clear hR'
      have hB := hB'; clear hB'
      have K0 := K0'; clear K0'
      have K1 := K1'; clear K1'
      have K2 := K2'; clear K2'
      have K3 := K3'; clear K3'
      clear Q4_0
      go_wp2_with fail
      refine (Q4_1.out _).mono ?_
      rintro e w14 ⟨rfl, g⟩
      have K0' := hold (K0.out.below g)
      have K1' := hold (K1.out.below g)
      have K2' := hold (K2.out.below g)
      have K3' := hold (K3.out.below g)
      have hR' := hold (hR.out.below g)
      have hB' := hold (hB.out.trans (g.mono hB.out.size))
      clear hR hB g K0 K1 K2 K3
      have hR := hR'; clear hR'
      have hB := hB'; clear hB'
      have K0 := K0'; clear K0'
      have K1 := K1'; clear K1'
      have K2 := K2'; clear K2'
      have K3 := K3'; clear K3'
      clear Q4_1
      go_wp2_with fail
      refine (Q4_2.out _).mono ?_
      rintro e w15 ⟨rfl, g⟩
      have K0' := hold (K0.out.below g)
      have K1' := hold (K1.out.below g)
      have K2' := hold (K2.out.below g)
      have K3' := hold (K3.out.below g)
      have hR' := hold (hR.out.below g)
      have hB' := hold (hB.out.trans (g.mono hB.out.size))
      clear hR hB g K0 K1 K2 K3
      have hR := hR'; clear hR'
      have hB := hB'; clear hB'
      have K0 := K0'; clear K0'
      have K1 := K1'; clear K1'
      have K2 := K2'; clear K2'
      have K3 := K3'; clear K3'
      clear Q4_2
      obtain ⟨k0l, k0c, k0d, k0f⟩ := K0.out
      obtain ⟨k1l, k1c, k1d, k1f⟩ := K1.out
      obtain ⟨k2l, k2c, k2d, k2f⟩ := K2.out
      obtain ⟨k3l, k3c, k3d, k3f⟩ := K3.out
      go_wp2_with fail
      refine (qs.out _).mono ?_
      rintro e w16 ⟨rfl, g⟩
      have hR' : Hid (Bl5 w16 (w.heap.size + 1) 0 0 0 0 0) := (hR.out.alloc _).below g
      have hB' : Hid (Below w.heap.size w w16) := (hB.out.alloc hB.out.size _).trans (g.mono (by simp; have := hB.out.size; omega))
      clear hR hB g qs K0 K1 K2 K3 k0l k0c k0d k0f k1l k1c k1d k1f k2l k2c k2d k2f k3l k3c k3d k3f
      have hR := hR'; clear hR'
      have hB := hB'; clear hB'
      go_wp2_with fail
      refine (qt.out _).mono ?_
      rintro e w18 ⟨rfl, hw⟩
      rw [hw]; clear hw w18 qt
      go_wp2_with fail
      go_roundw
      case rel => exact ⟨k + 1, by have := I.out; omega, by go_num, by rw [HXn.out], by rw [HXn.out], by rw [HXn.out], by rw [HXn.out], by rw [HXn.out], hR, hB⟩
      case measure => have := I.out; simp [intOf]; omega
    · obtain rfl : k = m := by omega
      obtain ⟨⟨x0, x1, x2, x3, x4⟩, hXk⟩ : ∃ y, X k = y := ⟨_, rfl⟩
      have HXk : Hid (X k = ⟨x0, x1, x2, x3, x4⟩) := hXk
      rw [hXk]
      dsimp only
      clear hXk HS
      have hm0 : ¬ ((k : Int) < r) := by omega
      obtain ⟨rl, r0, r1, r2, r3, r4, rf⟩ := hR.out
      go_wp2_with fail
      refine body_cut (fun W => Bl5 W (w.heap.size + 1) x0 x1 x2 x3 x4 ∧ Below w.heap.size w W) ⟨hR.out.set x0 x1 x2 x3 x4, ?_⟩ ?_
      · iterate 5 (refine Below.setCell ?_ (by simp <;> omega) _)
        exact hB.out
      · clear rl r0 r1 r2 r3 r4 rf hR hB
        rintro W ⟨⟨rl, r0, r1, r2, r3, r4, rf⟩, hb⟩
        refine bodyPost_ret (v := .agg #[.int .u64 x0, .int .u64 x1, .int .u64 x2, .int .u64 x3, .int .u64 x4]) (by simp [results, Tryd.results80, go_sem, r0, r1, r2, r3, r4]) rfl ⟨by rw [HXk.out], hb⟩

end Go.Proofs.YtedhfimjcpbcpaaDoor

/-
  The contracts of the field's Add, Sub, Neg, Small and Select: for tame elements they return tame elements of the numbers that the document says, and change no memory that was there. Sub and Neg: where the package's variables are as the program lays them. Conditions: as each theorem says.
-/
namespace Go.Proofs.YtedhfimjcpbcpaaDoor
open Go.RowKit
set_option linter.unusedVariables false
set_option linter.unusedSimpArgs false

/-- The package's two variables, in memory. -/
structure Gl (W : World) : Prop where
  lt : 5 < W.heap.size
  a0 : W.cell? ⟨4, 0, none⟩ = some (.int .u64 9007199254740916)
  a1 : W.cell? ⟨4, 1, none⟩ = some (.int .u64 9007199254740988)
  a2 : W.cell? ⟨4, 2, none⟩ = some (.int .u64 9007199254740988)
  a3 : W.cell? ⟨4, 3, none⟩ = some (.int .u64 9007199254740988)
  a4 : W.cell? ⟨4, 4, none⟩ = some (.int .u64 9007199254740988)
  b0 : W.cell? ⟨5, 0, none⟩ = some (.int .u64 1718705420411056)
  b1 : W.cell? ⟨5, 1, none⟩ = some (.int .u64 234908883556509)
  b2 : W.cell? ⟨5, 2, none⟩ = some (.int .u64 2233514472574048)
  b3 : W.cell? ⟨5, 3, none⟩ = some (.int .u64 2117202627021982)
  b4 : W.cell? ⟨5, 4, none⟩ = some (.int .u64 765476049583133)
theorem Gl.below {W W' : World} (h : Gl W) {n : Nat} (hb : Below n W W') (hn : 5 < n) : Gl W' :=
  ⟨Nat.lt_of_lt_of_le h.lt hb.size, (hb.cell (p := ⟨4, 0, none⟩) (show 4 < n by omega)).trans h.a0, (hb.cell (p := ⟨4, 1, none⟩) (show 4 < n by omega)).trans h.a1, (hb.cell (p := ⟨4, 2, none⟩) (show 4 < n by omega)).trans h.a2, (hb.cell (p := ⟨4, 3, none⟩) (show 4 < n by omega)).trans h.a3, (hb.cell (p := ⟨4, 4, none⟩) (show 4 < n by omega)).trans h.a4, (hb.cell (p := ⟨5, 0, none⟩) (show 5 < n by omega)).trans h.b0, (hb.cell (p := ⟨5, 1, none⟩) (show 5 < n by omega)).trans h.b1, (hb.cell (p := ⟨5, 2, none⟩) (show 5 < n by omega)).trans h.b2, (hb.cell (p := ⟨5, 3, none⟩) (show 5 < n by omega)).trans h.b3, (hb.cell (p := ⟨5, 4, none⟩) (show 5 < n by omega)).trans h.b4⟩
theorem Gl.grown {W W' : World} (h : Gl W) (hb : Below W.heap.size W W') : Gl W' := h.below hb h.lt
/-- The first of them alone. -/
structure Gf (W : World) : Prop where
  lt : 4 < W.heap.size
  a0 : W.cell? ⟨4, 0, none⟩ = some (.int .u64 9007199254740916)
  a1 : W.cell? ⟨4, 1, none⟩ = some (.int .u64 9007199254740988)
  a2 : W.cell? ⟨4, 2, none⟩ = some (.int .u64 9007199254740988)
  a3 : W.cell? ⟨4, 3, none⟩ = some (.int .u64 9007199254740988)
  a4 : W.cell? ⟨4, 4, none⟩ = some (.int .u64 9007199254740988)
theorem Gf.below {W W' : World} (h : Gf W) {n : Nat} (hb : Below n W W') (hn : 4 < n) : Gf W' :=
  ⟨Nat.lt_of_lt_of_le h.lt hb.size, (hb.cell (p := ⟨4, 0, none⟩) (show 4 < n by omega)).trans h.a0, (hb.cell (p := ⟨4, 1, none⟩) (show 4 < n by omega)).trans h.a1, (hb.cell (p := ⟨4, 2, none⟩) (show 4 < n by omega)).trans h.a2, (hb.cell (p := ⟨4, 3, none⟩) (show 4 < n by omega)).trans h.a3, (hb.cell (p := ⟨4, 4, none⟩) (show 4 < n by omega)).trans h.a4⟩
theorem Gf.grown {W W' : World} (h : Gf W) (hb : Below W.heap.size W W') : Gf W' := h.below hb h.lt
theorem Gl.f {W : World} (h : Gl W) : Gf W := ⟨by have := h.lt; omega, h.a0, h.a1, h.a2, h.a3, h.a4⟩
theorem settle_val (l0 l1 l2 l3 l4 t0 t1 t2 t3 t4 : Int) (h : t0 = l0 % 2251799813685248 + 19 * (l4 / 2251799813685248) ∧ t1 = l1 % 2251799813685248 + l0 / 2251799813685248 ∧ t2 = l2 % 2251799813685248 + l1 / 2251799813685248 ∧ t3 = l3 % 2251799813685248 + l2 / 2251799813685248 ∧ t4 = l4 % 2251799813685248 + l3 / 2251799813685248) :
    val5 t0 t1 t2 t3 t4 % (P25 : Int) = val5 l0 l1 l2 l3 l4 % (P25 : Int) := by
  refine mod_of_sum (k := l4 / 2251799813685248) ?_
  unfold val5 P25
  omega
set_option maxHeartbeats 2000000 in
theorem add_fe (x y : L5) (hx : x.Tm) (hy : y.Tm) : ∃ z : L5, z.Tm ∧ Hid (z.num % (P25 : Int) = (x.num + y.num) % (P25 : Int)) ∧ ∀ w : World, Calls Tryd.prog 71 #[.agg #[.int .u64 x.l0, .int .u64 x.l1, .int .u64 x.l2, .int .u64 x.l3, .int .u64 x.l4], .agg #[.int .u64 y.l0, .int .u64 y.l1, .int .u64 y.l2, .int .u64 y.l3, .int .u64 y.l4]] w fun e w' => e = .returned (.agg #[.int .u64 z.l0, .int .u64 z.l1, .int .u64 z.l2, .int .u64 z.l3, .int .u64 z.l4]) ∧ Below w.heap.size w w' := by
  obtain ⟨x0, x1, x2, x3, x4⟩ := x
  obtain ⟨y0, y1, y2, y3, y4⟩ := y
  unfold L5.Tm Tame at hx hy
  dsimp only at hx hy ⊢
  obtain ⟨t0, t1, t2, t3, t4, E, Q⟩ := settled_step (x0 + y0) (x1 + y1) (x2 + y2) (x3 + y3) (x4 + y4) (by unfold Wd; omega) (by unfold Wd; omega) (by unfold Wd; omega) (by unfold Wd; omega) (by unfold Wd; omega)
  refine ⟨⟨t0, t1, t2, t3, t4⟩, E.out.1, ?_, fun w => ?_⟩
  · unfold Hid L5.num
    rw [settle_val _ _ _ _ _ _ _ _ _ _ E.out.2]
    congr 1
    unfold val5
    dsimp only
    clear E Q
    omega
  · have d0 : IntKind.u64.wrap (x0 + y0) = x0 + y0 := wrapW _ (by omega) (by omega)
    have d1 : IntKind.u64.wrap (x1 + y1) = x1 + y1 := wrapW _ (by omega) (by omega)
    have d2 : IntKind.u64.wrap (x2 + y2) = x2 + y2 := wrapW _ (by omega) (by omega)
    have d3 : IntKind.u64.wrap (x3 + y3) = x3 + y3 := wrapW _ (by omega) (by omega)
    have d4 : IntKind.u64.wrap (x4 + y4) = x4 + y4 := wrapW _ (by omega) (by omega)
    have q : Hid (∀ w : World, Calls Tryd.prog 99 #[.agg #[.int .u64 (x0 + y0), .int .u64 (x1 + y1), .int .u64 (x2 + y2), .int .u64 (x3 + y3), .int .u64 (x4 + y4)]] w fun e w' => e = .returned (.agg #[.int .u64 t0, .int .u64 t1, .int .u64 t2, .int .u64 t3, .int .u64 t4]) ∧ Below w.heap.size w w') := Q
    clear E Q hx hy
    go_enter Tryd.func71, Tryd.ntmps71
    go_wp2_with fail
    refine wp_unr 6 ?_
    refine unr_succ ?_
    go_wp2_with fail
    go_region
    go_wp2_with fail
    refine unr_succ ?_
    go_wp2_with fail
    go_region
    go_wp2_with fail
    refine unr_succ ?_
    go_wp2_with fail
    go_region
    go_wp2_with fail
    refine unr_succ ?_
    go_wp2_with fail
    go_region
    go_wp2_with fail
    refine unr_succ ?_
    go_wp2_with fail
    go_region
    go_wp2_with fail
    refine unr_succ ?_
    go_wp2_with fail
    refine calls_at (fun W => Bl5 W (w.heap.size + 1 + 1) (x0 + y0) (x1 + y1) (x2 + y2) (x3 + y3) (x4 + y4) ∧ Below w.heap.size w W) ⟨?_, ?_⟩ ?_
    · (repeat (first | refine Bl5.drew ?_ | refine Bl5.drewN ?_ _ | (refine Bl5.new _ _ _ _ _ _ _ _ ?_; simp; done) | refine Bl5.alloc ?_ _))
    · (repeat (first | exact Below.refl _ _ | refine Below.drew ?_ | refine below_drewN ?_ _ | refine Below.alloc ?_ (by simp <;> omega) _ | refine Below.setCell ?_ (by simp <;> omega) _))
    rintro W ⟨hR, hB⟩
    have HR : Hid (Bl5 W (w.heap.size + 1 + 1) (x0 + y0) (x1 + y1) (x2 + y2) (x3 + y3) (x4 + y4)) := hR
    have HB : Hid (Below w.heap.size w W) := hB
    clear hR hB
    refine (q.out _).mono ?_
    rintro e w1 ⟨rfl, g⟩
    have R1 := hold (HR.out.below g)
    have B1 := hold (HB.out.trans (g.mono HB.out.size))
    clear g
    obtain ⟨rl, r0, r1, r2, r3, r4, rf⟩ := R1.out
    go_wp2_with fail
    refine body_cut (fun W => Bl5 W (w.heap.size + 1 + 1) t0 t1 t2 t3 t4 ∧ Below w.heap.size w W) ⟨R1.out.set t0 t1 t2 t3 t4, ?_⟩ ?_
    · iterate 5 (refine Below.setCell ?_ (by simp <;> omega) _)
      exact B1.out
    · clear rl r0 r1 r2 r3 r4 rf R1 B1
      rintro W ⟨⟨rl, r0, r1, r2, r3, r4, rf⟩, hb⟩
      exact bodyPost_ret (v := .agg #[.int .u64 t0, .int .u64 t1, .int .u64 t2, .int .u64 t3, .int .u64 t4]) (by simp [results, Tryd.results71, go_sem, r0, r1, r2, r3, r4]) rfl ⟨rfl, hb⟩

set_option maxHeartbeats 2000000 in
theorem sub_ff (x y : L5) (hx : x.Tm) (hy : y.Tm) : ∃ z : L5, z.Tm ∧ Hid (z.num % (P25 : Int) = (x.num - y.num) % (P25 : Int)) ∧ ∀ w : World, Gf w → Calls Tryd.prog 70 #[.agg #[.int .u64 x.l0, .int .u64 x.l1, .int .u64 x.l2, .int .u64 x.l3, .int .u64 x.l4], .agg #[.int .u64 y.l0, .int .u64 y.l1, .int .u64 y.l2, .int .u64 y.l3, .int .u64 y.l4]] w fun e w' => e = .returned (.agg #[.int .u64 z.l0, .int .u64 z.l1, .int .u64 z.l2, .int .u64 z.l3, .int .u64 z.l4]) ∧ Below w.heap.size w w' := by
  obtain ⟨x0, x1, x2, x3, x4⟩ := x
  obtain ⟨y0, y1, y2, y3, y4⟩ := y
  unfold L5.Tm Tame at hx hy
  dsimp only at hx hy ⊢
  obtain ⟨t0, t1, t2, t3, t4, E, Q⟩ := settled_step (x0 + 9007199254740916 - y0) (x1 + 9007199254740988 - y1) (x2 + 9007199254740988 - y2) (x3 + 9007199254740988 - y3) (x4 + 9007199254740988 - y4) (by unfold Wd; omega) (by unfold Wd; omega) (by unfold Wd; omega) (by unfold Wd; omega) (by unfold Wd; omega)
  refine ⟨⟨t0, t1, t2, t3, t4⟩, E.out.1, ?_, fun w hg => ?_⟩
  · unfold Hid L5.num
    rw [settle_val _ _ _ _ _ _ _ _ _ _ E.out.2]
    refine (mod_of_sum (k := 4) ?_).symm
    unfold val5 P25
    dsimp only
    clear E Q
    omega
  · have hg' := hg
    have gl := hg.lt
    clear hg
    have c0 : IntKind.u64.wrap (x0 + 9007199254740916) = x0 + 9007199254740916 := wrapW _ (by omega) (by omega)
    have d0 : IntKind.u64.wrap (x0 + 9007199254740916 - y0) = x0 + 9007199254740916 - y0 := wrapW _ (by omega) (by omega)
    have c1 : IntKind.u64.wrap (x1 + 9007199254740988) = x1 + 9007199254740988 := wrapW _ (by omega) (by omega)
    have d1 : IntKind.u64.wrap (x1 + 9007199254740988 - y1) = x1 + 9007199254740988 - y1 := wrapW _ (by omega) (by omega)
    have c2 : IntKind.u64.wrap (x2 + 9007199254740988) = x2 + 9007199254740988 := wrapW _ (by omega) (by omega)
    have d2 : IntKind.u64.wrap (x2 + 9007199254740988 - y2) = x2 + 9007199254740988 - y2 := wrapW _ (by omega) (by omega)
    have c3 : IntKind.u64.wrap (x3 + 9007199254740988) = x3 + 9007199254740988 := wrapW _ (by omega) (by omega)
    have d3 : IntKind.u64.wrap (x3 + 9007199254740988 - y3) = x3 + 9007199254740988 - y3 := wrapW _ (by omega) (by omega)
    have c4 : IntKind.u64.wrap (x4 + 9007199254740988) = x4 + 9007199254740988 := wrapW _ (by omega) (by omega)
    have d4 : IntKind.u64.wrap (x4 + 9007199254740988 - y4) = x4 + 9007199254740988 - y4 := wrapW _ (by omega) (by omega)
    have gl0 : 0 < w.heap.size := by omega
    have q : Hid (∀ w : World, Calls Tryd.prog 99 #[.agg #[.int .u64 (x0 + 9007199254740916 - y0), .int .u64 (x1 + 9007199254740988 - y1), .int .u64 (x2 + 9007199254740988 - y2), .int .u64 (x3 + 9007199254740988 - y3), .int .u64 (x4 + 9007199254740988 - y4)]] w fun e w' => e = .returned (.agg #[.int .u64 t0, .int .u64 t1, .int .u64 t2, .int .u64 t3, .int .u64 t4]) ∧ Below w.heap.size w w') := Q
    clear E Q hx hy
    go_enter Tryd.func70, Tryd.ntmps70
    go_wp2_with fail
    refine wp_cut (fun V => Bl5 V w.heap.size x0 x1 x2 x3 x4 ∧ Bl5 V (w.heap.size + 1) y0 y1 y2 y3 y4 ∧ Bl5 V (w.heap.size + 1 + 1) 0 0 0 0 0 ∧ Gf V ∧ Below w.heap.size w V) ⟨?_, ?_, ?_, ?_, ?_⟩ ?_
    iterate 3 (· (repeat (first | refine Bl5.drew ?_ | refine Bl5.drewN ?_ _ | (refine Bl5.new _ _ _ _ _ _ _ _ ?_; simp; done) | refine Bl5.alloc ?_ _)))
    · refine Gf.grown hg' ?_
      (repeat (first | exact Below.refl _ _ | refine Below.drew ?_ | refine below_drewN ?_ _ | refine Below.alloc ?_ (by simp <;> omega) _))
    · (repeat (first | exact Below.refl _ _ | refine Below.drew ?_ | refine below_drewN ?_ _ | refine Below.alloc ?_ (by simp <;> omega) _ | refine Below.setCell ?_ (by simp <;> omega) _))
    rintro V ⟨kX, kY, kR, kG, kB⟩
    have HB0 : Hid (Below w.heap.size w V) := kB
    have HR0 : Hid (Bl5 V (w.heap.size + 1 + 1) 0 0 0 0 0) := kR
    obtain ⟨gvl, g0, g1, g2, g3, g4⟩ := kG
    obtain ⟨xl, xx0, xx1, xx2, xx3, xx4, xf⟩ := kX
    obtain ⟨yl, yy0, yy1, yy2, yy3, yy4, yf⟩ := kY
    obtain ⟨rl, r0, r1, r2, r3, r4, rf⟩ := kR
    have ne1 : ¬ (w.heap.size + 1 + 1) = 4 := by omega
    have ne2 : ¬ 4 = (w.heap.size + 1 + 1) := by omega
    clear kB hg'
    refine wp_unr 6 ?_
    refine unr_succ ?_
    go_wp2_with fail
    go_region
    go_wp2_with fail
    refine unr_succ ?_
    go_wp2_with fail
    go_region
    go_wp2_with fail
    refine unr_succ ?_
    go_wp2_with fail
    go_region
    go_wp2_with fail
    refine unr_succ ?_
    go_wp2_with fail
    go_region
    go_wp2_with fail
    refine unr_succ ?_
    go_wp2_with fail
    go_region
    go_wp2_with fail
    refine unr_succ ?_
    go_wp2_with fail
    refine calls_at (fun W => Bl5 W (w.heap.size + 1 + 1) (x0 + 9007199254740916 - y0) (x1 + 9007199254740988 - y1) (x2 + 9007199254740988 - y2) (x3 + 9007199254740988 - y3) (x4 + 9007199254740988 - y4) ∧ Below w.heap.size w W) ⟨?_, ?_⟩ ?_
    · iterate 5 (refine Bl5.drew ?_)
      exact HR0.out.set (x0 + 9007199254740916 - y0) (x1 + 9007199254740988 - y1) (x2 + 9007199254740988 - y2) (x3 + 9007199254740988 - y3) (x4 + 9007199254740988 - y4)
    · iterate 5 (refine Below.drew ?_)
      iterate 5 (refine Below.setCell ?_ (by show _ ≤ w.heap.size + 1 + 1; omega) _)
      exact HB0.out
    clear rl r0 r1 r2 r3 r4 rf HR0 HB0
    rintro W ⟨hR, hB⟩
    have HR : Hid (Bl5 W (w.heap.size + 1 + 1) (x0 + 9007199254740916 - y0) (x1 + 9007199254740988 - y1) (x2 + 9007199254740988 - y2) (x3 + 9007199254740988 - y3) (x4 + 9007199254740988 - y4)) := hR
    have HB : Hid (Below w.heap.size w W) := hB
    clear hR hB
    refine (q.out _).mono ?_
    rintro e w1 ⟨rfl, g⟩
    have R1 := hold (HR.out.below g)
    have B1 := hold (HB.out.trans (g.mono HB.out.size))
    clear g
    obtain ⟨rl, r0, r1, r2, r3, r4, rf⟩ := R1.out
    go_wp2_with fail
    refine body_cut (fun W => Bl5 W (w.heap.size + 1 + 1) t0 t1 t2 t3 t4 ∧ Below w.heap.size w W) ⟨R1.out.set t0 t1 t2 t3 t4, ?_⟩ ?_
    · iterate 5 (refine Below.setCell ?_ (by simp <;> omega) _)
      exact B1.out
    · clear rl r0 r1 r2 r3 r4 rf R1 B1
      rintro W ⟨⟨rl, r0, r1, r2, r3, r4, rf⟩, hb⟩
      exact bodyPost_ret (v := .agg #[.int .u64 t0, .int .u64 t1, .int .u64 t2, .int .u64 t3, .int .u64 t4]) (by simp [results, Tryd.results70, go_sem, r0, r1, r2, r3, r4]) rfl ⟨rfl, hb⟩

theorem tame_zero : Tame 0 0 0 0 0 := by unfold Tame; omega
set_option maxHeartbeats 1000000 in
theorem neg_ff (x : L5) (hx : x.Tm) : ∃ z : L5, z.Tm ∧ Hid (z.num % (P25 : Int) = (- x.num) % (P25 : Int)) ∧ ∀ w : World, Gf w → Calls Tryd.prog 38 #[.agg #[.int .u64 x.l0, .int .u64 x.l1, .int .u64 x.l2, .int .u64 x.l3, .int .u64 x.l4]] w fun e w' => e = .returned (.agg #[.int .u64 z.l0, .int .u64 z.l1, .int .u64 z.l2, .int .u64 z.l3, .int .u64 z.l4]) ∧ Below w.heap.size w w' := by
  obtain ⟨z, hz, E, Q⟩ := sub_ff ⟨0, 0, 0, 0, 0⟩ x tame_zero hx
  refine ⟨z, hz, ?_, fun w hg => ?_⟩
  · unfold Hid at *
    rw [E]
    congr 1
    unfold L5.num val5
    dsimp only
    omega
  · obtain ⟨x0, x1, x2, x3, x4⟩ := x
    obtain ⟨t0, t1, t2, t3, t4⟩ := z
    dsimp only at Q ⊢
    have q : Hid (∀ w : World, Gf w → Calls Tryd.prog 70 #[.agg #[.int .u64 0, .int .u64 0, .int .u64 0, .int .u64 0, .int .u64 0], .agg #[.int .u64 x0, .int .u64 x1, .int .u64 x2, .int .u64 x3, .int .u64 x4]] w fun e w' => e = .returned (.agg #[.int .u64 t0, .int .u64 t1, .int .u64 t2, .int .u64 t3, .int .u64 t4]) ∧ Below w.heap.size w w') := Q
    have HG : Hid (Gf w) := hg
    clear E Q hx hz hg
    go_enter Tryd.func38, Tryd.ntmps38
    go_wp2_with fail
    refine calls_at (fun W => Bl5 W (w.heap.size + 1) 0 0 0 0 0 ∧ Below w.heap.size w W) ⟨?_, ?_⟩ ?_
    · (repeat (first | refine Bl5.drew ?_ | refine Bl5.drewN ?_ _ | (refine Bl5.new _ _ _ _ _ _ _ _ ?_; simp; done) | refine Bl5.alloc ?_ _))
    · (repeat (first | exact Below.refl _ _ | refine Below.drew ?_ | refine below_drewN ?_ _ | refine Below.alloc ?_ (by simp <;> omega) _ | refine Below.setCell ?_ (by simp <;> omega) _))
    rintro W ⟨hR, hB⟩
    have HR : Hid (Bl5 W (w.heap.size + 1) 0 0 0 0 0) := hR
    have HB : Hid (Below w.heap.size w W) := hB
    clear hR hB
    refine (q.out _ (HG.out.grown HB.out)).mono ?_
    rintro e w1 ⟨rfl, g⟩
    have R1 := hold (HR.out.below g)
    have B1 := hold (HB.out.trans (g.mono HB.out.size))
    clear g
    obtain ⟨rl, r0, r1, r2, r3, r4, rf⟩ := R1.out
    go_wp2_with fail
    refine body_cut (fun W => Bl5 W (w.heap.size + 1) t0 t1 t2 t3 t4 ∧ Below w.heap.size w W) ⟨R1.out.set t0 t1 t2 t3 t4, ?_⟩ ?_
    · iterate 5 (refine Below.setCell ?_ (by simp <;> omega) _)
      exact B1.out
    · clear rl r0 r1 r2 r3 r4 rf R1 B1
      rintro W ⟨⟨rl, r0, r1, r2, r3, r4, rf⟩, hb⟩
      exact bodyPost_ret (v := .agg #[.int .u64 t0, .int .u64 t1, .int .u64 t2, .int .u64 t3, .int .u64 t4]) (by simp [results, Tryd.results38, go_sem, r0, r1, r2, r3, r4]) rfl ⟨rfl, hb⟩
theorem sub_fe (x y : L5) (hx : x.Tm) (hy : y.Tm) : ∃ z : L5, z.Tm ∧ Hid (z.num % (P25 : Int) = (x.num - y.num) % (P25 : Int)) ∧ ∀ w : World, Gl w → Calls Tryd.prog 70 #[.agg #[.int .u64 x.l0, .int .u64 x.l1, .int .u64 x.l2, .int .u64 x.l3, .int .u64 x.l4], .agg #[.int .u64 y.l0, .int .u64 y.l1, .int .u64 y.l2, .int .u64 y.l3, .int .u64 y.l4]] w fun e w' => e = .returned (.agg #[.int .u64 z.l0, .int .u64 z.l1, .int .u64 z.l2, .int .u64 z.l3, .int .u64 z.l4]) ∧ Below w.heap.size w w' := by
  obtain ⟨z, h1, h2, h3⟩ := sub_ff x y hx hy
  exact ⟨z, h1, h2, fun w hg => h3 w hg.f⟩
theorem neg_fe (x : L5) (hx : x.Tm) : ∃ z : L5, z.Tm ∧ Hid (z.num % (P25 : Int) = (- x.num) % (P25 : Int)) ∧ ∀ w : World, Gl w → Calls Tryd.prog 38 #[.agg #[.int .u64 x.l0, .int .u64 x.l1, .int .u64 x.l2, .int .u64 x.l3, .int .u64 x.l4]] w fun e w' => e = .returned (.agg #[.int .u64 z.l0, .int .u64 z.l1, .int .u64 z.l2, .int .u64 z.l3, .int .u64 z.l4]) ∧ Below w.heap.size w w' := by
  obtain ⟨z, h1, h2, h3⟩ := neg_ff x hx
  exact ⟨z, h1, h2, fun w hg => h3 w hg.f⟩

theorem small_fe (n : Nat) (hn : n < 4294967296) (w : World) : Calls Tryd.prog 79 #[.int .u32 (n : Int)] w fun e w' => e = .returned (.agg #[.int .u64 (n : Int), .int .u64 0, .int .u64 0, .int .u64 0, .int .u64 0]) ∧ Below w.heap.size w w' := by
  have c : IntKind.u64.wrap (n : Int) = (n : Int) := wrapW _ (by omega) (by omega)
  go_enter Tryd.func79, Tryd.ntmps79
  go_wp2_with fail
  refine bodyPost_ret (v := .agg #[.int .u64 (n : Int), .int .u64 0, .int .u64 0, .int .u64 0, .int .u64 0]) (by simp [results, Tryd.results79, go_sem]) rfl ⟨rfl, ?_⟩
  (repeat (first | exact Below.refl _ _ | refine Below.drew ?_ | refine below_drewN ?_ _ | refine Below.alloc ?_ (by simp <;> omega) _ | refine Below.setCell ?_ (by simp <;> omega) _))

theorem toNat_wd (a : Int) (h : Wd a) : (((BitVec.ofInt 64 a).toNat : Nat) : Int) = a := by
  unfold Wd at h
  obtain ⟨n, rfl⟩ := Int.eq_ofNat_of_zero_le h.1
  rw [BitVec.ofInt_natCast, BitVec.toNat_ofNat, Nat.mod_eq_of_lt (by omega)]
theorem wrap_wd (a : Int) (h : Wd a) : IntKind.u64.wrap a = a := wrapW a h.1 h.2
theorem and_ones (a : Int) (h : Wd a) : bits .and .u64 a 18446744073709551615 = a := by
  show IntKind.u64.wrap ((BitVec.ofInt 64 a &&& BitVec.ofInt 64 18446744073709551615).toNat : Int) = a
  rw [show BitVec.ofInt 64 18446744073709551615 = BitVec.allOnes 64 by decide, BitVec.and_allOnes, toNat_wd a h, wrap_wd a h]
theorem and_zero' (a : Int) : bits .and .u64 a 0 = 0 := by
  show IntKind.u64.wrap ((BitVec.ofInt 64 a &&& BitVec.ofInt 64 0).toNat : Int) = 0
  rw [show BitVec.ofInt 64 0 = 0#64 by decide, BitVec.and_zero]; decide
theorem andNot_ones (a : Int) : bits .andNot .u64 a 18446744073709551615 = 0 := by
  show IntKind.u64.wrap ((BitVec.ofInt 64 a &&& ~~~ BitVec.ofInt 64 18446744073709551615).toNat : Int) = 0
  rw [show ~~~ BitVec.ofInt 64 18446744073709551615 = 0#64 by decide, BitVec.and_zero]; decide
theorem andNot_zero (a : Int) (h : Wd a) : bits .andNot .u64 a 0 = a := by
  show IntKind.u64.wrap ((BitVec.ofInt 64 a &&& ~~~ BitVec.ofInt 64 0).toNat : Int) = a
  rw [show ~~~ BitVec.ofInt 64 0 = BitVec.allOnes 64 by decide, BitVec.and_allOnes, toNat_wd a h, wrap_wd a h]
theorem or_zero' (a : Int) (h : Wd a) : bits .or .u64 a 0 = a := by
  show IntKind.u64.wrap ((BitVec.ofInt 64 a ||| BitVec.ofInt 64 0).toNat : Int) = a
  rw [show BitVec.ofInt 64 0 = 0#64 by decide, BitVec.or_zero, toNat_wd a h, wrap_wd a h]
theorem zero_or' (a : Int) (h : Wd a) : bits .or .u64 0 a = a := by
  show IntKind.u64.wrap ((BitVec.ofInt 64 0 ||| BitVec.ofInt 64 a).toNat : Int) = a
  rw [show BitVec.ofInt 64 0 = 0#64 by decide, BitVec.zero_or, toNat_wd a h, wrap_wd a h]
set_option maxHeartbeats 2000000 in
theorem select_yes (c : Int) (x y : L5) (hx : x.Tm) (hy : y.Tm) (hc : bits .and .u64 c 1 = 1) (w : World) : Calls Tryd.prog 108 #[.int .u64 c, .agg #[.int .u64 x.l0, .int .u64 x.l1, .int .u64 x.l2, .int .u64 x.l3, .int .u64 x.l4], .agg #[.int .u64 y.l0, .int .u64 y.l1, .int .u64 y.l2, .int .u64 y.l3, .int .u64 y.l4]] w fun e w' => e = .returned (.agg #[.int .u64 x.l0, .int .u64 x.l1, .int .u64 x.l2, .int .u64 x.l3, .int .u64 x.l4]) ∧ Below w.heap.size w w' := by
  obtain ⟨x0, x1, x2, x3, x4⟩ := x
  obtain ⟨y0, y1, y2, y3, y4⟩ := y
  unfold L5.Tm Tame at hx hy
  dsimp only at hx hy ⊢
  have e0 : IntKind.u64.wrap (-1) = 18446744073709551615 := by decide
  have wx0 : Wd x0 := by unfold Wd; omega
  have wy0 : Wd y0 := by unfold Wd; omega
  have a0 := and_ones x0 wx0
  have b0 := andNot_ones y0
  have c0 := or_zero' x0 wx0
  have wx1 : Wd x1 := by unfold Wd; omega
  have wy1 : Wd y1 := by unfold Wd; omega
  have a1 := and_ones x1 wx1
  have b1 := andNot_ones y1
  have c1 := or_zero' x1 wx1
  have wx2 : Wd x2 := by unfold Wd; omega
  have wy2 : Wd y2 := by unfold Wd; omega
  have a2 := and_ones x2 wx2
  have b2 := andNot_ones y2
  have c2 := or_zero' x2 wx2
  have wx3 : Wd x3 := by unfold Wd; omega
  have wy3 : Wd y3 := by unfold Wd; omega
  have a3 := and_ones x3 wx3
  have b3 := andNot_ones y3
  have c3 := or_zero' x3 wx3
  have wx4 : Wd x4 := by unfold Wd; omega
  have wy4 : Wd y4 := by unfold Wd; omega
  have a4 := and_ones x4 wx4
  have b4 := andNot_ones y4
  have c4 := or_zero' x4 wx4
  clear hx hy wx0 wx1 wx2 wx3 wx4 wy0 wy1 wy2 wy3 wy4
  go_enter Tryd.func108, Tryd.ntmps108
  go_wp2_with fail
  refine wp_unr 6 ?_
  refine unr_succ ?_
  go_wp2_with fail
  go_region
  go_wp2_with fail
  refine unr_succ ?_
  go_wp2_with fail
  go_region
  go_wp2_with fail
  refine unr_succ ?_
  go_wp2_with fail
  go_region
  go_wp2_with fail
  refine unr_succ ?_
  go_wp2_with fail
  go_region
  go_wp2_with fail
  refine unr_succ ?_
  go_wp2_with fail
  go_region
  go_wp2_with fail
  refine unr_succ ?_
  go_wp2_with fail
  refine bodyPost_ret (v := .agg #[.int .u64 x0, .int .u64 x1, .int .u64 x2, .int .u64 x3, .int .u64 x4]) (by simp [results, Tryd.results108, go_sem]) rfl ⟨rfl, ?_⟩
  (repeat (first | exact Below.refl _ _ | refine Below.drew ?_ | refine below_drewN ?_ _ | refine Below.alloc ?_ (by simp <;> omega) _ | refine Below.setCell ?_ (by simp <;> omega) _))
set_option maxHeartbeats 2000000 in
theorem select_no (c : Int) (x y : L5) (hx : x.Tm) (hy : y.Tm) (hc : bits .and .u64 c 1 = 0) (w : World) : Calls Tryd.prog 108 #[.int .u64 c, .agg #[.int .u64 x.l0, .int .u64 x.l1, .int .u64 x.l2, .int .u64 x.l3, .int .u64 x.l4], .agg #[.int .u64 y.l0, .int .u64 y.l1, .int .u64 y.l2, .int .u64 y.l3, .int .u64 y.l4]] w fun e w' => e = .returned (.agg #[.int .u64 y.l0, .int .u64 y.l1, .int .u64 y.l2, .int .u64 y.l3, .int .u64 y.l4]) ∧ Below w.heap.size w w' := by
  obtain ⟨x0, x1, x2, x3, x4⟩ := x
  obtain ⟨y0, y1, y2, y3, y4⟩ := y
  unfold L5.Tm Tame at hx hy
  dsimp only at hx hy ⊢
  have e0 : IntKind.u64.wrap (-0) = 0 := by decide
  have wx0 : Wd x0 := by unfold Wd; omega
  have wy0 : Wd y0 := by unfold Wd; omega
  have a0 := and_zero' x0
  have b0 := andNot_zero y0 wy0
  have c0 := zero_or' y0 wy0
  have wx1 : Wd x1 := by unfold Wd; omega
  have wy1 : Wd y1 := by unfold Wd; omega
  have a1 := and_zero' x1
  have b1 := andNot_zero y1 wy1
  have c1 := zero_or' y1 wy1
  have wx2 : Wd x2 := by unfold Wd; omega
  have wy2 : Wd y2 := by unfold Wd; omega
  have a2 := and_zero' x2
  have b2 := andNot_zero y2 wy2
  have c2 := zero_or' y2 wy2
  have wx3 : Wd x3 := by unfold Wd; omega
  have wy3 : Wd y3 := by unfold Wd; omega
  have a3 := and_zero' x3
  have b3 := andNot_zero y3 wy3
  have c3 := zero_or' y3 wy3
  have wx4 : Wd x4 := by unfold Wd; omega
  have wy4 : Wd y4 := by unfold Wd; omega
  have a4 := and_zero' x4
  have b4 := andNot_zero y4 wy4
  have c4 := zero_or' y4 wy4
  clear hx hy wx0 wx1 wx2 wx3 wx4 wy0 wy1 wy2 wy3 wy4
  go_enter Tryd.func108, Tryd.ntmps108
  go_wp2_with fail
  refine wp_unr 6 ?_
  refine unr_succ ?_
  go_wp2_with fail
  go_region
  go_wp2_with fail
  refine unr_succ ?_
  go_wp2_with fail
  go_region
  go_wp2_with fail
  refine unr_succ ?_
  go_wp2_with fail
  go_region
  go_wp2_with fail
  refine unr_succ ?_
  go_wp2_with fail
  go_region
  go_wp2_with fail
  refine unr_succ ?_
  go_wp2_with fail
  go_region
  go_wp2_with fail
  refine unr_succ ?_
  go_wp2_with fail
  refine bodyPost_ret (v := .agg #[.int .u64 y0, .int .u64 y1, .int .u64 y2, .int .u64 y3, .int .u64 y4]) (by simp [results, Tryd.results108, go_sem]) rfl ⟨rfl, ?_⟩
  (repeat (first | exact Below.refl _ _ | refine Below.drew ?_ | refine below_drewN ?_ _ | refine Below.alloc ?_ (by simp <;> omega) _ | refine Below.setCell ?_ (by simp <;> omega) _))

end Go.Proofs.YtedhfimjcpbcpaaDoor
