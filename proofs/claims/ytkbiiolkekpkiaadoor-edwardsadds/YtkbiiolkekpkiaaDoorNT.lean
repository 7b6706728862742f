/-
  Numbers modulo primes: a divisor of a product divides a factor; Fermat's little theorem; Pocklington's test for primes. No program is spoken of here. Conditions: as each theorem says.
-/
import Derived.Test.YtkbiiolkekpkiaaDoorProg
namespace Go.Proofs.YtkbiiolkekpkiaaDoor
set_option linter.unusedVariables false

/-- A prime. -/
def Pr (p : Nat) : Prop := 1 < p ∧ ∀ d, d ∣ p → d = 1 ∨ d = p

theorem Pr.coprime {p a : Nat} (hp : Pr p) (h : ¬ p ∣ a) : Nat.Coprime p a := by
  rcases hp.2 _ (Nat.gcd_dvd_left p a) with e | e
  · exact e
  · exact absurd (e ▸ Nat.gcd_dvd_right p a) h
theorem Pr.dvd_mul {p a b : Nat} (hp : Pr p) (h : p ∣ a * b) : p ∣ a ∨ p ∣ b := by
  by_cases ha : p ∣ a
  · exact .inl ha
  · exact .inr ((hp.coprime ha).dvd_of_dvd_mul_left h)
theorem Pr.mul_ne {p a b : Nat} (hp : Pr p) (ha : a % p ≠ 0) (hb : b % p ≠ 0) : a * b % p ≠ 0 := by
  intro h
  rcases hp.dvd_mul (Nat.dvd_of_mod_eq_zero h) with h | h
  · exact ha (Nat.mod_eq_zero_of_dvd h)
  · exact hb (Nat.mod_eq_zero_of_dvd h)

theorem sub_of_mod {p x y : Nat} (hxy : x ≤ y) (h : x % p = y % p) : p ∣ y - x := by
  have h1 := Nat.div_add_mod x p
  have h2 := Nat.div_add_mod y p
  refine ⟨y / p - x / p, ?_⟩
  rw [Nat.mul_sub]
  omega
theorem mod_of_sub {p x y : Nat} (hxy : x ≤ y) (h : p ∣ y - x) : x % p = y % p := by
  obtain ⟨c, hc⟩ := h
  rw [show y = x + p * c by omega, Nat.add_mul_mod_self_left]
theorem Pr.cancel {p a x y : Nat} (hp : Pr p) (ha : a % p ≠ 0) (h : a * x % p = a * y % p) : x % p = y % p := by
  have key : ∀ u v : Nat, u ≤ v → a * u % p = a * v % p → u % p = v % p := by
    intro u v huv h
    have h1 : p ∣ a * v - a * u := sub_of_mod (Nat.mul_le_mul_left a huv) h
    rw [← Nat.mul_sub] at h1
    rcases hp.dvd_mul h1 with h2 | h2
    · exact absurd (Nat.mod_eq_zero_of_dvd h2) ha
    · exact mod_of_sub huv h2
  rcases Nat.le_total x y with hxy | hxy
  · exact key x y hxy h
  · exact (key y x hxy h.symm).symm

theorem prod_scaled (a p : Nat) : ∀ l : List Nat, (l.map fun i => a * i % p).prod % p = a ^ l.length * l.prod % p
  | [] => by simp
  | x :: l => by
    have ih := prod_scaled a p l
    simp only [List.map_cons, List.prod_cons, List.length_cons]
    rw [Nat.mul_mod, Nat.mod_mod, ih, ← Nat.mul_mod, Nat.pow_succ]
    congr 1
    grind
theorem Pr.prod_ne {p : Nat} (hp : Pr p) : ∀ l : List Nat, (∀ x ∈ l, x % p ≠ 0) → l.prod % p ≠ 0
  | [], _ => by
    have := hp.1
    simp only [List.prod_nil]
    rw [Nat.mod_eq_of_lt this]
    omega
  | x :: l, h => by
    simp only [List.prod_cons]
    exact hp.mul_ne (h x (by simp)) (hp.prod_ne l fun y hy => h y (by simp [hy]))

/-- Fermat's little theorem. -/
theorem fermat {p a : Nat} (hp : Pr p) (ha : a % p ≠ 0) : a ^ (p - 1) % p = 1 := by
  have h1 := hp.1
  have hL : ∀ x, x ∈ List.range' 1 (p - 1) ↔ 0 < x ∧ x < p := by
    intro x
    rw [List.mem_range'_1]
    omega
  have hin : ∀ x, x ∈ List.range' 1 (p - 1) → x % p ≠ 0 := by
    intro x hx
    have := (hL x).1 hx
    rw [Nat.mod_eq_of_lt this.2]
    omega
  have hnd : (List.range' 1 (p - 1)).Nodup := List.nodup_range'
  have hinj : ∀ x ∈ List.range' 1 (p - 1), ∀ y ∈ List.range' 1 (p - 1), a * x % p = a * y % p → x = y := by
    intro x hx y hy h
    have h2 := hp.cancel ha h
    rwa [Nat.mod_eq_of_lt ((hL x).1 hx).2, Nat.mod_eq_of_lt ((hL y).1 hy).2] at h2
  have hnd2 : ((List.range' 1 (p - 1)).map fun i => a * i % p).Nodup := by
    rw [List.Nodup, List.pairwise_map]
    refine List.Pairwise.imp_of_mem ?_ hnd
    intro x y hx hy hne h
    exact hne (hinj x hx y hy h)
  have hsub : ∀ y, y ∈ (List.range' 1 (p - 1)).map (fun i => a * i % p) → y ∈ List.range' 1 (p - 1) := by
    intro y hy
    obtain ⟨x, hx, rfl⟩ := List.mem_map.1 hy
    have := hp.mul_ne ha (hin x hx)
    exact (hL _).2 ⟨by omega, Nat.mod_lt _ (by omega)⟩
  have hperm : ((List.range' 1 (p - 1)).map fun i => a * i % p).Perm (List.range' 1 (p - 1)) := by
    refine (List.perm_ext_iff_of_nodup hnd2 hnd).2 fun y => ⟨hsub y, fun hy => ?_⟩
    apply Classical.byContradiction
    intro hno
    have hle := List.Nodup.length_le_of_subset (l₁ := y :: (List.range' 1 (p - 1)).map fun i => a * i % p) (l₂ := List.range' 1 (p - 1))
      (List.nodup_cons.2 ⟨hno, hnd2⟩) (by
        intro z hz
        rcases List.mem_cons.1 hz with rfl | hz
        · exact hy
        · exact hsub z hz)
    simp at hle
    omega
  have e1 := prod_scaled a p (List.range' 1 (p - 1))
  rw [hperm.prod_nat, List.length_range'] at e1
  have hne := hp.prod_ne _ hin
  have e2 := hp.cancel (x := 1) (y := a ^ (p - 1)) hne (by rw [Nat.mul_one, Nat.mul_comm]; exact e1)
  rw [← e2, Nat.mod_eq_of_lt h1]

theorem pow_one_mul {r b m : Nat} (h : b ^ m % r = 1 % r) (k : Nat) : b ^ (m * k) % r = 1 % r := by
  rw [Nat.pow_mul, Nat.pow_mod, h, ← Nat.pow_mod, Nat.one_pow]
theorem pow_one_gcd (r b : Nat) : ∀ m n : Nat, b ^ m % r = 1 % r → b ^ n % r = 1 % r → b ^ (Nat.gcd m n) % r = 1 % r := by
  intro m n
  induction m, n using Nat.gcd.induction with
  | H0 n => intro _ h; rw [Nat.gcd_zero_left]; exact h
  | H1 m n hm ih =>
    intro h1 h2
    rw [Nat.gcd_rec]
    refine ih ?_ h1
    have h3 : b ^ n = b ^ (m * (n / m)) * b ^ (n % m) := by rw [← Nat.pow_add, Nat.div_add_mod]
    rw [h3, Nat.mul_mod, pow_one_mul h1, ← Nat.mul_mod, Nat.one_mul] at h2
    exact h2

theorem prime_factor : ∀ n : Nat, 1 < n → ∃ r, Pr r ∧ r ∣ n := by
  intro n
  induction n using Nat.strongRecOn with
  | _ n ih =>
    intro hn
    by_cases hp : Pr n
    · exact ⟨n, hp, Nat.dvd_refl _⟩
    · have : ∃ d, d ∣ n ∧ d ≠ 1 ∧ d ≠ n := by
        apply Classical.byContradiction
        intro h
        refine hp ⟨hn, fun d hd => ?_⟩
        by_cases h1 : d = 1
        · exact .inl h1
        · by_cases h2 : d = n
          · exact .inr h2
          · exact absurd ⟨d, hd, h1, h2⟩ h
      obtain ⟨d, hd, h1, h2⟩ := this
      have hle := Nat.le_of_dvd (by omega) hd
      have hd0 : d ≠ 0 := by rintro rfl; have := Nat.eq_zero_of_zero_dvd hd; omega
      obtain ⟨r, hr, hrd⟩ := ih d (by omega) (by omega)
      exact ⟨r, hr, Nat.dvd_trans hrd hd⟩
theorem small_factor {n : Nat} (hn : 1 < n) (h : ¬ Pr n) : ∃ r, Pr r ∧ r ∣ n ∧ r * r ≤ n := by
  have : ∃ d, d ∣ n ∧ d ≠ 1 ∧ d ≠ n := by
    apply Classical.byContradiction
    intro h'
    refine h ⟨hn, fun d hd => ?_⟩
    by_cases h1 : d = 1
    · exact .inl h1
    · by_cases h2 : d = n
      · exact .inr h2
      · exact absurd ⟨d, hd, h1, h2⟩ h'
  obtain ⟨d, ⟨e, rfl⟩, h1, h2⟩ := this
  have hd0 : d ≠ 0 := by rintro rfl; omega
  have he0 : e ≠ 0 := by rintro rfl; omega
  have he1 : e ≠ 1 := by rintro rfl; omega
  rcases Nat.le_total d e with hle | hle
  · obtain ⟨r, hr, hrd⟩ := prime_factor d (by omega)
    have := Nat.le_of_dvd (by omega) hrd
    exact ⟨r, hr, Nat.dvd_trans hrd (Nat.dvd_mul_right d e), Nat.le_trans (Nat.mul_le_mul this this) (Nat.mul_le_mul_left d hle)⟩
  · obtain ⟨r, hr, hrd⟩ := prime_factor e (by omega)
    have := Nat.le_of_dvd (by omega) hrd
    exact ⟨r, hr, Nat.dvd_trans hrd (Nat.dvd_mul_left e d), Nat.le_trans (Nat.mul_le_mul this this) (Nat.mul_le_mul_right e hle)⟩

/-- A prime that divides n - 1, with what Pocklington asks of it, divides r - 1 for every prime divisor r of n. -/
theorem pock_step {n q a r : Nat} (hq : Pr q) (hqn : q ∣ n - 1) (ha : a ^ (n - 1) % n = 1) (hg : Nat.gcd (a ^ ((n - 1) / q) % n + n - 1) n = 1) (hn : 1 < n) (hr : Pr r) (hrn : r ∣ n) : q ∣ r - 1 := by
  apply Classical.byContradiction
  intro hno
  have hr1 := hr.1
  obtain ⟨k, hk⟩ := hqn
  have hq0 : 0 < q := by have := hq.1; omega
  have hkq : (n - 1) / q = k := by rw [hk, Nat.mul_div_cancel_left _ hq0]
  rw [hkq] at hg
  have e1 : (a ^ k) ^ q % r = 1 % r := by
    rw [← Nat.pow_mul, Nat.mul_comm k q, ← hk, ← Nat.mod_mod_of_dvd _ hrn, ha]
  have hbr : (a ^ k) % r ≠ 0 := by
    intro h0
    rw [Nat.pow_mod, h0, Nat.zero_pow hq0, Nat.zero_mod, Nat.mod_eq_of_lt hr1] at e1
    omega
  have e2 : (a ^ k) ^ (r - 1) % r = 1 % r := by rw [fermat hr hbr, Nat.mod_eq_of_lt hr1]
  have e3 := pow_one_gcd r (a ^ k) _ _ e1 e2
  rw [hq.coprime hno, Nat.pow_one, Nat.mod_eq_of_lt hr1] at e3
  have e4 : a ^ k % n % r = 1 := by rw [Nat.mod_mod_of_dvd _ hrn]; exact e3
  have h1 : r ∣ (a ^ k % n + n - 1) := by
    obtain ⟨c, hc⟩ := hrn
    have hpos : 0 < a ^ k % n := by
      rcases Nat.eq_zero_or_pos (a ^ k % n) with h | h
      · rw [h] at e4; simp at e4
      · exact h
    have h5 := Nat.div_add_mod (a ^ k % n) r
    rw [e4] at h5
    refine ⟨a ^ k % n / r + c, ?_⟩
    rw [Nat.mul_add, ← hc]
    omega
  have h2 := Nat.dvd_gcd h1 hrn
  rw [hg] at h2
  have := Nat.le_of_dvd (by omega) h2
  omega
/-- Pocklington, with one prime divisor. -/
theorem pock1 {n q a : Nat} (hq : Pr q) (hqn : q ∣ n - 1) (ha : a ^ (n - 1) % n = 1) (hg : Nat.gcd (a ^ ((n - 1) / q) % n + n - 1) n = 1) (hn : 1 < n) (hb : n < q * q) : Pr n := by
  apply Classical.byContradiction
  intro h
  obtain ⟨r, hr, hrn, hrr⟩ := small_factor hn h
  have h1 := pock_step hq hqn ha hg hn hr hrn
  have h2 := Nat.le_of_dvd (by have := hr.1; omega) h1
  have h3 : q ≤ r := by omega
  have := Nat.mul_le_mul h3 h3
  omega
/-- Pocklington, with two prime divisors. -/
theorem pock2 {n q q' a : Nat} (hq : Pr q) (hq' : Pr q') (hne : ¬ q ∣ q') (hqn : q ∣ n - 1) (hqn' : q' ∣ n - 1) (ha : a ^ (n - 1) % n = 1) (hg : Nat.gcd (a ^ ((n - 1) / q) % n + n - 1) n = 1) (hg' : Nat.gcd (a ^ ((n - 1) / q') % n + n - 1) n = 1) (hn : 1 < n) (hb : n < (q * q') * (q * q')) : Pr n := by
  apply Classical.byContradiction
  intro h
  obtain ⟨r, hr, hrn, hrr⟩ := small_factor hn h
  have h1 := pock_step hq hqn ha hg hn hr hrn
  have h1' := pock_step hq' hqn' ha hg' hn hr hrn
  have h0 := (hq.coprime hne).mul_dvd_of_dvd_of_dvd h1 h1'
  have h2 := Nat.le_of_dvd (by have := hr.1; omega) h0
  have h3 : q * q' ≤ r := by omega
  have := Nat.mul_le_mul h3 h3
  omega

/-- Powers modulo m, by squares. -/
def pm : Nat → Nat → Nat → Nat → Nat
  | 0, _, _, _ => 1
  | k + 1, a, e, m => if e % 2 = 1 then pm k (a * a % m) (e / 2) m * a % m else pm k (a * a % m) (e / 2) m
theorem pm_eq (m : Nat) : ∀ (k a e : Nat), e < 2 ^ k → pm k a e m % m = a ^ e % m
  | 0, a, e, h => by
    have : e = 0 := by simpa using h
    subst this; simp [pm]
  | k + 1, a, e, h => by
    have ih := pm_eq m k (a * a % m) (e / 2) (by rw [Nat.pow_succ] at h; omega)
    have h2 : a ^ e = (a * a) ^ (e / 2) * a ^ (e % 2) := by
      rw [← Nat.pow_two, ← Nat.pow_mul, ← Nat.pow_add, Nat.div_add_mod]
    have h3 : pm k (a * a % m) (e / 2) m % m = (a * a) ^ (e / 2) % m := by rw [ih, ← Nat.pow_mod]
    unfold pm
    rcases Nat.mod_two_eq_zero_or_one e with h0 | h0
    · rw [if_neg (by omega), h3, h2, h0, Nat.pow_zero, Nat.mul_one]
    · rw [if_pos h0, Nat.mod_mod, Nat.mul_mod, h3, ← Nat.mul_mod, h2, h0, Nat.pow_one]

theorem pockp1 {n q : Nat} (a k : Nat) (hq : Pr q) (hqn : (n - 1) % q = 0) (hk : n - 1 < 2 ^ k) (ha : pm k a (n - 1) n % n = 1) (hg : Nat.gcd (pm k a ((n - 1) / q) n % n + n - 1) n = 1) (hn : 1 < n) (hb : n < q * q) : Pr n := by
  refine pock1 (a := a) hq (Nat.dvd_of_mod_eq_zero hqn) ?_ ?_ hn hb
  · rw [← pm_eq n k a _ hk, ha]
  · rw [← pm_eq n k a _ (Nat.lt_of_le_of_lt (Nat.div_le_self _ _) hk), hg]
theorem pockp2 {n q q' : Nat} (a k : Nat) (hq : Pr q) (hq' : Pr q') (hne : q' % q ≠ 0) (hqn : (n - 1) % q = 0) (hqn' : (n - 1) % q' = 0) (hk : n - 1 < 2 ^ k) (ha : pm k a (n - 1) n % n = 1) (hg : Nat.gcd (pm k a ((n - 1) / q) n % n + n - 1) n = 1) (hg' : Nat.gcd (pm k a ((n - 1) / q') n % n + n - 1) n = 1) (hn : 1 < n) (hb : n < (q * q') * (q * q')) : Pr n := by
  refine pock2 (a := a) hq hq' (fun h => hne (Nat.mod_eq_zero_of_dvd h)) (Nat.dvd_of_mod_eq_zero hqn) (Nat.dvd_of_mod_eq_zero hqn') ?_ ?_ ?_ hn hb
  · rw [← pm_eq n k a _ hk, ha]
  · rw [← pm_eq n k a _ (Nat.lt_of_le_of_lt (Nat.div_le_self _ _) hk), hg]
  · rw [← pm_eq n k a _ (Nat.lt_of_le_of_lt (Nat.div_le_self _ _) hk), hg']

/-- No divisor from d on, d + 2 and so on, f of them. -/
def noDiv (n : Nat) : Nat → Nat → Bool
  | 0, _ => true
  | f + 1, d => if n % d = 0 then false else noDiv n f (d + 2)
theorem noDiv_spec (n : Nat) : ∀ (f d : Nat), noDiv n f d = true → ∀ i, i < f → n % (d + 2 * i) ≠ 0
  | f + 1, d, h, i, hi => by
    unfold noDiv at h
    split at h
    · cases h
    · rename_i hd
      rcases i with _ | i
      · simpa using hd
      · have := noDiv_spec n f (d + 2) h i (by omega)
        rwa [show d + 2 + 2 * i = d + 2 * (i + 1) by omega] at this
theorem small_prime {n f : Nat} (hn : 1 < n) (h2 : n % 2 = 1) (h : noDiv n f 3 = true) (hb : n < (2 * f + 3) * (2 * f + 3)) : Pr n := by
  apply Classical.byContradiction
  intro hno
  obtain ⟨r, hr, hrn, hrr⟩ := small_factor hn hno
  have h1 := hr.1
  have hlt : r < 2 * f + 3 := by
    apply Classical.byContradiction
    intro hge
    have := Nat.mul_le_mul (show 2 * f + 3 ≤ r by omega) (show 2 * f + 3 ≤ r by omega)
    omega
  have hodd : r % 2 = 1 := by
    rcases Nat.mod_two_eq_zero_or_one r with h0 | h0
    · have := Nat.dvd_trans (Nat.dvd_of_mod_eq_zero h0) hrn
      have := Nat.mod_eq_zero_of_dvd this
      omega
    · exact h0
  have := noDiv_spec n f 3 h ((r - 3) / 2) (by omega)
  rw [show 3 + 2 * ((r - 3) / 2) = r by omega] at this
  exact this (Nat.mod_eq_zero_of_dvd hrn)

end Go.Proofs.YtkbiiolkekpkiaaDoor

/-
  2^255 - 19 is a prime, by Pocklington's test over smaller primes. No program is spoken of here. Conditions: none.
-/
namespace Go.Proofs.YtkbiiolkekpkiaaDoor
set_option linter.unusedVariables false

theorem prime_a : Pr 8574133 := small_prime (f := 1463) (by decide +kernel) (by decide +kernel) (by decide +kernel) (by decide +kernel)
theorem prime_b : Pr 127 := small_prime (f := 5) (by decide +kernel) (by decide +kernel) (by decide +kernel) (by decide +kernel)
theorem prime_c : Pr 75707 := small_prime (f := 137) (by decide +kernel) (by decide +kernel) (by decide +kernel) (by decide +kernel)
theorem prime_d : Pr 1923133 := small_prime (f := 692) (by decide +kernel) (by decide +kernel) (by decide +kernel) (by decide +kernel)
theorem prime_e : Pr 1919519569386763 := pockp2 2 51 prime_a prime_b (by decide +kernel) (by decide +kernel) (by decide +kernel) (by decide +kernel) (by decide +kernel) (by decide +kernel) (by decide +kernel) (by decide +kernel) (by decide +kernel)
theorem prime_f : Pr 75445702479781427272750846543864801 := pockp2 2 116 prime_e prime_c (by decide +kernel) (by decide +kernel) (by decide +kernel) (by decide +kernel) (by decide +kernel) (by decide +kernel) (by decide +kernel) (by decide +kernel) (by decide +kernel)
theorem prime_g : Pr 74058212732561358302231226437062788676166966415465897661863160754340907 := pockp2 2 236 prime_f prime_d (by decide +kernel) (by decide +kernel) (by decide +kernel) (by decide +kernel) (by decide +kernel) (by decide +kernel) (by decide +kernel) (by decide +kernel) (by decide +kernel)
/-- 2^255 - 19. -/
def P25 : Nat := 57896044618658097711785492504343953926634992332820282019728792003956564819949
theorem P25_pow : P25 = 2 ^ 255 - 19 := by decide +kernel
theorem prime_P : Pr 57896044618658097711785492504343953926634992332820282019728792003956564819949 := pockp1 2 255 prime_g (by decide +kernel) (by decide +kernel) (by decide +kernel) (by decide +kernel) (by decide +kernel) (by decide +kernel)
theorem P25_prime : Pr P25 := prime_P
/-- What squares to -1. -/
def I25 : Nat := 19681161376707505956807079304988542015446066515923890162744021073123829784752
theorem I25_pow : 2 ^ ((P25 - 1) / 4) % P25 = I25 := (pm_eq P25 255 2 _ (by decide +kernel)).symm.trans (by decide +kernel)
theorem I25_sq : I25 * I25 % P25 = P25 - 1 := by decide +kernel
end Go.Proofs.YtkbiiolkekpkiaaDoor
