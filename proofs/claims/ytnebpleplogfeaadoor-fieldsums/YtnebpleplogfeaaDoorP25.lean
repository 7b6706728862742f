/-
  2^255 - 19 is a prime, by Pocklington's test over smaller primes. No program is spoken of here. Conditions: none.
-/
import Derived.Test.YtnebpleplogfeaaDoorNT
namespace Go.Proofs.YtnebpleplogfeaaDoor
set_option linter.unusedVariables false

theorem prime_a : Pr 8574133 := small_prime (f := 1463) (by decide +kernel) (by decide +kernel) (by decide +kernel) (by decide +kernel)
theorem prime_b : Pr 127 := small_prime (f := 5) (by decide +kernel) (by decide +kernel) (by decide +kernel) (by decide +kernel)
theorem prime_c : Pr 75707 := small_prime (f := 137) (by decide +kernel) (by decide +kernel) (by decide +kernel) (by decide +kernel)
theorem prime_d : Pr 1923133 := small_prime (f := 692) (by decide +kernel) (by decide +kernel) (by decide +kernel) (by decide +kernel)
theorem prime_e : Pr 1919519569386763 := pockp2 2 51 prime_a prime_b (by decide +kernel) (by decide +kernel) (by decide +kernel) (by decide +kernel) (by decide +kernel) (by decide +kernel) (by decide +kernel) (by decide +kernel) (by decide +kernel)
theorem prime_f : Pr 75445702479781427272750846543864801 := pockp2 2 116 prime_e prime_c (by decide +kernel) (by decide +kernel) (by decide +kernel) (by decide +kernel) (by decide +kernel) (by decide +kernel) (by decide +kernel) (by decide +kernel) (by decide +kernel)
theorem prime_g : Pr 74058212732561358302231226437062788676166966415465897661863160754340907 := pockp2 2 236 prime_f prime_d (by decide +kernel) (by decide +kernel) (by decide +kernel) (by decide +kernel) (by decide +kernel) (by decide +kernel) (by decide +kernel) (by decide +kernel) (by decide +kernel)
/-- 2^255 - 19. -/
def P25 : Nat := 57896044618658097711785492504343953926634992332820282019728792003956564819949
theorem P25_pow : P25 = 2 ^ 255 - 19 := by decide +kernel
theorem prime_P : Pr 57896044618658097711785492504343953926634992332820282019728792003956564819949 := pockp1 2 255 prime_g (by decide +kernel) (by decide +kernel) (by decide +kernel) (by decide +kernel) (by decide +kernel) (by decide +kernel)
theorem P25_prime : Pr P25 := prime_P
/-- What squares to -1. -/
def I25 : Nat := 19681161376707505956807079304988542015446066515923890162744021073123829784752
theorem I25_pow : 2 ^ ((P25 - 1) / 4) % P25 = I25 := (pm_eq P25 255 2 _ (by decide +kernel)).symm.trans (by decide +kernel)
theorem I25_sq : I25 * I25 % P25 = P25 - 1 := by decide +kernel
end Go.Proofs.YtnebpleplogfeaaDoor
