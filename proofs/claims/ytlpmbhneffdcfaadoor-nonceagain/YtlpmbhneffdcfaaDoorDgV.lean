/-
  Words of 32 bits and what SHA-256 makes of them, as plain functions of numbers; the two spellings of a choice and of a majority are one. Conditions: none beyond those written.
-/
import Derived.Test.YtlpmbhneffdcfaaDoorGX
import Derived.Laws.BitsAllLaws
import Derived.Test.YtlpmbhneffdcfaaDoorExt
namespace Go.Proofs.YtlpmbhneffdcfaaDoor
open Go.RowKit
set_option linter.unusedVariables false

/-- x turned down by n places. -/
def rotr (x n : Nat) : Nat := x / 2 ^ n ||| x * 2 ^ (32 - n) % 4294967296
theorem or32 {a b : Nat} (ha : a < 4294967296) (hb : b < 4294967296) : a ||| b < 4294967296 := Nat.or_lt_two_pow (n := 32) ha hb
theorem xor32 {a b : Nat} (ha : a < 4294967296) (hb : b < 4294967296) : a ^^^ b < 4294967296 := Nat.xor_lt_two_pow (n := 32) ha hb
theorem and32 {a b : Nat} (hb : b < 4294967296) : a &&& b < 4294967296 := Nat.and_lt_two_pow (n := 32) a hb
theorem div32 {a : Nat} (ha : a < 4294967296) (k : Nat) : a / k < 4294967296 := Nat.lt_of_le_of_lt (Nat.div_le_self _ _) ha
theorem rotr_lt {x : Nat} (n : Nat) (hx : x < 4294967296) : rotr x n < 4294967296 := or32 (div32 hx _) (Nat.mod_lt _ (by omega))
def sg0 (x : Nat) : Nat := rotr x 7 ^^^ rotr x 18 ^^^ x / 8
def sg1 (x : Nat) : Nat := rotr x 17 ^^^ rotr x 19 ^^^ x / 1024
def bs0 (x : Nat) : Nat := rotr x 2 ^^^ rotr x 13 ^^^ rotr x 22
def bs1 (x : Nat) : Nat := rotr x 6 ^^^ rotr x 11 ^^^ rotr x 25
def cho (e f g : Nat) : Nat := (e &&& f) ||| ((4294967295 - e) &&& g)
def maj (a b c : Nat) : Nat := (a &&& b) ||| (a &&& c) ||| (b &&& c)
theorem sg0_lt {x : Nat} (h : x < 4294967296) : sg0 x < 4294967296 := xor32 (xor32 (rotr_lt _ h) (rotr_lt _ h)) (div32 h _)
theorem sg1_lt {x : Nat} (h : x < 4294967296) : sg1 x < 4294967296 := xor32 (xor32 (rotr_lt _ h) (rotr_lt _ h)) (div32 h _)
theorem bs0_lt {x : Nat} (h : x < 4294967296) : bs0 x < 4294967296 := xor32 (xor32 (rotr_lt _ h) (rotr_lt _ h)) (rotr_lt _ h)
theorem bs1_lt {x : Nat} (h : x < 4294967296) : bs1 x < 4294967296 := xor32 (xor32 (rotr_lt _ h) (rotr_lt _ h)) (rotr_lt _ h)
theorem cho_lt {e f g : Nat} (hf : f < 4294967296) (hg : g < 4294967296) : cho e f g < 4294967296 := or32 (and32 hf) (and32 hg)
theorem maj_lt {a b c : Nat} (hb : b < 4294967296) (hc : c < 4294967296) : maj a b c < 4294967296 := or32 (or32 (and32 hb) (and32 hc)) (and32 hc)
theorem cho_xor (e f g : Nat) (he : e < 4294967296) : (e &&& f) ^^^ ((4294967295 - e) &&& g) = cho e f g := by
  apply Nat.eq_of_testBit_eq
  intro i
  have h : (4294967295 - e).testBit i = (decide (i < 32) && !e.testBit i) := by
    have := Nat.testBit_two_pow_sub_succ (x := e) (n := 32) he i
    rwa [show 2 ^ 32 - (e + 1) = 4294967295 - e by omega] at this
  unfold cho
  simp only [Nat.testBit_xor, Nat.testBit_or, Nat.testBit_and, h]
  cases e.testBit i <;> simp
theorem maj_xor (a b c : Nat) : (a &&& b) ^^^ (a &&& c) ^^^ (b &&& c) = maj a b c := by
  apply Nat.eq_of_testBit_eq
  intro i
  unfold maj
  simp only [Nat.testBit_xor, Nat.testBit_or, Nat.testBit_and]
  cases a.testBit i <;> cases b.testBit i <;> cases c.testBit i <;> rfl

/-- The words so far. -/
structure S8 where
  (a b c d e f g h : Nat)
def S8.ok (s : S8) : Prop := s.a < 4294967296 ∧ s.b < 4294967296 ∧ s.c < 4294967296 ∧ s.d < 4294967296 ∧ s.e < 4294967296 ∧ s.f < 4294967296 ∧ s.g < 4294967296 ∧ s.h < 4294967296
def S8.one (s : S8) (k w : Nat) : Nat := (s.h + bs1 s.e + cho s.e s.f s.g + k + w) % 4294967296
def S8.two (s : S8) : Nat := (bs0 s.a + maj s.a s.b s.c) % 4294967296
def S8.step (s : S8) (k w : Nat) : S8 := ⟨(s.one k w + s.two) % 4294967296, s.a, s.b, s.c, (s.d + s.one k w) % 4294967296, s.e, s.f, s.g⟩
def S8.plus (s v : S8) : S8 := ⟨(s.a + v.a) % 4294967296, (s.b + v.b) % 4294967296, (s.c + v.c) % 4294967296, (s.d + v.d) % 4294967296, (s.e + v.e) % 4294967296, (s.f + v.f) % 4294967296, (s.g + v.g) % 4294967296, (s.h + v.h) % 4294967296⟩
def S8.list (s : S8) : List Nat := [s.a, s.b, s.c, s.d, s.e, s.f, s.g, s.h]
theorem S8.ok_step {s : S8} (h : s.ok) (k w : Nat) : (s.step k w).ok := by
  obtain ⟨h1, h2, h3, h4, h5, h6, h7, h8⟩ := h
  exact ⟨Nat.mod_lt _ (by omega), h1, h2, h3, Nat.mod_lt _ (by omega), h5, h6, h7⟩
theorem S8.ok_plus (s v : S8) : (s.plus v).ok :=
  ⟨Nat.mod_lt _ (by omega), Nat.mod_lt _ (by omega), Nat.mod_lt _ (by omega), Nat.mod_lt _ (by omega), Nat.mod_lt _ (by omega), Nat.mod_lt _ (by omega), Nat.mod_lt _ (by omega), Nat.mod_lt _ (by omega)⟩

/-- The constants. -/
def kk : List Nat := [0x428a2f98, 0x71374491, 0xb5c0fbcf, 0xe9b5dba5, 0x3956c25b, 0x59f111f1, 0x923f82a4, 0xab1c5ed5,
  0xd807aa98, 0x12835b01, 0x243185be, 0x550c7dc3, 0x72be5d74, 0x80deb1fe, 0x9bdc06a7, 0xc19bf174,
  0xe49b69c1, 0xefbe4786, 0x0fc19dc6, 0x240ca1cc, 0x2de92c6f, 0x4a7484aa, 0x5cb0a9dc, 0x76f988da,
  0x983e5152, 0xa831c66d, 0xb00327c8, 0xbf597fc7, 0xc6e00bf3, 0xd5a79147, 0x06ca6351, 0x14292967,
  0x27b70a85, 0x2e1b2138, 0x4d2c6dfc, 0x53380d13, 0x650a7354, 0x766a0abb, 0x81c2c92e, 0x92722c85,
  0xa2bfe8a1, 0xa81a664b, 0xc24b8b70, 0xc76c51a3, 0xd192e819, 0xd6990624, 0xf40e3585, 0x106aa070,
  0x19a4c116, 0x1e376c08, 0x2748774c, 0x34b0bcb5, 0x391c0cb3, 0x4ed8aa4a, 0x5b9cca4f, 0x682e6ff3,
  0x748f82ee, 0x78a5636f, 0x84c87814, 0x8cc70208, 0x90befffa, 0xa4506ceb, 0xbef9a3f7, 0xc67178f2]
/-- The words at first. -/
def h0 : S8 := ⟨0x6a09e667, 0xbb67ae85, 0x3c6ef372, 0xa54ff53a, 0x510e527f, 0x9b05688c, 0x1f83d9ab, 0x5be0cd19⟩
theorem h0_ok : h0.ok := by unfold S8.ok h0; decide
theorem kk_length : kk.length = 64 := rfl
theorem kk_all : (List.range 64).all (fun t => decide (kk.getD t 0 < 4294967296)) = true := by decide
theorem kk_lt (t : Nat) : kk.getD t 0 < 4294967296 := by
  by_cases h : t < 64
  · have := List.all_eq_true.1 kk_all t (by simp [h])
    simpa using this
  · rw [List.getD_eq_getElem?_getD, List.getElem?_eq_none (by rw [kk_length]; omega)]; decide

/-- A word of four bytes, the highest first. -/
def w4 (b : List Nat) (t : Nat) : Nat := b.getD (4 * t) 0 * 16777216 + b.getD (4 * t + 1) 0 * 65536 + b.getD (4 * t + 2) 0 * 256 + b.getD (4 * t + 3) 0
/-- The t-th word of a block of bytes. -/
def ws (b : List Nat) : Nat → List Nat
  | 0 => []
  | t + 1 => ws b t ++ [if t < 16 then w4 b t else ((ws b t).getD (t - 16) 0 + sg0 ((ws b t).getD (t - 15) 0) + (ws b t).getD (t - 7) 0 + sg1 ((ws b t).getD (t - 2) 0)) % 4294967296]
theorem ws_length (b : List Nat) : ∀ t, (ws b t).length = t
  | 0 => rfl
  | t + 1 => by simp [ws, ws_length b t]
/-- The words behind t steps. -/
def rnd (b : List Nat) (s : S8) : Nat → S8
  | 0 => s
  | t + 1 => (rnd b s t).step (kk.getD t 0) ((ws b 64).getD t 0)
/-- The words behind a block. -/
def tk (s : S8) (b : List Nat) : S8 := s.plus (rnd b s 64)
theorem rnd_ok (b : List Nat) (s : S8) (h : s.ok) : ∀ t, (rnd b s t).ok
  | 0 => h
  | t + 1 => S8.ok_step (rnd_ok b s h t) _ _
theorem tk_ok (s : S8) (b : List Nat) : (tk s b).ok := S8.ok_plus _ _

theorem ws_get (b : List Nat) : ∀ t j, j < t → (ws b t).getD j 0 = (ws b (j + 1)).getD j 0
  | 0, j, h => by omega
  | t + 1, j, h => by
    by_cases e : j = t
    · subst e; rfl
    · rw [show ws b (t + 1) = ws b t ++ [_] from rfl, getD_snoc', ws_length, if_pos (by omega), ws_get b t j (by omega)]
theorem ws_last (b : List Nat) (t : Nat) : (ws b (t + 1)).getD t 0 = if t < 16 then w4 b t else ((ws b t).getD (t - 16) 0 + sg0 ((ws b t).getD (t - 15) 0) + (ws b t).getD (t - 7) 0 + sg1 ((ws b t).getD (t - 2) 0)) % 4294967296 := by
  rw [show ws b (t + 1) = ws b t ++ [_] from rfl, getD_snoc', ws_length, if_neg (by omega), if_pos rfl]
theorem ws_at (b : List Nat) (t j : Nat) (h : j < t) (h' : t ≤ 64) : (ws b t).getD j 0 = (ws b 64).getD j 0 := by
  rw [ws_get b t j h, ws_get b 64 j (by omega)]
theorem w4_lt (b : List Nat) (hb : ∀ j, b.getD j 0 < 256) (t : Nat) : w4 b t < 4294967296 := by
  have h0 := hb (4 * t); have h1 := hb (4 * t + 1); have h2 := hb (4 * t + 2); have h3 := hb (4 * t + 3)
  unfold w4; omega
theorem ws_lt (b : List Nat) (hb : ∀ j, b.getD j 0 < 256) (t j : Nat) : (ws b t).getD j 0 < 4294967296 := by
  by_cases h : j < t
  · rw [ws_get b t j h, ws_last]
    split
    · exact w4_lt b hb j
    · exact Nat.mod_lt _ (by omega)
  · rw [List.getD_eq_getElem?_getD, List.getElem?_eq_none (by rw [ws_length]; omega)]; decide

/-! ### The machine's words -/
theorem wrap32_nat (a b : Nat) : IntKind.u32.wrap ((a : Int) + (b : Int)) = (((a + b) % 4294967296 : Nat) : Int) := by
  simp [IntKind.wrap, IntKind.bits, IntKind.signed]
theorem rot_and (n : Nat) (h1 : 1 ≤ n) (h2 : n ≤ 31) : bits .and .u64 (IntKind.u64.wrap (-(n : Int))) 31 = ((32 - n : Nat) : Int) := by
  have e : IntKind.u64.wrap (-(n : Int)) = ((18446744073709551616 - n : Nat) : Int) := by
    simp [IntKind.wrap, IntKind.bits, IntKind.signed]; omega
  rw [e]
  have := bits_and_u64_nat (18446744073709551616 - n) 31 (by omega) (by omega)
  rw [show ((31 : Nat) : Int) = 31 from rfl] at this
  rw [this, show (31 : Nat) = 2 ^ 5 - 1 by decide, Nat.and_two_pow_sub_one_eq_mod]
  omega
end Go.Proofs.YtlpmbhneffdcfaaDoor

/-
  The contracts of the digest's turned and of the document's own turn: a word turned down. Conditions: as each theorem says.
-/
namespace Go.Proofs.YtlpmbhneffdcfaaDoor
open Go.RowKit
set_option linter.unusedVariables false
set_option linter.unusedSimpArgs false

theorem rot_or1 (x s : Nat) (hx : x < 4294967296) : bits .or .u32 ((x : Int) * 2 ^ s % 4294967296) ((x : Int) / 2 ^ (32 - s)) = ((x / 2 ^ (32 - s) ||| x * 2 ^ s % 4294967296 : Nat) : Int) := by
  have := u32_or_nat (x * 2 ^ s % 4294967296) (x / 2 ^ (32 - s)) (Nat.mod_lt _ (by omega)) (div32 hx _)
  rw [Nat.or_comm]
  simpa using this
theorem rot_or2 (x n : Nat) (hx : x < 4294967296) : bits .or .u32 ((x : Int) / 2 ^ n) ((x : Int) * 2 ^ (32 - n) % 4294967296) = ((x / 2 ^ n ||| x * 2 ^ (32 - n) % 4294967296 : Nat) : Int) := by
  have := u32_or_nat (x / 2 ^ n) (x * 2 ^ (32 - n) % 4294967296) (div32 hx _) (Nat.mod_lt _ (by omega))
  simpa using this
theorem rot_any (x n : Nat) (hx : x < 4294967296) (h1 : 1 ≤ n) (h2 : n ≤ 31) (w : World) : Calls Tryd.prog 76 #[.int .u32 (x : Int), .int .i64 (-(n : Int))] w fun e w' => e = .returned (.int .u32 (rotr x n : Int)) ∧ w' = w := by
  have e1 := rot_and n h1 h2
  obtain ⟨s, hs⟩ : ∃ s : Nat, 32 - n = s := ⟨_, rfl⟩
  rw [hs] at e1
  have hs1 : (s : Int) ≤ 31 := by omega
  have hs2 : (1 : Int) ≤ s := by omega
  go_enter Tryd.func76, Tryd.ntmps76
  go_wp2
  go_ret
  exact ⟨ret_int (by rw [rot_or1 x s hx, rotr, show 32 - s = n by omega, hs]), rfl⟩
theorem turns_any (x n : Nat) (hx : x < 4294967296) (h1 : 1 ≤ n) (h2 : n ≤ 31) (w : World) : Calls Tryd.prog 70 #[.int .u32 (x : Int), .int .i64 (n : Int)] w fun e w' => e = .returned (.int .u32 (rotr x n : Int)) ∧ w' = w := by
  have k := rot_any x n hx h1 h2
  have K : Hid (∀ w, Calls Tryd.prog 76 #[.int .u32 (x : Int), .int .i64 (-(n : Int))] w fun e w' => e = .returned (.int .u32 (rotr x n : Int)) ∧ w' = w) := k
  clear k
  have h1' : (1 : Int) ≤ n := by omega
  have h2' : (n : Int) ≤ 31 := by omega
  go_enter Tryd.func70, Tryd.ntmps70
  go_wp2_with fail
  refine (K.out _).mono ?_
  rintro e w1 ⟨rfl, hw1⟩
  rw [hw1]
  clear hw1 w1
  go_wp2_with fail
  go_ret
  exact ⟨rfl, rfl⟩
theorem turn_any (x n : Nat) (hx : x < 4294967296) (h1 : 1 ≤ n) (h2 : n ≤ 31) (w : World) : Calls Tryd.prog 75 #[.int .u32 (x : Int), .int .i64 (n : Int)] w fun e w' => e = .returned (.int .u32 (rotr x n : Int)) ∧ ∃ m, w' = w.drewN m := by
  have h1' : (1 : Int) ≤ n := by omega
  have h2' : (n : Int) ≤ 31 := by omega
  go_enter Tryd.func75, Tryd.ntmps75
  go_wp2
  go_region
  go_wp2
  go_ret
  exact ⟨ret_int (by rw [rot_or2 x n hx, rotr]), 1, rfl⟩
end Go.Proofs.YtlpmbhneffdcfaaDoor
