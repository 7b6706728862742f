/-
  Words of 64 bits and what SHA-512 makes of them, as plain functions of numbers; the two spellings of a choice and of a majority are one. Conditions: none beyond those written.
-/
import Derived.Test.YtkkhpjcfojgggaaDoorGX
import Derived.Laws.BitsAllLaws
import Derived.Test.YtkkhpjcfojgggaaDoorExt
namespace Go.Proofs.YtkkhpjcfojgggaaDoor.Br
open Go.RowKit
set_option linter.unusedVariables false

/-- x turned down by n places. -/
def rotr (x n : Nat) : Nat := x / 2 ^ n ||| x * 2 ^ (64 - n) % 18446744073709551616
theorem or64 {a b : Nat} (ha : a < 18446744073709551616) (hb : b < 18446744073709551616) : a ||| b < 18446744073709551616 := Nat.or_lt_two_pow (n := 64) ha hb
theorem xor64 {a b : Nat} (ha : a < 18446744073709551616) (hb : b < 18446744073709551616) : a ^^^ b < 18446744073709551616 := Nat.xor_lt_two_pow (n := 64) ha hb
theorem and64 {a b : Nat} (hb : b < 18446744073709551616) : a &&& b < 18446744073709551616 := Nat.and_lt_two_pow (n := 64) a hb
theorem div64 {a : Nat} (ha : a < 18446744073709551616) (k : Nat) : a / k < 18446744073709551616 := Nat.lt_of_le_of_lt (Nat.div_le_self _ _) ha
theorem rotr_lt {x : Nat} (n : Nat) (hx : x < 18446744073709551616) : rotr x n < 18446744073709551616 := or64 (div64 hx _) (Nat.mod_lt _ (by omega))
def sg0 (x : Nat) : Nat := rotr x 1 ^^^ rotr x 8 ^^^ x / 128
def sg1 (x : Nat) : Nat := rotr x 19 ^^^ rotr x 61 ^^^ x / 64
def bs0 (x : Nat) : Nat := rotr x 28 ^^^ rotr x 34 ^^^ rotr x 39
def bs1 (x : Nat) : Nat := rotr x 14 ^^^ rotr x 18 ^^^ rotr x 41
def cho (e f g : Nat) : Nat := (e &&& f) ||| ((18446744073709551615 - e) &&& g)
def maj (a b c : Nat) : Nat := (a &&& b) ||| (a &&& c) ||| (b &&& c)
theorem sg0_lt {x : Nat} (h : x < 18446744073709551616) : sg0 x < 18446744073709551616 := xor64 (xor64 (rotr_lt _ h) (rotr_lt _ h)) (div64 h _)
theorem sg1_lt {x : Nat} (h : x < 18446744073709551616) : sg1 x < 18446744073709551616 := xor64 (xor64 (rotr_lt _ h) (rotr_lt _ h)) (div64 h _)
theorem bs0_lt {x : Nat} (h : x < 18446744073709551616) : bs0 x < 18446744073709551616 := xor64 (xor64 (rotr_lt _ h) (rotr_lt _ h)) (rotr_lt _ h)
theorem bs1_lt {x : Nat} (h : x < 18446744073709551616) : bs1 x < 18446744073709551616 := xor64 (xor64 (rotr_lt _ h) (rotr_lt _ h)) (rotr_lt _ h)
theorem cho_lt {e f g : Nat} (hf : f < 18446744073709551616) (hg : g < 18446744073709551616) : cho e f g < 18446744073709551616 := or64 (and64 hf) (and64 hg)
theorem maj_lt {a b c : Nat} (hb : b < 18446744073709551616) (hc : c < 18446744073709551616) : maj a b c < 18446744073709551616 := or64 (or64 (and64 hb) (and64 hc)) (and64 hc)
theorem cho_xor (e f g : Nat) (he : e < 18446744073709551616) : (e &&& f) ^^^ ((18446744073709551615 - e) &&& g) = cho e f g := by
  apply Nat.eq_of_testBit_eq
  intro i
  have h : (18446744073709551615 - e).testBit i = (decide (i < 64) && !e.testBit i) := by
    have := Nat.testBit_two_pow_sub_succ (x := e) (n := 64) he i
    rwa [show 2 ^ 64 - (e + 1) = 18446744073709551615 - e by omega] at this
  unfold cho
  simp only [Nat.testBit_xor, Nat.testBit_or, Nat.testBit_and, h]
  cases e.testBit i <;> simp
theorem maj_xor (a b c : Nat) : (a &&& b) ^^^ (a &&& c) ^^^ (b &&& c) = maj a b c := by
  apply Nat.eq_of_testBit_eq
  intro i
  unfold maj
  simp only [Nat.testBit_xor, Nat.testBit_or, Nat.testBit_and]
  cases a.testBit i <;> cases b.testBit i <;> cases c.testBit i <;> rfl

/-- The words so far. -/
structure S8 where
  (a b c d e f g h : Nat)
def S8.ok (s : S8) : Prop := s.a < 18446744073709551616 ∧ s.b < 18446744073709551616 ∧ s.c < 18446744073709551616 ∧ s.d < 18446744073709551616 ∧ s.e < 18446744073709551616 ∧ s.f < 18446744073709551616 ∧ s.g < 18446744073709551616 ∧ s.h < 18446744073709551616
def S8.one (s : S8) (k w : Nat) : Nat := (s.h + bs1 s.e + cho s.e s.f s.g + k + w) % 18446744073709551616
def S8.two (s : S8) : Nat := (bs0 s.a + maj s.a s.b s.c) % 18446744073709551616
def S8.step (s : S8) (k w : Nat) : S8 := ⟨(s.one k w + s.two) % 18446744073709551616, s.a, s.b, s.c, (s.d + s.one k w) % 18446744073709551616, s.e, s.f, s.g⟩
def S8.plus (s v : S8) : S8 := ⟨(s.a + v.a) % 18446744073709551616, (s.b + v.b) % 18446744073709551616, (s.c + v.c) % 18446744073709551616, (s.d + v.d) % 18446744073709551616, (s.e + v.e) % 18446744073709551616, (s.f + v.f) % 18446744073709551616, (s.g + v.g) % 18446744073709551616, (s.h + v.h) % 18446744073709551616⟩
def S8.list (s : S8) : List Nat := [s.a, s.b, s.c, s.d, s.e, s.f, s.g, s.h]
theorem S8.ok_step {s : S8} (h : s.ok) (k w : Nat) : (s.step k w).ok := by
  obtain ⟨h1, h2, h3, h4, h5, h6, h7, h8⟩ := h
  exact ⟨Nat.mod_lt _ (by omega), h1, h2, h3, Nat.mod_lt _ (by omega), h5, h6, h7⟩
theorem S8.ok_plus (s v : S8) : (s.plus v).ok :=
  ⟨Nat.mod_lt _ (by omega), Nat.mod_lt _ (by omega), Nat.mod_lt _ (by omega), Nat.mod_lt _ (by omega), Nat.mod_lt _ (by omega), Nat.mod_lt _ (by omega), Nat.mod_lt _ (by omega), Nat.mod_lt _ (by omega)⟩

/-- The constants. -/
def kk : List Nat := [0x428a2f98d728ae22, 0x7137449123ef65cd, 0xb5c0fbcfec4d3b2f, 0xe9b5dba58189dbbc, 0x3956c25bf348b538, 0x59f111f1b605d019, 0x923f82a4af194f9b, 0xab1c5ed5da6d8118, 0xd807aa98a3030242, 0x12835b0145706fbe, 0x243185be4ee4b28c, 0x550c7dc3d5ffb4e2, 0x72be5d74f27b896f, 0x80deb1fe3b1696b1, 0x9bdc06a725c71235, 0xc19bf174cf692694, 0xe49b69c19ef14ad2, 0xefbe4786384f25e3, 0x0fc19dc68b8cd5b5, 0x240ca1cc77ac9c65, 0x2de92c6f592b0275, 0x4a7484aa6ea6e483, 0x5cb0a9dcbd41fbd4, 0x76f988da831153b5, 0x983e5152ee66dfab, 0xa831c66d2db43210, 0xb00327c898fb213f, 0xbf597fc7beef0ee4, 0xc6e00bf33da88fc2, 0xd5a79147930aa725, 0x06ca6351e003826f, 0x142929670a0e6e70, 0x27b70a8546d22ffc, 0x2e1b21385c26c926, 0x4d2c6dfc5ac42aed, 0x53380d139d95b3df, 0x650a73548baf63de, 0x766a0abb3c77b2a8, 0x81c2c92e47edaee6, 0x92722c851482353b, 0xa2bfe8a14cf10364, 0xa81a664bbc423001, 0xc24b8b70d0f89791, 0xc76c51a30654be30, 0xd192e819d6ef5218, 0xd69906245565a910, 0xf40e35855771202a, 0x106aa07032bbd1b8, 0x19a4c116b8d2d0c8, 0x1e376c085141ab53, 0x2748774cdf8eeb99, 0x34b0bcb5e19b48a8, 0x391c0cb3c5c95a63, 0x4ed8aa4ae3418acb, 0x5b9cca4f7763e373, 0x682e6ff3d6b2b8a3, 0x748f82ee5defb2fc, 0x78a5636f43172f60, 0x84c87814a1f0ab72, 0x8cc702081a6439ec, 0x90befffa23631e28, 0xa4506cebde82bde9, 0xbef9a3f7b2c67915, 0xc67178f2e372532b, 0xca273eceea26619c, 0xd186b8c721c0c207, 0xeada7dd6cde0eb1e, 0xf57d4f7fee6ed178, 0x06f067aa72176fba, 0x0a637dc5a2c898a6, 0x113f9804bef90dae, 0x1b710b35131c471b, 0x28db77f523047d84, 0x32caab7b40c72493, 0x3c9ebe0a15c9bebc, 0x431d67c49c100d4c, 0x4cc5d4becb3e42b6, 0x597f299cfc657e2a, 0x5fcb6fab3ad6faec, 0x6c44198c4a475817]
/-- The words at first. -/
def h0 : S8 := ⟨0x6a09e667f3bcc908, 0xbb67ae8584caa73b, 0x3c6ef372fe94f82b, 0xa54ff53a5f1d36f1, 0x510e527fade682d1, 0x9b05688c2b3e6c1f, 0x1f83d9abfb41bd6b, 0x5be0cd19137e2179⟩
theorem h0_ok : h0.ok := by unfold S8.ok h0; decide
theorem kk_length : kk.length = 80 := rfl
theorem kk_all : (List.range 80).all (fun t => decide (kk.getD t 0 < 18446744073709551616)) = true := by decide
theorem kk_lt (t : Nat) : kk.getD t 0 < 18446744073709551616 := by
  by_cases h : t < 80
  · have := List.all_eq_true.1 kk_all t (by simp [h])
    simpa using this
  · rw [List.getD_eq_getElem?_getD, List.getElem?_eq_none (by rw [kk_length]; omega)]; decide

/-- The number of the first j bytes of the i-th eight. -/
def px (l : List Nat) (i : Nat) : Nat → Nat
  | 0 => 0
  | j + 1 => px l i j * 256 + l.getD (8 * i + j) 0
theorem px_lt (l : List Nat) (hb : ∀ j, l.getD j 0 < 256) (i : Nat) : ∀ j, px l i j < 256 ^ j
  | 0 => by simp [px]
  | j + 1 => by
    have := px_lt l hb i j
    have := hb (8 * i + j)
    simp only [px, Nat.pow_succ]
    omega
/-- A word of eight bytes, the highest first. -/
def w8 (b : List Nat) (t : Nat) : Nat := px b t 8
theorem px_eight (l : List Nat) (i : Nat) : px l i 8 = w8 l i := rfl
theorem px_drop (l : List Nat) (t : Nat) : ∀ j, px (l.drop (8 * t)) 0 j = px l t j
  | 0 => rfl
  | j + 1 => by
    simp only [px, px_drop l t j]
    simp [List.getD_eq_getElem?_getD, List.getElem?_drop]
theorem w8_drop (l : List Nat) (t : Nat) : w8 (l.drop (8 * t)) 0 = w8 l t := px_drop l t 8
/-- The t-th word of a block of bytes. -/
def ws (b : List Nat) : Nat → List Nat
  | 0 => []
  | t + 1 => ws b t ++ [if t < 16 then w8 b t else ((ws b t).getD (t - 16) 0 + sg0 ((ws b t).getD (t - 15) 0) + (ws b t).getD (t - 7) 0 + sg1 ((ws b t).getD (t - 2) 0)) % 18446744073709551616]
theorem ws_length (b : List Nat) : ∀ t, (ws b t).length = t
  | 0 => rfl
  | t + 1 => by simp [ws, ws_length b t]
/-- The words behind t steps. -/
def rnd (b : List Nat) (s : S8) : Nat → S8
  | 0 => s
  | t + 1 => (rnd b s t).step (kk.getD t 0) ((ws b 80).getD t 0)
/-- The words behind a block. -/
def tk (s : S8) (b : List Nat) : S8 := s.plus (rnd b s 80)
theorem rnd_ok (b : List Nat) (s : S8) (h : s.ok) : ∀ t, (rnd b s t).ok
  | 0 => h
  | t + 1 => S8.ok_step (rnd_ok b s h t) _ _
theorem tk_ok (s : S8) (b : List Nat) : (tk s b).ok := S8.ok_plus _ _

theorem ws_get (b : List Nat) : ∀ t j, j < t → (ws b t).getD j 0 = (ws b (j + 1)).getD j 0
  | 0, j, h => by omega
  | t + 1, j, h => by
    by_cases e : j = t
    · subst e; rfl
    · rw [show ws b (t + 1) = ws b t ++ [_] from rfl, getD_snoc', ws_length, if_pos (by omega), ws_get b t j (by omega)]
theorem ws_last (b : List Nat) (t : Nat) : (ws b (t + 1)).getD t 0 = if t < 16 then w8 b t else ((ws b t).getD (t - 16) 0 + sg0 ((ws b t).getD (t - 15) 0) + (ws b t).getD (t - 7) 0 + sg1 ((ws b t).getD (t - 2) 0)) % 18446744073709551616 := by
  rw [show ws b (t + 1) = ws b t ++ [_] from rfl, getD_snoc', ws_length, if_neg (by omega), if_pos rfl]
theorem ws_at (b : List Nat) (t j : Nat) (h : j < t) (h' : t ≤ 80) : (ws b t).getD j 0 = (ws b 80).getD j 0 := by
  rw [ws_get b t j h, ws_get b 80 j (by omega)]
theorem w8_lt (b : List Nat) (hb : ∀ j, b.getD j 0 < 256) (t : Nat) : w8 b t < 18446744073709551616 := px_lt b hb t 8
theorem ws_lt (b : List Nat) (hb : ∀ j, b.getD j 0 < 256) (t j : Nat) : (ws b t).getD j 0 < 18446744073709551616 := by
  by_cases h : j < t
  · rw [ws_get b t j h, ws_last]
    split
    · exact w8_lt b hb j
    · exact Nat.mod_lt _ (by omega)
  · rw [List.getD_eq_getElem?_getD, List.getElem?_eq_none (by rw [ws_length]; omega)]; decide

/-! ### The machine's words -/
theorem wrap64_nat (a b : Nat) : IntKind.u64.wrap ((a : Int) + (b : Int)) = (((a + b) % 18446744073709551616 : Nat) : Int) := by
  simp [IntKind.wrap, IntKind.bits, IntKind.signed]
theorem rot_and (n : Nat) (h1 : 1 ≤ n) (h2 : n ≤ 63) : bits .and .u64 (IntKind.u64.wrap (-(n : Int))) 63 = ((64 - n : Nat) : Int) := by
  have e : IntKind.u64.wrap (-(n : Int)) = ((18446744073709551616 - n : Nat) : Int) := by
    simp [IntKind.wrap, IntKind.bits, IntKind.signed]; omega
  rw [e]
  have := bits_and_u64_nat (18446744073709551616 - n) 63 (by omega) (by omega)
  rw [show ((63 : Nat) : Int) = 63 from rfl] at this
  rw [this, show (63 : Nat) = 2 ^ 6 - 1 by decide, Nat.and_two_pow_sub_one_eq_mod]
  omega
end Go.Proofs.YtkkhpjcfojgggaaDoor.Br

/-
  The contracts of the broad's turned and of the document's own turn: a word turned down. Conditions: as each theorem says.
-/
namespace Go.Proofs.YtkkhpjcfojgggaaDoor.Br
open Go.RowKit
set_option linter.unusedVariables false
set_option linter.unusedSimpArgs false

theorem wrap_shl (x s : Nat) : IntKind.u64.wrap ((x : Int) * 2 ^ s) = ((x * 2 ^ s % 18446744073709551616 : Nat) : Int) := by
  have e : (x : Int) * 2 ^ s = ((x * 2 ^ s : Nat) : Int) := by simp
  rw [e]
  simp only [IntKind.wrap, IntKind.bits, IntKind.signed]
  simp
theorem rot_or1 (x s : Nat) (hx : x < 18446744073709551616) : bits .or .u64 (IntKind.u64.wrap ((x : Int) * 2 ^ s)) ((x : Int) / 2 ^ (64 - s)) = ((x / 2 ^ (64 - s) ||| x * 2 ^ s % 18446744073709551616 : Nat) : Int) := by
  have := u64_or_nat (x * 2 ^ s % 18446744073709551616) (x / 2 ^ (64 - s)) (Nat.mod_lt _ (by omega)) (div64 hx _)
  rw [Nat.or_comm, wrap_shl]
  simpa using this
theorem rot_or2 (x n : Nat) (hx : x < 18446744073709551616) : bits .or .u64 ((x : Int) / 2 ^ n) (IntKind.u64.wrap ((x : Int) * 2 ^ (64 - n))) = ((x / 2 ^ n ||| x * 2 ^ (64 - n) % 18446744073709551616 : Nat) : Int) := by
  have := u64_or_nat (x / 2 ^ n) (x * 2 ^ (64 - n) % 18446744073709551616) (div64 hx _) (Nat.mod_lt _ (by omega))
  rw [wrap_shl]
  simpa using this
theorem rot_any (x n : Nat) (hx : x < 18446744073709551616) (h1 : 1 ≤ n) (h2 : n ≤ 63) (w : World) : Calls Tryd.prog 46 #[.int .u64 (x : Int), .int .i64 (-(n : Int))] w fun e w' => e = .returned (.int .u64 (rotr x n : Int)) ∧ w' = w := by
  have e1 := rot_and n h1 h2
  obtain ⟨s, hs⟩ : ∃ s : Nat, 64 - n = s := ⟨_, rfl⟩
  rw [hs] at e1
  have hs1 : (s : Int) ≤ 63 := by omega
  have hs2 : (1 : Int) ≤ s := by omega
  go_enter Tryd.func46, Tryd.ntmps46
  go_wp2
  go_ret
  exact ⟨ret_int (by rw [rot_or1 x s hx, rotr, show 64 - s = n by omega, hs]), rfl⟩
theorem turned_any (x n : Nat) (hx : x < 18446744073709551616) (h1 : 1 ≤ n) (h2 : n ≤ 63) (w : World) : Calls Tryd.prog 42 #[.int .u64 (x : Int), .int .i64 (n : Int)] w fun e w' => e = .returned (.int .u64 (rotr x n : Int)) ∧ w' = w := by
  have k := rot_any x n hx h1 h2
  have K : Hid (∀ w, Calls Tryd.prog 46 #[.int .u64 (x : Int), .int .i64 (-(n : Int))] w fun e w' => e = .returned (.int .u64 (rotr x n : Int)) ∧ w' = w) := k
  clear k
  have h1' : (1 : Int) ≤ n := by omega
  have h2' : (n : Int) ≤ 63 := by omega
  go_enter Tryd.func42, Tryd.ntmps42
  go_wp2_with fail
  refine (K.out _).mono ?_
  rintro e w1 ⟨rfl, hw1⟩
  rw [hw1]
  clear hw1 w1
  go_wp2_with fail
  go_ret
  exact ⟨rfl, rfl⟩
theorem turn_any (x n : Nat) (hx : x < 18446744073709551616) (h1 : 1 ≤ n) (h2 : n ≤ 63) (w : World) : Calls Tryd.prog 37 #[.int .u64 (x : Int), .int .i64 (n : Int)] w fun e w' => e = .returned (.int .u64 (rotr x n : Int)) ∧ ∃ m, w' = w.drewN m := by
  have h1' : (1 : Int) ≤ n := by omega
  have h2' : (n : Int) ≤ 63 := by omega
  go_enter Tryd.func37, Tryd.ntmps37
  go_wp2
  go_region
  go_wp2
  go_ret
  exact ⟨ret_int (by rw [rot_or2 x n hx, rotr]), 1, rfl⟩
end Go.Proofs.YtkkhpjcfojgggaaDoor.Br
