/-
  The contract of the field's load: of 32 bytes, the lowest first, it returns the limbs of their number, and changes no memory that was there. Conditions: as each theorem says.
-/
import Derived.Test.YtkbiiolkekpkiaaDoorFF
import Derived.Test.YtkbiiolkekpkiaaDoorRefH
import Derived.Test.YtkbiiolkekpkiaaDoorFG
import Derived.Test.YtkbiiolkekpkiaaDoorFH
namespace Go.Proofs.YtkbiiolkekpkiaaDoor
open Go.RowKit
set_option linter.unusedVariables false
set_option linter.unusedSimpArgs false

/-- Block g holds four words, f 0 to f 3, and may be written. -/
structure Wd4 (W : World) (g : Nat) (f : Nat → Int) : Prop where
  lt : g < W.heap.size
  c : ∀ k, k < 4 → W.cell? ⟨g, k, none⟩ = some (.int .u64 (f k))
  fr : ∀ j, W.frozen? ⟨g, j, none⟩ = false
theorem Wd4.drew {W : World} {g : Nat} {f : Nat → Int} (h : Wd4 W g f) : Wd4 W.drew g f := ⟨h.lt, h.c, h.fr⟩
theorem Wd4.below {W W' : World} {g : Nat} {f : Nat → Int} (h : Wd4 W g f) (hb : Below W.heap.size W W') : Wd4 W' g f :=
  ⟨Nat.lt_of_lt_of_le h.lt hb.size, fun k hk => (hb.cell (p := ⟨g, k, none⟩) h.lt).trans (h.c k hk), fun j => (hb.frozen (p := ⟨g, j, none⟩) h.lt).trans (h.fr j)⟩
theorem Wd4.set {W : World} {g : Nat} {f : Nat → Int} (h : Wd4 W g f) (q : Nat) (x : Int) (hq : q < 4) : Wd4 (W.setCell ⟨g, q, none⟩ (.int .u64 x)) g (fun k => if k = q then x else f k) := by
  refine ⟨by simpa using h.lt, fun k hk => ?_, fun j => by simpa using h.fr j⟩
  by_cases e : k = q
  · subst e
    rw [if_pos rfl, World.cell?_setCell_same _ _ _ (h.c k hk)]
  · rw [if_neg e, World.cell?_setCell_other _ _ _ _ (fun p => e (by simpa using (congrArg Addr.off p).symm)), h.c k hk]
theorem Wd4.cong {W : World} {g : Nat} {f f' : Nat → Int} (h : Wd4 W g f) (e : ∀ k, k < 4 → f k = f' k) : Wd4 W g f' := ⟨h.lt, fun k hk => by rw [h.c k hk, e k hk], h.fr⟩
theorem Wd4.new (W : World) (g : Nat) (v0 v1 v2 v3 : Int) (f : Nat → Int) (t : TypeId) (hg : g = W.heap.size) (h0 : f 0 = v0) (h1 : f 1 = v1) (h2 : f 2 = v2) (h3 : f 3 = v3) : Wd4 (W.alloc (.cells #[.int .u64 v0, .int .u64 v1, .int .u64 v2, .int .u64 v3] t)) g f := by
  subst hg
  refine ⟨by simp, fun k hk => ?_, fun j => by simp [go_sem]⟩
  match k, hk with
  | 0, _ => rw [h0]; simp
  | 1, _ => rw [h1]; simp
  | 2, _ => rw [h2]; simp
  | 3, _ => rw [h3]; simp
/-- The words of bytes, after i of them. -/
def wsAt (bs : Nat → Int) (i k : Nat) : Int := ((vb (fun j => bs (8 * k + j)) (min 8 (i - 8 * k)) : Nat) : Int)
theorem wsAt_next (bs : Nat → Int) (hb : ∀ j, 0 ≤ bs j ∧ bs j ≤ 255) (i q r : Nat) (hi : i = 8 * q + r) (hr : r < 8) : bits .or .u64 (wsAt bs i q) (IntKind.u64.wrap (bs i * 2 ^ (8 * (r : Int)).toNat)) = wsAt bs (i + 1) q := by
  have h := or_byte (fun j => bs (8 * q + j)) (fun j => hb _) r hr
  unfold wsAt
  rw [show min 8 (i - 8 * q) = r by omega, show min 8 (i + 1 - 8 * q) = r + 1 by omega, hi]
  exact h
theorem wsAt_other (bs : Nat → Int) (i q r k : Nat) (hi : i = 8 * q + r) (hr : r < 8) (hk : k ≠ q) : wsAt bs i k = wsAt bs (i + 1) k := by
  unfold wsAt
  rw [show min 8 (i - 8 * k) = min 8 (i + 1 - 8 * k) by omega]
theorem or_words (a b s : Nat) (hs : s ≤ 64) (ha : a < 2 ^ 64) (hb : b < 2 ^ 64) : bits .or .u64 ((a / 2 ^ (64 - s) : Nat) : Int) (IntKind.u64.wrap ((b * 2 ^ s : Nat) : Int)) = ((a / 2 ^ (64 - s) + b * 2 ^ s % 2 ^ 64 : Nat) : Int) := by
  have h1 : a / 2 ^ (64 - s) < 2 ^ s := by
    rw [Nat.div_lt_iff_lt_mul (Nat.two_pow_pos _), ← Nat.pow_add, show s + (64 - s) = 64 by omega]
    exact ha
  have h2 : b * 2 ^ s % 2 ^ 64 = 2 ^ s * (b % 2 ^ (64 - s)) := by
    rw [Nat.mul_comm b, show (2 : Nat) ^ 64 = 2 ^ s * 2 ^ (64 - s) by rw [← Nat.pow_add, show s + (64 - s) = 64 by omega], Nat.mul_mod_mul_left]
  have h3 : IntKind.u64.wrap ((b * 2 ^ s : Nat) : Int) = ((b * 2 ^ s % 2 ^ 64 : Nat) : Int) := by
    rw [IntKind.wrap_u64]; omega
  have h4 : b * 2 ^ s % 2 ^ 64 < 2 ^ 64 := Nat.mod_lt _ (by decide)
  have h5 : a / 2 ^ (64 - s) < 2 ^ 64 := Nat.lt_of_le_of_lt (Nat.div_le_self _ _) ha
  rw [h3, bits_or_u64_nat _ _ (by omega) (by omega), h2, Nat.or_comm, ← Nat.two_pow_add_eq_or_of_lt h1, Nat.add_comm]
/-- The limbs of a number below 2^256. -/
def ld (n : Nat) : L5 := ⟨((n % 2 ^ 51 : Nat) : Int), ((n / 2 ^ 51 % 2 ^ 51 : Nat) : Int), ((n / 2 ^ 102 % 2 ^ 51 : Nat) : Int), ((n / 2 ^ 153 % 2 ^ 51 : Nat) : Int), ((n / 2 ^ 204 : Nat) : Int)⟩
theorem ld_num (n : Nat) : (ld n).num = (n : Int) := by unfold ld L5.num val5; dsimp only; omega
theorem ld_tame (n : Nat) (h : n < 2 ^ 256) : (ld n).Tm := by unfold ld L5.Tm Tame; dsimp only; omega
theorem words32 (bs : Nat → Int) (hb : ∀ j, 0 ≤ bs j ∧ bs j ≤ 255) : ∃ a0 a1 a2 a3 : Nat, a0 < 2 ^ 64 ∧ a1 < 2 ^ 64 ∧ a2 < 2 ^ 64 ∧ a3 < 2 ^ 64 ∧ wsAt bs 32 0 = a0 ∧ wsAt bs 32 1 = a1 ∧ wsAt bs 32 2 = a2 ∧ wsAt bs 32 3 = a3 ∧ vb bs 32 = a0 + 2 ^ 64 * a1 + 2 ^ 128 * a2 + 2 ^ 192 * a3 := by
  have l := fun q => vb_lt (fun j => bs (8 * q + j)) (fun j => hb _) 8
  have p8 : (256 : Nat) ^ 8 = 2 ^ 64 := by decide
  rw [p8] at l
  refine ⟨vb (fun j => bs (8 * 0 + j)) 8, vb (fun j => bs (8 * 1 + j)) 8, vb (fun j => bs (8 * 2 + j)) 8, vb (fun j => bs (8 * 3 + j)) 8, l 0, l 1, l 2, l 3, rfl, rfl, rfl, rfl, ?_⟩
  have s3 := vb_add bs 24 8
  have s2 := vb_add bs 16 8
  have s1 := vb_add bs 8 8
  simp only [Nat.reduceAdd] at s1 s2 s3
  have e0 : vb bs 8 = vb (fun j => bs (8 * 0 + j)) 8 := by congr 1; funext j; rw [Nat.mul_zero, Nat.zero_add]
  rw [s3, s2, s1, e0, show (256 : Nat) ^ 8 = 2 ^ 64 by decide, show (256 : Nat) ^ 16 = 2 ^ 128 by decide, show (256 : Nat) ^ 24 = 2 ^ 192 by decide]
theorem vb32_lt (bs : Nat → Int) (hb : ∀ j, 0 ≤ bs j ∧ bs j ≤ 255) : vb bs 32 < 2 ^ 256 := by
  have := vb_lt bs hb 32
  rwa [show (256 : Nat) ^ 32 = 2 ^ 256 by decide] at this
/-- The limbs out of the words. -/
theorem ld_words (n a0 a1 a2 a3 : Nat) (h0 : a0 < 2 ^ 64) (h1 : a1 < 2 ^ 64) (h2 : a2 < 2 ^ 64) (h3 : a3 < 2 ^ 64) (h : n = a0 + 2 ^ 64 * a1 + 2 ^ 128 * a2 + 2 ^ 192 * a3) : ∃ p1 p2 p3 l0 l1 l2 l3 l4 : Int, ld n = ⟨l0, l1, l2, l3, l4⟩ ∧
    bits .and .u64 (a0 : Int) 2251799813685247 = l0 ∧ bits .or .u64 ((a0 : Int) / 2251799813685248) (IntKind.u64.wrap ((a1 : Int) * 8192)) = p1 ∧ bits .and .u64 p1 2251799813685247 = l1 ∧ bits .or .u64 ((a1 : Int) / 274877906944) (IntKind.u64.wrap ((a2 : Int) * 67108864)) = p2 ∧ bits .and .u64 p2 2251799813685247 = l2 ∧ bits .or .u64 ((a2 : Int) / 33554432) (IntKind.u64.wrap ((a3 : Int) * 549755813888)) = p3 ∧ bits .and .u64 p3 2251799813685247 = l3 ∧ (a3 : Int) / 4096 = l4 := by
  have e1 := or_words a0 a1 13 (by decide) h0 h1
  have e2 := or_words a1 a2 26 (by decide) h1 h2
  have e3 := or_words a2 a3 39 (by decide) h2 h3
  simp only [Nat.reduceSub, Nat.reducePow, Int.natCast_mul, Int.natCast_ediv, Int.cast_ofNat_Int] at e1 e2 e3 h0 h1 h2 h3 h
  refine ⟨_, _, _, _, _, _, _, _, rfl, ?_, e1, ?_, e2, ?_, e3, ?_, ?_⟩
  · rw [mask51 _ (by omega)]; congr 1; omega
  · rw [mask51 _ (by omega)]; congr 1; omega
  · rw [mask51 _ (by omega)]; congr 1; omega
  · rw [mask51 _ (by omega)]; congr 1; omega
  · omega

set_option maxRecDepth 100000 in
set_option maxHeartbeats 8000000 in
theorem load_any (bs : Nat → Int) (hbs : ∀ j, 0 ≤ bs j ∧ bs j ≤ 255) (blk off cap : Nat) (w : World) (hblk : blk < w.heap.size) (hc : ∀ j, j < 32 → w.cell? ⟨blk, off + j, none⟩ = some (.int .u8 (bs j))) :
    Calls Tryd.prog 65 #[.slice (some ⟨blk, off, none⟩) 32 cap] w fun e w' => e = .returned (.agg #[.int .u64 ((ld (vb bs 32)).l0), .int .u64 ((ld (vb bs 32)).l1), .int .u64 ((ld (vb bs 32)).l2), .int .u64 ((ld (vb bs 32)).l3), .int .u64 ((ld (vb bs 32)).l4)]) ∧ Below w.heap.size w w' := by
  obtain ⟨a0, a1, a2, a3, h0, h1, h2, h3, e0, e1, e2, e3, hN⟩ := words32 bs hbs
  obtain ⟨p1, p2, p3, l0, l1, l2, l3, l4, hL, f0, f1, f2, f3, f4, f5, f6, f7⟩ := ld_words _ a0 a1 a2 a3 h0 h1 h2 h3 hN
  rw [hL]
  dsimp only
  have HB : Hid (∀ j, 0 ≤ bs j ∧ bs j ≤ 255) := hbs
  have HC : Hid (∀ j, j < 32 → w.cell? ⟨blk, off + j, none⟩ = some (.int .u8 (bs j))) := hc
  have E : Hid (wsAt bs 32 0 = a0 ∧ wsAt bs 32 1 = a1 ∧ wsAt bs 32 2 = a2 ∧ wsAt bs 32 3 = a3) := ⟨e0, e1, e2, e3⟩
  clear hbs hc e0 e1 e2 e3 hN hL h0 h1 h2 h3
  go_enter Tryd.func65, Tryd.ntmps65
  go_wp2_with fail
  go_loopw [8] (fun y wr => ∃ i : Nat, i ≤ 32 ∧ y = .int .i64 (i : Int) ∧ Hid (Wd4 wr (w.heap.size + 1) (wsAt bs i)) ∧ Hid (Bl5 wr w.heap.size 0 0 0 0 0) ∧ Hid (Below w.heap.size w wr)) (fun y _ => 32 - (intOf y).toNat)
  case atStart =>
    refine ⟨0, by omega, rfl, ?_, ?_, ?_⟩
    · exact Wd4.new _ _ _ _ _ _ _ _ (by simp) rfl rfl rfl rfl
    · exact (Bl5.new w _ _ _ _ _ _ _ rfl).alloc _
    · exact ((Below.refl _ _).alloc (Nat.le_refl _) _).alloc (by simp) _
  case round =>
    obtain ⟨i, hi, rfl, hW, hR, hG⟩ := hrel
    obtain ⟨w0, hw0⟩ : ∃ w0, wr = w0 := ⟨_, rfl⟩
    subst hw0
    by_cases hlt : i < 32
    · obtain ⟨q, hq⟩ : ∃ q : Nat, (i : Int) / 8 = (q : Int) := ⟨i / 8, by omega⟩
      obtain ⟨r, hr⟩ : ∃ r : Nat, (i : Int) % 8 = (r : Int) := ⟨i % 8, by omega⟩
      have hq4 : (q : Int) < 4 := by omega
      have hq0 : (0 : Int) ≤ (q : Int) := by omega
      have hr8 : (r : Int) < 8 := by omega
      have hqr : i = 8 * q + r := by omega
      have c1 := hW.out.c q (by omega)
      have c2 := hW.out.fr
      have c3 := hW.out.lt
      have c4 : wr.cell? ⟨blk, off + i, none⟩ = some (.int .u8 (bs i)) := (hG.out.cell (p := ⟨blk, off + i, none⟩) hblk).trans (HC.out i hlt)
      have B : Hid (bits .or .u64 (wsAt bs i q) (IntKind.u64.wrap (bs i * 2 ^ (8 * (r : Int)).toNat)) = wsAt bs (i + 1) q) := wsAt_next bs HB.out i q r hqr (by omega)
      have O : Hid (∀ k, k < 4 → (if k = q then wsAt bs (i + 1) q else wsAt bs i k) = wsAt bs (i + 1) k) := by
        intro k hk
        by_cases e : k = q
        · rw [if_pos e, e]
        · rw [if_neg e, wsAt_other bs i q r k hqr (by omega) e]
      have bb := HB.out i
      obtain ⟨x, hx⟩ : ∃ x, bs i = x := ⟨_, rfl⟩
      obtain ⟨y, hy⟩ : ∃ y, wsAt bs i q = y := ⟨_, rfl⟩
      obtain ⟨z, hz⟩ : ∃ z, wsAt bs (i + 1) q = z := ⟨_, rfl⟩
      rw [hx] at c4 bb B
      rw [hy] at c1 B
      rw [hz] at B O
      have m1 : IntKind.i64.wrap (8 * (r : Int)) = 8 * (r : Int) := wrapI _ (by omega) (by omega)
      have m1' : IntKind.i64.wrap ((r : Int) * 8) = 8 * (r : Int) := by rw [Int.mul_comm]; exact m1
      have m2 : IntKind.i64.wrap (q : Int) = (q : Int) := wrapI _ (by omega) (by omega)
      have m3 : IntKind.i64.wrap (r : Int) = (r : Int) := wrapI _ (by omega) (by omega)
      have m5 : IntKind.u64.wrap x = x := wrapW _ (by omega) (by omega)
      have m6 : 0 ≤ 8 * (r : Int) := by omega
      have hlt' : (i : Int) < 32 := by omega
      have B' := B.out
      rw [show (8 * (r : Int)).toNat = 8 * r by omega] at B'
      have I : Hid (i < 32) := hlt
      clear hx hy hz hqr hlt hi
      go_wp2_with fail
      go_region
      all_goals
        go_wp2_with fail
        go_roundw
        case rel =>
          refine ⟨i + 1, by have := I.out; omega, by go_num, ?_, ?_, ?_⟩
          · exact ((hW.out.set q z (by omega)).cong O.out).drew
          · exact (hR.out.other _ _ _ (by omega)).drew
          · exact (hG.out.setCell (by simp <;> omega) _).drew
        case measure => have := I.out; simp [intOf]; omega
    · obtain rfl : i = 32 := by omega
      obtain ⟨E0, E1, E2, E3⟩ := E.out
      have c0 := hW.out.c 0 (by decide)
      have c1 := hW.out.c 1 (by decide)
      have c2 := hW.out.c 2 (by decide)
      have c3 := hW.out.c 3 (by decide)
      rw [E0] at c0
      rw [E1] at c1
      rw [E2] at c2
      rw [E3] at c3
      clear E0 E1 E2 E3
      obtain ⟨rl, r0, r1, r2, r3, r4, rf⟩ := hR.out
      go_wp2_with fail
      refine body_cut (fun W => Bl5 W w.heap.size l0 l1 l2 l3 l4 ∧ Below w.heap.size w W) ⟨hR.out.set l0 l1 l2 l3 l4, ?_⟩ ?_
      · iterate 5 (refine Below.setCell ?_ (by simp <;> omega) _)
        exact hG.out
      · clear rl r0 r1 r2 r3 r4 rf
        rintro W ⟨⟨rl, r0, r1, r2, r3, r4, rf⟩, hb⟩
        exact bodyPost_ret (v := .agg #[.int .u64 l0, .int .u64 l1, .int .u64 l2, .int .u64 l3, .int .u64 l4]) (by simp [results, Tryd.results65, go_sem, r0, r1, r2, r3, r4]) rfl ⟨rfl, hb⟩

end Go.Proofs.YtkbiiolkekpkiaaDoor

/-
  The contracts of the field's Of and Bytes: bytes as an element, or none; an element's 32 bytes; they change no memory that was there. Conditions: as each theorem says.
-/
namespace Go.Proofs.YtkbiiolkekpkiaaDoor
open Go.RowKit
set_option linter.unusedVariables false
set_option linter.unusedSimpArgs false

theorem or_hi (lo b s : Nat) (hs : s ≤ 64) (hl : lo < 2 ^ s) : bits .or .u64 (lo : Int) (IntKind.u64.wrap ((b * 2 ^ s : Nat) : Int)) = ((lo + b * 2 ^ s % 2 ^ 64 : Nat) : Int) := by
  have h2 : b * 2 ^ s % 2 ^ 64 = 2 ^ s * (b % 2 ^ (64 - s)) := by
    rw [Nat.mul_comm b, show (2 : Nat) ^ 64 = 2 ^ s * 2 ^ (64 - s) by rw [← Nat.pow_add, show s + (64 - s) = 64 by omega], Nat.mul_mod_mul_left]
  have h3 : IntKind.u64.wrap ((b * 2 ^ s : Nat) : Int) = ((b * 2 ^ s % 2 ^ 64 : Nat) : Int) := by
    rw [IntKind.wrap_u64]; omega
  have h4 : b * 2 ^ s % 2 ^ 64 < 2 ^ 64 := Nat.mod_lt _ (by decide)
  have h5 : lo < 2 ^ 64 := Nat.lt_of_lt_of_le hl (Nat.pow_le_pow_right (by omega) hs)
  rw [h3, bits_or_u64_nat _ _ (by omega) (by omega), h2, Nat.or_comm, ← Nat.two_pow_add_eq_or_of_lt hl, Nat.add_comm]
/-- The words out of the limbs. -/
theorem words_ld (z : L5) (hz : z.Low) (n : Nat) (hn : z.num = (n : Int)) : bits .or .u64 z.l0 (IntKind.u64.wrap (z.l1 * 2251799813685248)) = ((n % 2 ^ 64 : Nat) : Int) ∧ bits .or .u64 (z.l1 / 8192) (IntKind.u64.wrap (z.l2 * 274877906944)) = ((n / 2 ^ 64 % 2 ^ 64 : Nat) : Int) ∧
    bits .or .u64 (z.l2 / 67108864) (IntKind.u64.wrap (z.l3 * 33554432)) = ((n / 2 ^ 128 % 2 ^ 64 : Nat) : Int) ∧ bits .or .u64 (z.l3 / 549755813888) (IntKind.u64.wrap (z.l4 * 4096)) = ((n / 2 ^ 192 % 2 ^ 64 : Nat) : Int) := by
  obtain ⟨z0, z1, z2, z3, z4⟩ := z
  unfold L5.Low at hz
  unfold L5.num val5 at hn
  dsimp only at hz hn ⊢
  obtain ⟨n0, rfl⟩ := Int.eq_ofNat_of_zero_le hz.1.1
  obtain ⟨n1, rfl⟩ := Int.eq_ofNat_of_zero_le hz.2.1.1
  obtain ⟨n2, rfl⟩ := Int.eq_ofNat_of_zero_le hz.2.2.1.1
  obtain ⟨n3, rfl⟩ := Int.eq_ofNat_of_zero_le hz.2.2.2.1.1
  obtain ⟨n4, rfl⟩ := Int.eq_ofNat_of_zero_le hz.2.2.2.2.1
  have e0 := or_hi n0 n1 51 (by decide) (by omega)
  have e1 := or_hi (n1 / 8192) n2 38 (by decide) (by omega)
  have e2 := or_hi (n2 / 67108864) n3 25 (by decide) (by omega)
  have e3 := or_hi (n3 / 549755813888) n4 12 (by decide) (by omega)
  simp only [Nat.reducePow, Int.natCast_mul, Int.natCast_ediv, Int.cast_ofNat_Int] at e0 e1 e2 e3
  refine ⟨e0.trans ?_, e1.trans ?_, e2.trans ?_, e3.trans ?_⟩
  all_goals (congr 1; omega)
/-- The first t bytes of a number stand in block B. -/
structure Fil (x B t : Nat) (W : World) : Prop where
  cell : ∀ j, j < 32 → W.cell? ⟨B, j, none⟩ = some (.int .u8 (if j < t then byteAt x j else 0))
  free : ∀ o, W.frozen? ⟨B, o, none⟩ = false
  size : B < W.heap.size
theorem Fil.drew {x B t : Nat} {W : World} (h : Fil x B t W) : Fil x B t W.drew := ⟨h.cell, h.free, h.size⟩
theorem Fil.below {x B t : Nat} {W W' : World} (h : Fil x B t W) (hb : Below W.heap.size W W') : Fil x B t W' :=
  ⟨fun j hj => (hb.cell (p := ⟨B, j, none⟩) h.size).trans (h.cell j hj), fun j => (hb.frozen (p := ⟨B, j, none⟩) h.size).trans (h.free j), Nat.lt_of_lt_of_le h.size hb.size⟩
theorem Fil.step {x B t : Nat} {W : World} (h : Fil x B t W) (ht : t < 32) : Fil x B (t + 1) (W.setCell ⟨B, t, none⟩ (.int .u8 (byteAt x t))) := by
  refine ⟨fun j hj => ?_, fun o => ?_, ?_⟩
  · by_cases e : j = t
    · subst e
      rw [World.cell?_setCell_same _ _ _ (h.cell j hj), if_pos (by omega)]
    · rw [World.cell?_setCell_other _ _ _ _ (fun q => e (by simpa using (congrArg Addr.off q).symm)), h.cell j hj]
      by_cases hlt : j < t
      · rw [if_pos hlt, if_pos (by omega)]
      · rw [if_neg hlt, if_neg (by omega)]
  · rw [← h.free o]; simp
  · simpa using h.size
theorem Wd4.other {W : World} {g : Nat} {f : Nat → Int} (h : Wd4 W g f) (b i : Nat) (v : Value) (hb : b ≠ g) : Wd4 (W.setCell ⟨b, i, none⟩ v) g f :=
  ⟨by simpa using h.lt, fun k hk => by rw [World.cell?_setCell_other _ _ _ _ (fun e => hb (congrArg Addr.block e))]; exact h.c k hk, fun j => by simpa using h.fr j⟩
theorem make32' (w : World) : (Instr.makeSlice 22 (.int .i64 32) (.int .i64 32)).run Tryd.prog w = .ok (.slice (some ⟨w.heap.size, 0, none⟩) 32 32) (w.alloc (.cells (Array.replicate 32 (.int .u8 0)) 5)) := by kernel_rfl
theorem Fil.new (x : Nat) (w : World) (t : TypeId) : Fil x w.heap.size 0 (w.alloc (.cells (Array.replicate 32 (.int .u8 0)) t)) := by
  refine ⟨fun j hj => ?_, fun o => by simp [go_sem], by simp⟩
  rw [if_neg (by omega)]
  simp [go_sem, hj]
theorem Wd4.alloc {W : World} {g : Nat} {f : Nat → Int} (h : Wd4 W g f) (o : Obj) : Wd4 (W.alloc o) g f := h.below (Below.alloc (Below.refl _ _) (Nat.le_refl _) o)
/-- The words of a number. -/
def wdN (n : Nat) : Nat → Int
  | 0 => ((n % 2 ^ 64 : Nat) : Int) | 1 => ((n / 2 ^ 64 % 2 ^ 64 : Nat) : Int) | 2 => ((n / 2 ^ 128 % 2 ^ 64 : Nat) : Int) | _ => ((n / 2 ^ 192 % 2 ^ 64 : Nat) : Int)
theorem wdN_byte (n q r : Nat) (hq : q < 4) (hr : r < 8) : IntKind.u8.wrap (wdN n q / 2 ^ (8 * r)) = byteAt n (8 * q + r) := by
  have key : ∀ m k : Nat, m = n / 2 ^ (64 * k) % 2 ^ 64 → IntKind.u8.wrap ((m : Int) / 2 ^ (8 * r)) = byteAt n (8 * k + r) := by
    intro m k hm
    have e1 : (m : Int) / 2 ^ (8 * r) = ((m / 2 ^ (8 * r) : Nat) : Int) := by simp
    rw [e1, IntKind.wrap_u8]
    unfold byteAt
    have e2 : m / 2 ^ (8 * r) % 256 = n / 2 ^ (8 * (8 * k + r)) % 256 := by
      rw [hm, show 8 * (8 * k + r) = 64 * k + 8 * r by omega, Nat.pow_add, ← Nat.div_div_eq_div_mul]
      generalize n / 2 ^ (64 * k) = y
      have : (2 : Nat) ^ 64 = 2 ^ (8 * r) * 2 ^ (64 - 8 * r) := by rw [← Nat.pow_add, show 8 * r + (64 - 8 * r) = 64 by omega]
      rw [this, Nat.mod_mul_right_div_self, Nat.mod_mod_of_dvd]
      exact ⟨2 ^ (56 - 8 * r), by rw [show (256 : Nat) = 2 ^ 8 from rfl, ← Nat.pow_add, show 8 + (56 - 8 * r) = 64 - 8 * r by omega]⟩
    omega
  match q, hq with
  | 0, _ => exact key _ 0 (by simp)
  | 1, _ => exact key _ 1 (by simp)
  | 2, _ => exact key _ 2 (by simp)
  | 3, _ => exact key _ 3 (by simp)

set_option maxRecDepth 100000 in
set_option maxHeartbeats 8000000 in
theorem bytes_fe (x : L5) (hx : x.Tm) (w : World) : Calls Tryd.prog 56 #[.agg #[.int .u64 x.l0, .int .u64 x.l1, .int .u64 x.l2, .int .u64 x.l3, .int .u64 x.l4]] w fun e w' => ∃ g, e = .returned (.slice (some ⟨g, 0, none⟩) 32 32) ∧ Fil x.nn g 32 w' ∧ w.heap.size ≤ g ∧ Below w.heap.size w w' := by
  obtain ⟨z, hz, ez, kz⟩ := reduced_fe x hx
  have hv : z.num = (x.nn : Int) := by rw [ez.out, x.nn_eq]
  obtain ⟨f0, f1, f2, f3⟩ := words_ld z hz x.nn hv
  have WB : Hid (∀ q r, q < 4 → r < 8 → IntKind.u8.wrap (wdN x.nn q / 2 ^ (8 * r)) = byteAt x.nn (8 * q + r)) := fun q r hq hr => wdN_byte x.nn q r hq hr
  obtain ⟨n, hn⟩ : ∃ n, x.nn = n := ⟨_, rfl⟩
  rw [hn] at f0 f1 f2 f3 WB ⊢
  obtain ⟨a0, h0⟩ : ∃ a, wdN n 0 = a := ⟨_, rfl⟩
  obtain ⟨a1, h1⟩ : ∃ a, wdN n 1 = a := ⟨_, rfl⟩
  obtain ⟨a2, h2⟩ : ∃ a, wdN n 2 = a := ⟨_, rfl⟩
  obtain ⟨a3, h3⟩ : ∃ a, wdN n 3 = a := ⟨_, rfl⟩
  replace f0 := f0.trans h0
  replace f1 := f1.trans h1
  replace f2 := f2.trans h2
  replace f3 := f3.trans h3
  have HW : Hid (wdN n 0 = a0 ∧ wdN n 1 = a1 ∧ wdN n 2 = a2 ∧ wdN n 3 = a3) := ⟨h0, h1, h2, h3⟩
  obtain ⟨x0, x1, x2, x3, x4⟩ := x
  obtain ⟨z0, z1, z2, z3, z4⟩ := z
  dsimp only at kz f0 f1 f2 f3 ⊢
  have Qz : Hid (∀ w : World, Calls Tryd.prog 66 #[.agg #[.int .u64 x0, .int .u64 x1, .int .u64 x2, .int .u64 x3, .int .u64 x4]] w fun e w' => e = .returned (.agg #[.int .u64 z0, .int .u64 z1, .int .u64 z2, .int .u64 z3, .int .u64 z4]) ∧ Below w.heap.size w w') := kz
  clear kz hz ez hv hx hn h0 h1 h2 h3
  have hmk := make32'
  go_enter Tryd.func56, Tryd.ntmps56
  go_wp2_with fail
  refine calls_at (fun V => Bl5 V w.heap.size x0 x1 x2 x3 x4 ∧ Below w.heap.size w V) ⟨?_, ?_⟩ ?_
  · (repeat (first | refine Bl5.drew ?_ | refine Bl5.drewN ?_ _ | (refine Bl5.new _ _ _ _ _ _ _ _ ?_; simp; done) | refine Bl5.alloc ?_ _))
  · (repeat (first | exact Below.refl _ _ | refine Below.drew ?_ | refine below_drewN ?_ _ | refine Below.alloc ?_ (by simp <;> omega) _ | refine Below.setCell ?_ (by simp <;> omega) _))
  rintro v1 ⟨k0, k1⟩
  have A_1 : Hid (Bl5 v1 w.heap.size x0 x1 x2 x3 x4) := k0
  have G_1 : Hid (Below w.heap.size w v1) := k1
  clear k0 k1
  refine (Qz.out _).mono ?_
  rintro e v2 ⟨rfl, g⟩
  have A_2 := hold (A_1.out.below g)
  have G_2 := hold (G_1.out.trans (g.mono G_1.out.size))
  clear A_1 G_1 g
  obtain ⟨cal, ca0, ca1, ca2, ca3, ca4, caf⟩ := A_2.out
  go_wp2_with fail
  refine wp_cut (fun W => Wd4 W v2.heap.size (wdN n) ∧ Fil n (v2.heap.size + 1) 0 W ∧ Below w.heap.size w W) ⟨?_, ?_, ?_⟩ ?_
  · refine Wd4.alloc ?_ _
    refine Wd4.new _ _ _ _ _ _ _ _ ?_ HW.out.1 HW.out.2.1 HW.out.2.2.1 HW.out.2.2.2
    simp
  · have := Fil.new n ((((((v2.setCell ⟨w.heap.size, 0, none⟩ (.int .u64 z0)).setCell ⟨w.heap.size, 1, none⟩ (.int .u64 z1)).setCell ⟨w.heap.size, 2, none⟩ (.int .u64 z2)).setCell ⟨w.heap.size, 3, none⟩ (.int .u64 z3)).setCell ⟨w.heap.size, 4, none⟩ (.int .u64 z4)).alloc (.cells #[.int .u64 a0, .int .u64 a1, .int .u64 a2, .int .u64 a3] 96)) 5
    simpa using this
  · refine Below.alloc (Below.alloc ?_ (by simp; exact G_2.out.size) _) (by simp; have := G_2.out.size; omega) _
    iterate 5 (refine Below.setCell ?_ (by simp <;> omega) _)
    exact G_2.out
  rintro W ⟨hW, hF, hB⟩
  have KW : Hid (Wd4 W v2.heap.size (wdN n)) := hW
  have KF : Hid (Fil n (v2.heap.size + 1) 0 W) := hF
  have KB : Hid (Below w.heap.size w W) := hB
  have hsz : Hid (w.heap.size ≤ v2.heap.size) := G_2.out.size
  clear hW hF hB A_2 G_2 cal ca0 ca1 ca2 ca3 ca4 caf f0 f1 f2 f3 hmk Qz HW
  go_loopw [37] (fun y wr => ∃ i : Nat, i ≤ 32 ∧ y = .int .i64 (i : Int) ∧ Hid (Wd4 wr v2.heap.size (wdN n)) ∧ Hid (Fil n (v2.heap.size + 1) i wr) ∧ Hid (Below w.heap.size w wr)) (fun y _ => 32 - (intOf y).toNat)
  case atStart => exact ⟨0, by omega, rfl, KW, KF, KB⟩
  case round =>
    obtain ⟨i, hi, rfl, hW, hF, hG⟩ := hrel
    obtain ⟨w0, hw0⟩ : ∃ w0, wr = w0 := ⟨_, rfl⟩
    subst hw0
    clear KW KF KB
    by_cases hlt : i < 32
    · obtain ⟨q, hq⟩ : ∃ q : Nat, (i : Int) / 8 = (q : Int) := ⟨i / 8, by omega⟩
      obtain ⟨r, hr⟩ : ∃ r : Nat, (i : Int) % 8 = (r : Int) := ⟨i % 8, by omega⟩
      have hq4 : (q : Int) < 4 := by omega
      have hq0 : (0 : Int) ≤ (q : Int) := by omega
      have hr8 : (r : Int) < 8 := by omega
      have hqr : 8 * q + r = i := by omega
      have c1 := hW.out.c q (by omega)
      have c3 := hW.out.lt
      have c4 := hF.out.cell i hlt
      rw [if_neg (by omega)] at c4
      have c5 := hF.out.free
      have c6 := hF.out.size
      have B := WB.out q r (by omega) (by omega)
      rw [hqr] at B
      obtain ⟨y, hy⟩ : ∃ y, wdN n q = y := ⟨_, rfl⟩
      obtain ⟨z, hz⟩ : ∃ z, byteAt n i = z := ⟨_, rfl⟩
      rw [hy] at c1 B
      rw [hz] at B
      have Z : Hid (byteAt n i = z) := hz
      have m1 : IntKind.i64.wrap (8 * (r : Int)) = 8 * (r : Int) := wrapI _ (by omega) (by omega)
      have m1' : IntKind.i64.wrap ((r : Int) * 8) = 8 * (r : Int) := by rw [Int.mul_comm]; exact m1
      have m2 : IntKind.i64.wrap (q : Int) = (q : Int) := wrapI _ (by omega) (by omega)
      have m3 : IntKind.i64.wrap (r : Int) = (r : Int) := wrapI _ (by omega) (by omega)
      have m6 : 0 ≤ 8 * (r : Int) := by omega
      have m7 : (8 * (r : Int)).toNat = 8 * r := by omega
      have hlt' : (i : Int) < 32 := by omega
      have I : Hid (i < 32) := hlt
      clear hy hz hqr hlt hi
      go_wp2_with fail
      go_roundw
      case rel =>
        refine ⟨i + 1, by have := I.out; omega, by go_num, ?_, ?_, ?_⟩
        · exact hW.out.other _ _ _ (by omega)
        · have := hF.out.step I.out
          rw [Z.out] at this
          exact this
        · exact hG.out.setCell (by simp; have := hsz.out; omega) _
      case measure => have := I.out; simp [intOf]; omega
    · obtain rfl : i = 32 := by omega
      go_wp2_with fail
      go_ret
      exact ⟨_, rfl, hF.out, by have := hsz.out; omega, hG.out⟩

end Go.Proofs.YtkbiiolkekpkiaaDoor

/-
  The contract of the field's Of: bytes as an element, or none; it changes no memory that was there. Conditions: as each theorem says.
-/
namespace Go.Proofs.YtkbiiolkekpkiaaDoor
open Go.RowKit
set_option linter.unusedVariables false
set_option linter.unusedSimpArgs false

theorem low_ld (n : Nat) (h : n < P25) : (ld n).Low := by
  unfold P25 at h
  unfold ld L5.Low; dsimp only; omega
theorem of_short (a : Option Addr) (n cap : Nat) (hn : n ≠ 32) (w : World) : Calls Tryd.prog 34 #[.slice a n cap] w fun e w' => e = .returned (.tuple #[.agg #[.int .u64 0, .int .u64 0, .int .u64 0, .int .u64 0, .int .u64 0], .bool false]) ∧ Below w.heap.size w w' := by
  have h : ¬ (n : Int) = 32 := by omega
  go_enter Tryd.func34, Tryd.ntmps34
  go_wp2_with fail
  refine bodyPost_ret (v := .tuple #[.agg #[.int .u64 0, .int .u64 0, .int .u64 0, .int .u64 0, .int .u64 0], .bool false]) (by simp [results, Tryd.results34, go_sem]) rfl ⟨rfl, ?_⟩
  (repeat (first | exact Below.refl _ _ | refine Below.alloc ?_ (by simp <;> omega) _))
attribute [local go_sem] ext_cell ext_frozen
set_option maxRecDepth 100000 in
set_option maxHeartbeats 4000000 in
theorem of_yes (bs : Nat → Int) (hbs : ∀ j, 0 ≤ bs j ∧ bs j ≤ 255) (blk off cap : Nat) (w : World) (hblk : blk < w.heap.size) (hc : ∀ j, j < 32 → w.cell? ⟨blk, off + j, none⟩ = some (.int .u8 (bs j))) (h : vb bs 32 < P25) :
    Calls Tryd.prog 34 #[.slice (some ⟨blk, off, none⟩) 32 cap] w fun e w' => e = .returned (.tuple #[.agg #[.int .u64 ((ld (vb bs 32)).l0), .int .u64 ((ld (vb bs 32)).l1), .int .u64 ((ld (vb bs 32)).l2), .int .u64 ((ld (vb bs 32)).l3), .int .u64 ((ld (vb bs 32)).l4)], .bool true]) ∧ Below w.heap.size w w' := by
  have hN := vb32_lt bs hbs
  have kl : Hid (∀ W, Below w.heap.size w W → Calls Tryd.prog 65 #[.slice (some ⟨blk, off, none⟩) 32 cap] W fun e w' => e = .returned (.agg #[.int .u64 ((ld (vb bs 32)).l0), .int .u64 ((ld (vb bs 32)).l1), .int .u64 ((ld (vb bs 32)).l2), .int .u64 ((ld (vb bs 32)).l3), .int .u64 ((ld (vb bs 32)).l4)]) ∧ Below W.heap.size W w') := fun W hW => load_any bs hbs blk off cap W (Nat.lt_of_lt_of_le hblk hW.size) (fun j hj => (hW.cell (p := ⟨blk, off + j, none⟩) hblk).trans (hc j hj))
  obtain ⟨z, hz, ez, kz⟩ := reduced_fe (ld (vb bs 32)) (ld_tame _ hN)
  have ez' := ez.out
  rw [ld_num] at ez'
  have e : z = ld (vb bs 32) := hz.eq (low_ld _ h) (by rw [ez', ld_num, ← Int.natCast_emod, Nat.mod_eq_of_lt h])
  subst e
  have HE := neq5 (ld (vb bs 32)).l0 (ld (vb bs 32)).l1 (ld (vb bs 32)).l2 (ld (vb bs 32)).l3 (ld (vb bs 32)).l4
  obtain ⟨⟨a0, a1, a2, a3, a4⟩, hA⟩ : ∃ a, ld (vb bs 32) = a := ⟨_, rfl⟩
  rw [hA] at kl kz HE ⊢
  dsimp only at kl kz HE ⊢
  have ka : Hid (∀ W, Below w.heap.size w W → Calls Tryd.prog 65 #[.slice (some ⟨blk, off, none⟩) 32 cap] W fun e w' => e = .returned (.agg #[.int .u64 a0, .int .u64 a1, .int .u64 a2, .int .u64 a3, .int .u64 a4]) ∧ Below W.heap.size W w') := kl.out
  have Qz : Hid (∀ w : World, Calls Tryd.prog 66 #[.agg #[.int .u64 a0, .int .u64 a1, .int .u64 a2, .int .u64 a3, .int .u64 a4]] w fun e w' => e = .returned (.agg #[.int .u64 a0, .int .u64 a1, .int .u64 a2, .int .u64 a3, .int .u64 a4]) ∧ Below w.heap.size w w') := kz
  clear kl kz hz ez ez' hA hN hbs hc h hblk
  go_enter Tryd.func34, Tryd.ntmps34
  go_wp2_with fail
  refine calls_at (fun V => Bl5 V w.heap.size 0 0 0 0 0 ∧ Below w.heap.size w V) ⟨?_, ?_⟩ ?_
  · (repeat (first | refine Bl5.drew ?_ | refine Bl5.drewN ?_ _ | (refine Bl5.new _ _ _ _ _ _ _ _ ?_; simp; done) | refine Bl5.alloc ?_ _))
  · (repeat (first | exact Below.refl _ _ | refine Below.drew ?_ | refine below_drewN ?_ _ | refine Below.alloc ?_ (by simp <;> omega) _ | refine Below.setCell ?_ (by simp <;> omega) _))
  rintro v1 ⟨k0, k1⟩
  have R_1 : Hid (Bl5 v1 w.heap.size 0 0 0 0 0) := k0
  have G_1 : Hid (Below w.heap.size w v1) := k1
  clear k0 k1
  refine (ka.out _ G_1.out).mono ?_
  rintro e v2 ⟨rfl, g⟩
  have R_2 := hold (R_1.out.below g)
  have G_2 := hold (G_1.out.trans (g.mono G_1.out.size))
  clear R_1 G_1 g
  go_wp2_with fail
  have szA : w.heap.size ≤ v2.heap.size := G_2.out.size
  have nbAR : ¬ (v2.heap.size = w.heap.size) := by have := R_2.out.lt; omega
  refine wp_cut (fun V => Bl5 V w.heap.size 0 0 0 0 0 ∧ Bl5 V v2.heap.size a0 a1 a2 a3 a4 ∧ Below w.heap.size w V) ⟨R_2.out.alloc _, Bl5.new v2 _ _ _ _ _ _ _ rfl, G_2.out.alloc G_2.out.size _⟩ ?_
  rintro v3 ⟨k0, k1, k2⟩
  have R_3 : Hid (Bl5 v3 w.heap.size 0 0 0 0 0) := k0
  have A_3 : Hid (Bl5 v3 v2.heap.size a0 a1 a2 a3 a4) := k1
  have G_3 : Hid (Below w.heap.size w v3) := k2
  clear k0 k1 k2 R_2 G_2
  obtain ⟨cal, ca0, ca1, ca2, ca3, ca4, caf⟩ := A_3.out
  obtain ⟨crl, cr0, cr1, cr2, cr3, cr4, crf⟩ := R_3.out
  refine wp_region_ext (by kernel_rfl) (by kernel_rfl) ?_
  repeat (go_big_quiet_step ((first | with_reducible exact calls_ext (Qz.out _) | fail)))
  refine wpQuiet_nil ?_
  intro W1 hw
  obtain ⟨m, rfl⟩ := hw
  have g := ext_below v3 m
  obtain ⟨v4, hW⟩ : ∃ V, ext v3 m = V := ⟨_, rfl⟩
  rw [hW] at g ⊢
  clear hW
  have R_4 := hold (R_3.out.below g)
  have A_4 := hold (A_3.out.below g)
  have G_4 := hold (G_3.out.trans (g.mono G_3.out.size))
  clear cal ca0 ca1 ca2 ca3 ca4 caf crl cr0 cr1 cr2 cr3 cr4 crf
  clear R_3 A_3 G_3 g
  obtain ⟨cal, ca0, ca1, ca2, ca3, ca4, caf⟩ := A_4.out
  obtain ⟨crl, cr0, cr1, cr2, cr3, cr4, crf⟩ := R_4.out
  go_wp2_with fail
  refine body_cut (fun W => Bl5 W w.heap.size a0 a1 a2 a3 a4 ∧ Below w.heap.size w W) ⟨R_4.out.set a0 a1 a2 a3 a4, ?_⟩ ?_
  · iterate 5 (refine Below.setCell ?_ (by simp <;> omega) _)
    exact G_4.out
  · rintro W ⟨⟨rl, r0, r1, r2, r3, r4, rf⟩, hb⟩
    exact bodyPost_ret (v := .tuple #[.agg #[.int .u64 a0, .int .u64 a1, .int .u64 a2, .int .u64 a3, .int .u64 a4], .bool true]) (by simp [results, Tryd.results34, go_sem, r0, r1, r2, r3, r4]) rfl ⟨rfl, hb⟩

set_option maxRecDepth 100000 in
set_option maxHeartbeats 4000000 in
theorem of_no (bs : Nat → Int) (hbs : ∀ j, 0 ≤ bs j ∧ bs j ≤ 255) (blk off cap : Nat) (w : World) (hblk : blk < w.heap.size) (hc : ∀ j, j < 32 → w.cell? ⟨blk, off + j, none⟩ = some (.int .u8 (bs j))) (h : ¬ vb bs 32 < P25) :
    Calls Tryd.prog 34 #[.slice (some ⟨blk, off, none⟩) 32 cap] w fun e w' => e = .returned (.tuple #[.agg #[.int .u64 0, .int .u64 0, .int .u64 0, .int .u64 0, .int .u64 0], .bool false]) ∧ Below w.heap.size w w' := by
  have hN := vb32_lt bs hbs
  have kl : Hid (∀ W, Below w.heap.size w W → Calls Tryd.prog 65 #[.slice (some ⟨blk, off, none⟩) 32 cap] W fun e w' => e = .returned (.agg #[.int .u64 ((ld (vb bs 32)).l0), .int .u64 ((ld (vb bs 32)).l1), .int .u64 ((ld (vb bs 32)).l2), .int .u64 ((ld (vb bs 32)).l3), .int .u64 ((ld (vb bs 32)).l4)]) ∧ Below W.heap.size W w') := fun W hW => load_any bs hbs blk off cap W (Nat.lt_of_lt_of_le hblk hW.size) (fun j hj => (hW.cell (p := ⟨blk, off + j, none⟩) hblk).trans (hc j hj))
  obtain ⟨z, hz, ez, kz⟩ := reduced_fe (ld (vb bs 32)) (ld_tame _ hN)
  have ez' := ez.out
  rw [ld_num] at ez'
  have HE : ∀ w : World, (binOp .neq 26 (.agg #[.int .u64 ((ld (vb bs 32)).l0), .int .u64 ((ld (vb bs 32)).l1), .int .u64 ((ld (vb bs 32)).l2), .int .u64 ((ld (vb bs 32)).l3), .int .u64 ((ld (vb bs 32)).l4)]) (.agg #[.int .u64 z.l0, .int .u64 z.l1, .int .u64 z.l2, .int .u64 z.l3, .int .u64 z.l4])).run Tryd.prog w = .ok (.bool true) w := by
    intro w
    refine neq5_no _ _ _ _ _ _ _ _ _ _ ?_ w
    rintro ⟨h0, h1, h2, h3, h4⟩
    have e : z.num = (ld (vb bs 32)).num := by unfold L5.num; rw [h0, h1, h2, h3, h4]
    rw [ez', ld_num, ← Int.natCast_emod] at e
    have h5 : vb bs 32 % P25 < P25 := Nat.mod_lt _ P25_pos
    omega
  obtain ⟨⟨a0, a1, a2, a3, a4⟩, hA⟩ : ∃ a, ld (vb bs 32) = a := ⟨_, rfl⟩
  obtain ⟨z0, z1, z2, z3, z4⟩ := z
  rw [hA] at kl kz HE
  dsimp only at kl kz HE ⊢
  have ka : Hid (∀ W, Below w.heap.size w W → Calls Tryd.prog 65 #[.slice (some ⟨blk, off, none⟩) 32 cap] W fun e w' => e = .returned (.agg #[.int .u64 a0, .int .u64 a1, .int .u64 a2, .int .u64 a3, .int .u64 a4]) ∧ Below W.heap.size W w') := kl.out
  have Qz : Hid (∀ w : World, Calls Tryd.prog 66 #[.agg #[.int .u64 a0, .int .u64 a1, .int .u64 a2, .int .u64 a3, .int .u64 a4]] w fun e w' => e = .returned (.agg #[.int .u64 z0, .int .u64 z1, .int .u64 z2, .int .u64 z3, .int .u64 z4]) ∧ Below w.heap.size w w') := kz
  clear kl kz hz ez ez' hA hN hbs hc h hblk
  go_enter Tryd.func34, Tryd.ntmps34
  go_wp2_with fail
  refine calls_at (fun V => Bl5 V w.heap.size 0 0 0 0 0 ∧ Below w.heap.size w V) ⟨?_, ?_⟩ ?_
  · (repeat (first | refine Bl5.drew ?_ | refine Bl5.drewN ?_ _ | (refine Bl5.new _ _ _ _ _ _ _ _ ?_; simp; done) | refine Bl5.alloc ?_ _))
  · (repeat (first | exact Below.refl _ _ | refine Below.drew ?_ | refine below_drewN ?_ _ | refine Below.alloc ?_ (by simp <;> omega) _ | refine Below.setCell ?_ (by simp <;> omega) _))
  rintro v1 ⟨k0, k1⟩
  have R_1 : Hid (Bl5 v1 w.heap.size 0 0 0 0 0) := k0
  have G_1 : Hid (Below w.heap.size w v1) := k1
  clear k0 k1
  refine (ka.out _ G_1.out).mono ?_
  rintro e v2 ⟨rfl, g⟩
  have R_2 := hold (R_1.out.below g)
  have G_2 := hold (G_1.out.trans (g.mono G_1.out.size))
  clear R_1 G_1 g
  go_wp2_with fail
  have szA : w.heap.size ≤ v2.heap.size := G_2.out.size
  have nbAR : ¬ (v2.heap.size = w.heap.size) := by have := R_2.out.lt; omega
  refine wp_cut (fun V => Bl5 V w.heap.size 0 0 0 0 0 ∧ Bl5 V v2.heap.size a0 a1 a2 a3 a4 ∧ Below w.heap.size w V) ⟨R_2.out.alloc _, Bl5.new v2 _ _ _ _ _ _ _ rfl, G_2.out.alloc G_2.out.size _⟩ ?_
  rintro v3 ⟨k0, k1, k2⟩
  have R_3 : Hid (Bl5 v3 w.heap.size 0 0 0 0 0) := k0
  have A_3 : Hid (Bl5 v3 v2.heap.size a0 a1 a2 a3 a4) := k1
  have G_3 : Hid (Below w.heap.size w v3) := k2
  clear k0 k1 k2 R_2 G_2
  obtain ⟨cal, ca0, ca1, ca2, ca3, ca4, caf⟩ := A_3.out
  obtain ⟨crl, cr0, cr1, cr2, cr3, cr4, crf⟩ := R_3.out
  refine wp_region_ext (by kernel_rfl) (by kernel_rfl) ?_
  repeat (go_big_quiet_step ((first | with_reducible exact calls_ext (Qz.out _) | fail)))
  refine wpQuiet_nil ?_
  intro W1 hw
  obtain ⟨m, rfl⟩ := hw
  have g := ext_below v3 m
  obtain ⟨v4, hW⟩ : ∃ V, ext v3 m = V := ⟨_, rfl⟩
  rw [hW] at g ⊢
  clear hW
  have R_4 := hold (R_3.out.below g)
  have A_4 := hold (A_3.out.below g)
  have G_4 := hold (G_3.out.trans (g.mono G_3.out.size))
  clear cal ca0 ca1 ca2 ca3 ca4 caf crl cr0 cr1 cr2 cr3 cr4 crf
  clear R_3 A_3 G_3 g
  obtain ⟨cal, ca0, ca1, ca2, ca3, ca4, caf⟩ := A_4.out
  obtain ⟨crl, cr0, cr1, cr2, cr3, cr4, crf⟩ := R_4.out
  go_wp2_with fail
  refine body_cut (fun W => Bl5 W w.heap.size 0 0 0 0 0 ∧ Below w.heap.size w W) ⟨R_4.out.set 0 0 0 0 0, ?_⟩ ?_
  · iterate 5 (refine Below.setCell ?_ (by simp <;> omega) _)
    exact G_4.out
  · rintro W ⟨⟨rl, r0, r1, r2, r3, r4, rf⟩, hb⟩
    exact bodyPost_ret (v := .tuple #[.agg #[.int .u64 0, .int .u64 0, .int .u64 0, .int .u64 0, .int .u64 0], .bool false]) (by simp [results, Tryd.results34, go_sem, r0, r1, r2, r3, r4]) rfl ⟨rfl, hb⟩


end Go.Proofs.YtkbiiolkekpkiaaDoor
