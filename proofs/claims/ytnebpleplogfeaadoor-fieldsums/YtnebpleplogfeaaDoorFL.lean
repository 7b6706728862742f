/-
  The contract of the field's load: of 32 bytes, the lowest first, it returns the limbs of their number, and changes no memory that was there. Conditions: as each theorem says.
-/
import Derived.Test.YtnebpleplogfeaaDoorFF
import Derived.Test.YtnebpleplogfeaaDoorRefI
namespace Go.Proofs.YtnebpleplogfeaaDoor
open Go.RowKit
set_option linter.unusedVariables false
set_option linter.unusedSimpArgs false

/-- Block g holds four words, f 0 to f 3, and may be written. -/
structure Wd4 (W : World) (g : Nat) (f : Nat → Int) : Prop where
  lt : g < W.heap.size
  c : ∀ k, k < 4 → W.cell? ⟨g, k, none⟩ = some (.int .u64 (f k))
  fr : ∀ j, W.frozen? ⟨g, j, none⟩ = false
theorem Wd4.drew {W : World} {g : Nat} {f : Nat → Int} (h : Wd4 W g f) : Wd4 W.drew g f := ⟨h.lt, h.c, h.fr⟩
theorem Wd4.below {W W' : World} {g : Nat} {f : Nat → Int} (h : Wd4 W g f) (hb : Below W.heap.size W W') : Wd4 W' g f :=
  ⟨Nat.lt_of_lt_of_le h.lt hb.size, fun k hk => (hb.cell (p := ⟨g, k, none⟩) h.lt).trans (h.c k hk), fun j => (hb.frozen (p := ⟨g, j, none⟩) h.lt).trans (h.fr j)⟩
theorem Wd4.set {W : World} {g : Nat} {f : Nat → Int} (h : Wd4 W g f) (q : Nat) (x : Int) (hq : q < 4) : Wd4 (W.setCell ⟨g, q, none⟩ (.int .u64 x)) g (fun k => if k = q then x else f k) := by
  refine ⟨by simpa using h.lt, fun k hk => ?_, fun j => by simpa using h.fr j⟩
  by_cases e : k = q
  · subst e
    rw [if_pos rfl, World.cell?_setCell_same _ _ _ (h.c k hk)]
  · rw [if_neg e, World.cell?_setCell_other _ _ _ _ (fun p => e (by simpa using (congrArg Addr.off p).symm)), h.c k hk]
theorem Wd4.cong {W : World} {g : Nat} {f f' : Nat → Int} (h : Wd4 W g f) (e : ∀ k, k < 4 → f k = f' k) : Wd4 W g f' := ⟨h.lt, fun k hk => by rw [h.c k hk, e k hk], h.fr⟩
theorem Wd4.new (W : World) (g : Nat) (v0 v1 v2 v3 : Int) (f : Nat → Int) (t : TypeId) (hg : g = W.heap.size) (h0 : f 0 = v0) (h1 : f 1 = v1) (h2 : f 2 = v2) (h3 : f 3 = v3) : Wd4 (W.alloc (.cells #[.int .u64 v0, .int .u64 v1, .int .u64 v2, .int .u64 v3] t)) g f := by
  subst hg
  refine ⟨by simp, fun k hk => ?_, fun j => by simp [go_sem]⟩
  match k, hk with
  | 0, _ => rw [h0]; simp
  | 1, _ => rw [h1]; simp
  | 2, _ => rw [h2]; simp
  | 3, _ => rw [h3]; simp
/-- The words of bytes, after i of them. -/
def wsAt (bs : Nat → Int) (i k : Nat) : Int := ((vb (fun j => bs (8 * k + j)) (min 8 (i - 8 * k)) : Nat) : Int)
theorem wsAt_next (bs : Nat → Int) (hb : ∀ j, 0 ≤ bs j ∧ bs j ≤ 255) (i q r : Nat) (hi : i = 8 * q + r) (hr : r < 8) : bits .or .u64 (wsAt bs i q) (IntKind.u64.wrap (bs i * 2 ^ (8 * (r : Int)).toNat)) = wsAt bs (i + 1) q := by
  have h := or_byte (fun j => bs (8 * q + j)) (fun j => hb _) r hr
  unfold wsAt
  rw [show min 8 (i - 8 * q) = r by omega, show min 8 (i + 1 - 8 * q) = r + 1 by omega, hi]
  exact h
theorem wsAt_other (bs : Nat → Int) (i q r k : Nat) (hi : i = 8 * q + r) (hr : r < 8) (hk : k ≠ q) : wsAt bs i k = wsAt bs (i + 1) k := by
  unfold wsAt
  rw [show min 8 (i - 8 * k) = min 8 (i + 1 - 8 * k) by omega]
theorem or_words (a b s : Nat) (hs : s ≤ 64) (ha : a < 2 ^ 64) (hb : b < 2 ^ 64) : bits .or .u64 ((a / 2 ^ (64 - s) : Nat) : Int) (IntKind.u64.wrap ((b * 2 ^ s : Nat) : Int)) = ((a / 2 ^ (64 - s) + b * 2 ^ s % 2 ^ 64 : Nat) : Int) := by
  have h1 : a / 2 ^ (64 - s) < 2 ^ s := by
    rw [Nat.div_lt_iff_lt_mul (Nat.two_pow_pos _), ← Nat.pow_add, show s + (64 - s) = 64 by omega]
    exact ha
  have h2 : b * 2 ^ s % 2 ^ 64 = 2 ^ s * (b % 2 ^ (64 - s)) := by
    rw [Nat.mul_comm b, show (2 : Nat) ^ 64 = 2 ^ s * 2 ^ (64 - s) by rw [← Nat.pow_add, show s + (64 - s) = 64 by omega], Nat.mul_mod_mul_left]
  have h3 : IntKind.u64.wrap ((b * 2 ^ s : Nat) : Int) = ((b * 2 ^ s % 2 ^ 64 : Nat) : Int) := by
    rw [IntKind.wrap_u64]; omega
  have h4 : b * 2 ^ s % 2 ^ 64 < 2 ^ 64 := Nat.mod_lt _ (by decide)
  have h5 : a / 2 ^ (64 - s) < 2 ^ 64 := Nat.lt_of_le_of_lt (Nat.div_le_self _ _) ha
  rw [h3, bits_or_u64_nat _ _ (by omega) (by omega), h2, Nat.or_comm, ← Nat.two_pow_add_eq_or_of_lt h1, Nat.add_comm]
/-- The limbs of a number below 2^256. -/
def ld (n : Nat) : L5 := ⟨((n % 2 ^ 51 : Nat) : Int), ((n / 2 ^ 51 % 2 ^ 51 : Nat) : Int), ((n / 2 ^ 102 % 2 ^ 51 : Nat) : Int), ((n / 2 ^ 153 % 2 ^ 51 : Nat) : Int), ((n / 2 ^ 204 : Nat) : Int)⟩
theorem ld_num (n : Nat) : (ld n).num = (n : Int) := by unfold ld L5.num val5; dsimp only; omega
theorem ld_tame (n : Nat) (h : n < 2 ^ 256) : (ld n).Tm := by unfold ld L5.Tm Tame; dsimp only; omega
theorem words32 (bs : Nat → Int) (hb : ∀ j, 0 ≤ bs j ∧ bs j ≤ 255) : ∃ a0 a1 a2 a3 : Nat, a0 < 2 ^ 64 ∧ a1 < 2 ^ 64 ∧ a2 < 2 ^ 64 ∧ a3 < 2 ^ 64 ∧ wsAt bs 32 0 = a0 ∧ wsAt bs 32 1 = a1 ∧ wsAt bs 32 2 = a2 ∧ wsAt bs 32 3 = a3 ∧ vb bs 32 = a0 + 2 ^ 64 * a1 + 2 ^ 128 * a2 + 2 ^ 192 * a3 := by
  have l := fun q => vb_lt (fun j => bs (8 * q + j)) (fun j => hb _) 8
  have p8 : (256 : Nat) ^ 8 = 2 ^ 64 := by decide
  rw [p8] at l
  refine ⟨vb (fun j => bs (8 * 0 + j)) 8, vb (fun j => bs (8 * 1 + j)) 8, vb (fun j => bs (8 * 2 + j)) 8, vb (fun j => bs (8 * 3 + j)) 8, l 0, l 1, l 2, l 3, rfl, rfl, rfl, rfl, ?_⟩
  have s3 := vb_add bs 24 8
  have s2 := vb_add bs 16 8
  have s1 := vb_add bs 8 8
  simp only [Nat.reduceAdd] at s1 s2 s3
  have e0 : vb bs 8 = vb (fun j => bs (8 * 0 + j)) 8 := by congr 1; funext j; rw [Nat.mul_zero, Nat.zero_add]
  rw [s3, s2, s1, e0, show (256 : Nat) ^ 8 = 2 ^ 64 by decide, show (256 : Nat) ^ 16 = 2 ^ 128 by decide, show (256 : Nat) ^ 24 = 2 ^ 192 by decide]
theorem vb32_lt (bs : Nat → Int) (hb : ∀ j, 0 ≤ bs j ∧ bs j ≤ 255) : vb bs 32 < 2 ^ 256 := by
  have := vb_lt bs hb 32
  rwa [show (256 : Nat) ^ 32 = 2 ^ 256 by decide] at this
/-- The limbs out of the words. -/
theorem ld_words (n a0 a1 a2 a3 : Nat) (h0 : a0 < 2 ^ 64) (h1 : a1 < 2 ^ 64) (h2 : a2 < 2 ^ 64) (h3 : a3 < 2 ^ 64) (h : n = a0 + 2 ^ 64 * a1 + 2 ^ 128 * a2 + 2 ^ 192 * a3) : ∃ p1 p2 p3 l0 l1 l2 l3 l4 : Int, ld n = ⟨l0, l1, l2, l3, l4⟩ ∧
    bits .and .u64 (a0 : Int) 2251799813685247 = l0 ∧ bits .or .u64 ((a0 : Int) / 2251799813685248) (IntKind.u64.wrap ((a1 : Int) * 8192)) = p1 ∧ bits .and .u64 p1 2251799813685247 = l1 ∧ bits .or .u64 ((a1 : Int) / 274877906944) (IntKind.u64.wrap ((a2 : Int) * 67108864)) = p2 ∧ bits .and .u64 p2 2251799813685247 = l2 ∧ bits .or .u64 ((a2 : Int) / 33554432) (IntKind.u64.wrap ((a3 : Int) * 549755813888)) = p3 ∧ bits .and .u64 p3 2251799813685247 = l3 ∧ (a3 : Int) / 4096 = l4 := by
  have e1 := or_words a0 a1 13 (by decide) h0 h1
  have e2 := or_words a1 a2 26 (by decide) h1 h2
  have e3 := or_words a2 a3 39 (by decide) h2 h3
  simp only [Nat.reduceSub, Nat.reducePow, Int.natCast_mul, Int.natCast_ediv, Int.cast_ofNat_Int] at e1 e2 e3 h0 h1 h2 h3 h
  refine ⟨_, _, _, _, _, _, _, _, rfl, ?_, e1, ?_, e2, ?_, e3, ?_, ?_⟩
  · rw [mask51 _ (by omega)]; congr 1; omega
  · rw [mask51 _ (by omega)]; congr 1; omega
  · rw [mask51 _ (by omega)]; congr 1; omega
  · rw [mask51 _ (by omega)]; congr 1; omega
  · omega

set_option maxRecDepth 100000 in
set_option maxHeartbeats 8000000 in
theorem load_any (bs : Nat → Int) (hbs : ∀ j, 0 ≤ bs j ∧ bs j ≤ 255) (blk off cap : Nat) (w : World) (hblk : blk < w.heap.size) (hc : ∀ j, j < 32 → w.cell? ⟨blk, off + j, none⟩ = some (.int .u8 (bs j))) :
    Calls Tryd.prog 57 #[.slice (some ⟨blk, off, none⟩) 32 cap] w fun e w' => e = .returned (.agg #[.int .u64 ((ld (vb bs 32)).l0), .int .u64 ((ld (vb bs 32)).l1), .int .u64 ((ld (vb bs 32)).l2), .int .u64 ((ld (vb bs 32)).l3), .int .u64 ((ld (vb bs 32)).l4)]) ∧ Below w.heap.size w w' := by
  obtain ⟨a0, a1, a2, a3, h0, h1, h2, h3, e0, e1, e2, e3, hN⟩ := words32 bs hbs
  obtain ⟨p1, p2, p3, l0, l1, l2, l3, l4, hL, f0, f1, f2, f3, f4, f5, f6, f7⟩ := ld_words _ a0 a1 a2 a3 h0 h1 h2 h3 hN
  rw [hL]
  dsimp only
  have HB : Hid (∀ j, 0 ≤ bs j ∧ bs j ≤ 255) := hbs
  have HC : Hid (∀ j, j < 32 → w.cell? ⟨blk, off + j, none⟩ = some (.int .u8 (bs j))) := hc
  have E : Hid (wsAt bs 32 0 = a0 ∧ wsAt bs 32 1 = a1 ∧ wsAt bs 32 2 = a2 ∧ wsAt bs 32 3 = a3) := ⟨e0, e1, e2, e3⟩
  clear hbs hc e0 e1 e2 e3 hN hL h0 h1 h2 h3
  go_enter Tryd.func57, Tryd.ntmps57
  go_wp2_with fail
  go_loopw [8] (fun y wr => ∃ i : Nat, i ≤ 32 ∧ y = .int .i64 (i : Int) ∧ Hid (Wd4 wr (w.heap.size + 1) (wsAt bs i)) ∧ Hid (Bl5 wr w.heap.size 0 0 0 0 0) ∧ Hid (Below w.heap.size w wr)) (fun y _ => 32 - (intOf y).toNat)
  case atStart =>
    refine ⟨0, by omega, rfl, ?_, ?_, ?_⟩
    · exact Wd4.new _ _ _ _ _ _ _ _ (by simp) rfl rfl rfl rfl
    · exact (Bl5.new w _ _ _ _ _ _ _ rfl).alloc _
    · exact ((Below.refl _ _).alloc (Nat.le_refl _) _).alloc (by simp) _
  case round =>
    obtain ⟨i, hi, rfl, hW, hR, hG⟩ := hrel
    obtain ⟨w0, hw0⟩ : ∃ w0, wr = w0 := ⟨_, rfl⟩
    subst hw0
    by_cases hlt : i < 32
    · obtain ⟨q, hq⟩ : ∃ q : Nat, (i : Int) / 8 = (q : Int) := ⟨i / 8, by omega⟩
      obtain ⟨r, hr⟩ : ∃ r : Nat, (i : Int) % 8 = (r : Int) := ⟨i % 8, by omega⟩
      have hq4 : (q : Int) < 4 := by omega
      have hq0 : (0 : Int) ≤ (q : Int) := by omega
      have hr8 : (r : Int) < 8 := by omega
      have hqr : i = 8 * q + r := by omega
      have c1 := hW.out.c q (by omega)
      have c2 := hW.out.fr
      have c3 := hW.out.lt
      have c4 : wr.cell? ⟨blk, off + i, none⟩ = some (.int .u8 (bs i)) := (hG.out.cell (p := ⟨blk, off + i, none⟩) hblk).trans (HC.out i hlt)
      have B : Hid (bits .or .u64 (wsAt bs i q) (IntKind.u64.wrap (bs i * 2 ^ (8 * (r : Int)).toNat)) = wsAt bs (i + 1) q) := wsAt_next bs HB.out i q r hqr (by omega)
      have O : Hid (∀ k, k < 4 → (if k = q then wsAt bs (i + 1) q else wsAt bs i k) = wsAt bs (i + 1) k) := by
        intro k hk
        by_cases e : k = q
        · rw [if_pos e, e]
        · rw [if_neg e, wsAt_other bs i q r k hqr (by omega) e]
      have bb := HB.out i
      obtain ⟨x, hx⟩ : ∃ x, bs i = x := ⟨_, rfl⟩
      obtain ⟨y, hy⟩ : ∃ y, wsAt bs i q = y := ⟨_, rfl⟩
      obtain ⟨z, hz⟩ : ∃ z, wsAt bs (i + 1) q = z := ⟨_, rfl⟩
      rw [hx] at c4 bb B
      rw [hy] at c1 B
      rw [hz] at B O
      have m1 : IntKind.i64.wrap (8 * (r : Int)) = 8 * (r : Int) := wrapI _ (by omega) (by omega)
      have m1' : IntKind.i64.wrap ((r : Int) * 8) = 8 * (r : Int) := by rw [Int.mul_comm]; exact m1
      have m2 : IntKind.i64.wrap (q : Int) = (q : Int) := wrapI _ (by omega) (by omega)
      have m3 : IntKind.i64.wrap (r : Int) = (r : Int) := wrapI _ (by omega) (by omega)
      have m5 : IntKind.u64.wrap x = x := wrapW _ (by omega) (by omega)
      have m6 : 0 ≤ 8 * (r : Int) := by omega
      have hlt' : (i : Int) < 32 := by omega
      have B' := B.out
      rw [show (8 * (r : Int)).toNat = 8 * r by omega] at B'
      have I : Hid (i < 32) := hlt
      clear hx hy hz hqr hlt hi
      go_wp2_with fail
      go_region
      all_goals
        go_wp2_with fail
        go_roundw
        case rel =>
          refine ⟨i + 1, by have := I.out; omega, by go_num, ?_, ?_, ?_⟩
          · exact ((hW.out.set q z (by omega)).cong O.out).drew
          · exact (hR.out.other _ _ _ (by omega)).drew
          · exact (hG.out.setCell (by simp <;> omega) _).drew
        case measure => have := I.out; simp [intOf]; omega
    · obtain rfl : i = 32 := by omega
      obtain ⟨E0, E1, E2, E3⟩ := E.out
      have c0 := hW.out.c 0 (by decide)
      have c1 := hW.out.c 1 (by decide)
      have c2 := hW.out.c 2 (by decide)
      have c3 := hW.out.c 3 (by decide)
      rw [E0] at c0
      rw [E1] at c1
      rw [E2] at c2
      rw [E3] at c3
      clear E0 E1 E2 E3
      obtain ⟨rl, r0, r1, r2, r3, r4, rf⟩ := hR.out
      go_wp2_with fail
      refine body_cut (fun W => Bl5 W w.heap.size l0 l1 l2 l3 l4 ∧ Below w.heap.size w W) ⟨hR.out.set l0 l1 l2 l3 l4, ?_⟩ ?_
      · iterate 5 (refine Below.setCell ?_ (by simp <;> omega) _)
        exact hG.out
      · clear rl r0 r1 r2 r3 r4 rf
        rintro W ⟨⟨rl, r0, r1, r2, r3, r4, rf⟩, hb⟩
        exact bodyPost_ret (v := .agg #[.int .u64 l0, .int .u64 l1, .int .u64 l2, .int .u64 l3, .int .u64 l4]) (by simp [results, Tryd.results57, go_sem, r0, r1, r2, r3, r4]) rfl ⟨rfl, hb⟩

end Go.Proofs.YtnebpleplogfeaaDoor
