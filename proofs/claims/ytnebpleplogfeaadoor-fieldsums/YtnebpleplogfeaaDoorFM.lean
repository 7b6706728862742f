/-
  The contracts of the field's Of and Bytes: bytes as an element, or none; an element's 32 bytes; they change no memory that was there. Conditions: as each theorem says.
-/
import Derived.Test.YtnebpleplogfeaaDoorFL
import Derived.Test.YtnebpleplogfeaaDoorFG
import Derived.Test.YtnebpleplogfeaaDoorFI
import Derived.Test.YtnebpleplogfeaaDoorFJ
namespace Go.Proofs.YtnebpleplogfeaaDoor
open Go.RowKit
set_option linter.unusedVariables false
set_option linter.unusedSimpArgs false

theorem or_hi (lo b s : Nat) (hs : s ≤ 64) (hl : lo < 2 ^ s) : bits .or .u64 (lo : Int) (IntKind.u64.wrap ((b * 2 ^ s : Nat) : Int)) = ((lo + b * 2 ^ s % 2 ^ 64 : Nat) : Int) := by
  have h2 : b * 2 ^ s % 2 ^ 64 = 2 ^ s * (b % 2 ^ (64 - s)) := by
    rw [Nat.mul_comm b, show (2 : Nat) ^ 64 = 2 ^ s * 2 ^ (64 - s) by rw [← Nat.pow_add, show s + (64 - s) = 64 by omega], Nat.mul_mod_mul_left]
  have h3 : IntKind.u64.wrap ((b * 2 ^ s : Nat) : Int) = ((b * 2 ^ s % 2 ^ 64 : Nat) : Int) := by
    rw [IntKind.wrap_u64]; omega
  have h4 : b * 2 ^ s % 2 ^ 64 < 2 ^ 64 := Nat.mod_lt _ (by decide)
  have h5 : lo < 2 ^ 64 := Nat.lt_of_lt_of_le hl (Nat.pow_le_pow_right (by omega) hs)
  rw [h3, bits_or_u64_nat _ _ (by omega) (by omega), h2, Nat.or_comm, ← Nat.two_pow_add_eq_or_of_lt hl, Nat.add_comm]
/-- The words out of the limbs. -/
theorem words_ld (z : L5) (hz : z.Low) (n : Nat) (hn : z.num = (n : Int)) : bits .or .u64 z.l0 (IntKind.u64.wrap (z.l1 * 2251799813685248)) = ((n % 2 ^ 64 : Nat) : Int) ∧ bits .or .u64 (z.l1 / 8192) (IntKind.u64.wrap (z.l2 * 274877906944)) = ((n / 2 ^ 64 % 2 ^ 64 : Nat) : Int) ∧
    bits .or .u64 (z.l2 / 67108864) (IntKind.u64.wrap (z.l3 * 33554432)) = ((n / 2 ^ 128 % 2 ^ 64 : Nat) : Int) ∧ bits .or .u64 (z.l3 / 549755813888) (IntKind.u64.wrap (z.l4 * 4096)) = ((n / 2 ^ 192 % 2 ^ 64 : Nat) : Int) := by
  obtain ⟨z0, z1, z2, z3, z4⟩ := z
  unfold L5.Low at hz
  unfold L5.num val5 at hn
  dsimp only at hz hn ⊢
  obtain ⟨n0, rfl⟩ := Int.eq_ofNat_of_zero_le hz.1.1
  obtain ⟨n1, rfl⟩ := Int.eq_ofNat_of_zero_le hz.2.1.1
  obtain ⟨n2, rfl⟩ := Int.eq_ofNat_of_zero_le hz.2.2.1.1
  obtain ⟨n3, rfl⟩ := Int.eq_ofNat_of_zero_le hz.2.2.2.1.1
  obtain ⟨n4, rfl⟩ := Int.eq_ofNat_of_zero_le hz.2.2.2.2.1
  have e0 := or_hi n0 n1 51 (by decide) (by omega)
  have e1 := or_hi (n1 / 8192) n2 38 (by decide) (by omega)
  have e2 := or_hi (n2 / 67108864) n3 25 (by decide) (by omega)
  have e3 := or_hi (n3 / 549755813888) n4 12 (by decide) (by omega)
  simp only [Nat.reducePow, Int.natCast_mul, Int.natCast_ediv, Int.cast_ofNat_Int] at e0 e1 e2 e3
  refine ⟨e0.trans ?_, e1.trans ?_, e2.trans ?_, e3.trans ?_⟩
  all_goals (congr 1; omega)
/-- The first t bytes of a number stand in block B. -/
structure Fil (x B t : Nat) (W : World) : Prop where
  cell : ∀ j, j < 32 → W.cell? ⟨B, j, none⟩ = some (.int .u8 (if j < t then byteAt x j else 0))
  free : ∀ o, W.frozen? ⟨B, o, none⟩ = false
  size : B < W.heap.size
theorem Fil.drew {x B t : Nat} {W : World} (h : Fil x B t W) : Fil x B t W.drew := ⟨h.cell, h.free, h.size⟩
theorem Fil.below {x B t : Nat} {W W' : World} (h : Fil x B t W) (hb : Below W.heap.size W W') : Fil x B t W' :=
  ⟨fun j hj => (hb.cell (p := ⟨B, j, none⟩) h.size).trans (h.cell j hj), fun j => (hb.frozen (p := ⟨B, j, none⟩) h.size).trans (h.free j), Nat.lt_of_lt_of_le h.size hb.size⟩
theorem Fil.step {x B t : Nat} {W : World} (h : Fil x B t W) (ht : t < 32) : Fil x B (t + 1) (W.setCell ⟨B, t, none⟩ (.int .u8 (byteAt x t))) := by
  refine ⟨fun j hj => ?_, fun o => ?_, ?_⟩
  · by_cases e : j = t
    · subst e
      rw [World.cell?_setCell_same _ _ _ (h.cell j hj), if_pos (by omega)]
    · rw [World.cell?_setCell_other _ _ _ _ (fun q => e (by simpa using (congrArg Addr.off q).symm)), h.cell j hj]
      by_cases hlt : j < t
      · rw [if_pos hlt, if_pos (by omega)]
      · rw [if_neg hlt, if_neg (by omega)]
  · rw [← h.free o]; simp
  · simpa using h.size
theorem Wd4.other {W : World} {g : Nat} {f : Nat → Int} (h : Wd4 W g f) (b i : Nat) (v : Value) (hb : b ≠ g) : Wd4 (W.setCell ⟨b, i, none⟩ v) g f :=
  ⟨by simpa using h.lt, fun k hk => by rw [World.cell?_setCell_other _ _ _ _ (fun e => hb (congrArg Addr.block e))]; exact h.c k hk, fun j => by simpa using h.fr j⟩
theorem make32' (w : World) : (Instr.makeSlice 50 (.int .i64 32) (.int .i64 32)).run Tryd.prog w = .ok (.slice (some ⟨w.heap.size, 0, none⟩) 32 32) (w.alloc (.cells (Array.replicate 32 (.int .u8 0)) 5)) := by kernel_rfl
theorem Fil.new (x : Nat) (w : World) (t : TypeId) : Fil x w.heap.size 0 (w.alloc (.cells (Array.replicate 32 (.int .u8 0)) t)) := by
  refine ⟨fun j hj => ?_, fun o => by simp [go_sem], by simp⟩
  rw [if_neg (by omega)]
  simp [go_sem, hj]
theorem Wd4.alloc {W : World} {g : Nat} {f : Nat → Int} (h : Wd4 W g f) (o : Obj) : Wd4 (W.alloc o) g f := h.below (Below.alloc (Below.refl _ _) (Nat.le_refl _) o)
/-- The words of a number. -/
def wdN (n : Nat) : Nat → Int
  | 0 => ((n % 2 ^ 64 : Nat) : Int) | 1 => ((n / 2 ^ 64 % 2 ^ 64 : Nat) : Int) | 2 => ((n / 2 ^ 128 % 2 ^ 64 : Nat) : Int) | _ => ((n / 2 ^ 192 % 2 ^ 64 : Nat) : Int)
theorem wdN_byte (n q r : Nat) (hq : q < 4) (hr : r < 8) : IntKind.u8.wrap (wdN n q / 2 ^ (8 * r)) = byteAt n (8 * q + r) := by
  have key : ∀ m k : Nat, m = n / 2 ^ (64 * k) % 2 ^ 64 → IntKind.u8.wrap ((m : Int) / 2 ^ (8 * r)) = byteAt n (8 * k + r) := by
    intro m k hm
    have e1 : (m : Int) / 2 ^ (8 * r) = ((m / 2 ^ (8 * r) : Nat) : Int) := by simp
    rw [e1, IntKind.wrap_u8]
    unfold byteAt
    have e2 : m / 2 ^ (8 * r) % 256 = n / 2 ^ (8 * (8 * k + r)) % 256 := by
      rw [hm, show 8 * (8 * k + r) = 64 * k + 8 * r by omega, Nat.pow_add, ← Nat.div_div_eq_div_mul]
      generalize n / 2 ^ (64 * k) = y
      have : (2 : Nat) ^ 64 = 2 ^ (8 * r) * 2 ^ (64 - 8 * r) := by rw [← Nat.pow_add, show 8 * r + (64 - 8 * r) = 64 by omega]
      rw [this, Nat.mod_mul_right_div_self, Nat.mod_mod_of_dvd]
      exact ⟨2 ^ (56 - 8 * r), by rw [show (256 : Nat) = 2 ^ 8 from rfl, ← Nat.pow_add, show 8 + (56 - 8 * r) = 64 - 8 * r by omega]⟩
    omega
  match q, hq with
  | 0, _ => exact key _ 0 (by simp)
  | 1, _ => exact key _ 1 (by simp)
  | 2, _ => exact key _ 2 (by simp)
  | 3, _ => exact key _ 3 (by simp)

set_option maxRecDepth 100000 in
set_option maxHeartbeats 8000000 in
theorem bytes_fe (x : L5) (hx : x.Tm) (w : World) : Calls Tryd.prog 38 #[.agg #[.int .u64 x.l0, .int .u64 x.l1, .int .u64 x.l2, .int .u64 x.l3, .int .u64 x.l4]] w fun e w' => ∃ g, e = .returned (.slice (some ⟨g, 0, none⟩) 32 32) ∧ Fil x.nn g 32 w' ∧ w.heap.size ≤ g ∧ Below w.heap.size w w' := by
  obtain ⟨z, hz, ez, kz⟩ := reduced_fe x hx
  have hv : z.num = (x.nn : Int) := by rw [ez.out, x.nn_eq]
  obtain ⟨f0, f1, f2, f3⟩ := words_ld z hz x.nn hv
  have WB : Hid (∀ q r, q < 4 → r < 8 → IntKind.u8.wrap (wdN x.nn q / 2 ^ (8 * r)) = byteAt x.nn (8 * q + r)) := fun q r hq hr => wdN_byte x.nn q r hq hr
  obtain ⟨n, hn⟩ : ∃ n, x.nn = n := ⟨_, rfl⟩
  rw [hn] at f0 f1 f2 f3 WB ⊢
  obtain ⟨a0, h0⟩ : ∃ a, wdN n 0 = a := ⟨_, rfl⟩
  obtain ⟨a1, h1⟩ : ∃ a, wdN n 1 = a := ⟨_, rfl⟩
  obtain ⟨a2, h2⟩ : ∃ a, wdN n 2 = a := ⟨_, rfl⟩
  obtain ⟨a3, h3⟩ : ∃ a, wdN n 3 = a := ⟨_, rfl⟩
  replace f0 := f0.trans h0
  replace f1 := f1.trans h1
  replace f2 := f2.trans h2
  replace f3 := f3.trans h3
  have HW : Hid (wdN n 0 = a0 ∧ wdN n 1 = a1 ∧ wdN n 2 = a2 ∧ wdN n 3 = a3) := ⟨h0, h1, h2, h3⟩
  obtain ⟨x0, x1, x2, x3, x4⟩ := x
  obtain ⟨z0, z1, z2, z3, z4⟩ := z
  dsimp only at kz f0 f1 f2 f3 ⊢
  have Qz : Hid (∀ w : World, Calls Tryd.prog 54 #[.agg #[.int .u64 x0, .int .u64 x1, .int .u64 x2, .int .u64 x3, .int .u64 x4]] w fun e w' => e = .returned (.agg #[.int .u64 z0, .int .u64 z1, .int .u64 z2, .int .u64 z3, .int .u64 z4]) ∧ Below w.heap.size w w') := kz
  clear kz hz ez hv hx hn h0 h1 h2 h3
  have hmk := make32'
  go_enter Tryd.func38, Tryd.ntmps38
  go_wp2_with fail
  refine calls_at (fun V => Bl5 V w.heap.size x0 x1 x2 x3 x4 ∧ Below w.heap.size w V) ⟨?_, ?_⟩ ?_
  · (repeat (first | refine Bl5.drew ?_ | refine Bl5.drewN ?_ _ | (refine Bl5.new _ _ _ _ _ _ _ _ ?_; simp; done) | refine Bl5.alloc ?_ _))
  · (repeat (first | exact Below.refl _ _ | refine Below.drew ?_ | refine below_drewN ?_ _ | refine Below.alloc ?_ (by simp <;> omega) _ | refine Below.setCell ?_ (by simp <;> omega) _))
  rintro v1 ⟨k0, k1⟩
  have A_1 : Hid (Bl5 v1 w.heap.size x0 x1 x2 x3 x4) := k0
  have G_1 : Hid (Below w.heap.size w v1) := k1
  clear k0 k1
  refine (Qz.out _).mono ?_
  rintro e v2 ⟨rfl, g⟩
  have A_2 : Hid (Bl5 v2 w.heap.size x0 x1 x2 x3 x4) := A_1.out.below g
  have G_2 : Hid (Below w.heap.size w v2) := G_1.out.trans (g.mono G_1.out.size)
  clear A_1 G_1 g
  obtain ⟨cal, ca0, ca1, ca2, ca3, ca4, caf⟩ := A_2.out
  go_wp2_with fail
  refine wp_cut (fun W => Wd4 W v2.heap.size (wdN n) ∧ Fil n (v2.heap.size + 1) 0 W ∧ Below w.heap.size w W) ⟨?_, ?_, ?_⟩ ?_
  · refine Wd4.alloc ?_ _
    refine Wd4.new _ _ _ _ _ _ _ _ ?_ HW.out.1 HW.out.2.1 HW.out.2.2.1 HW.out.2.2.2
    simp
  · have := Fil.new n ((((((v2.setCell ⟨w.heap.size, 0, none⟩ (.int .u64 z0)).setCell ⟨w.heap.size, 1, none⟩ (.int .u64 z1)).setCell ⟨w.heap.size, 2, none⟩ (.int .u64 z2)).setCell ⟨w.heap.size, 3, none⟩ (.int .u64 z3)).setCell ⟨w.heap.size, 4, none⟩ (.int .u64 z4)).alloc (.cells #[.int .u64 a0, .int .u64 a1, .int .u64 a2, .int .u64 a3] 76)) 5
    simpa using this
  · refine Below.alloc (Below.alloc ?_ (by simp; exact G_2.out.size) _) (by simp; have := G_2.out.size; omega) _
    iterate 5 (refine Below.setCell ?_ (by simp <;> omega) _)
    exact G_2.out
  rintro W ⟨hW, hF, hB⟩
  have KW : Hid (Wd4 W v2.heap.size (wdN n)) := hW
  have KF : Hid (Fil n (v2.heap.size + 1) 0 W) := hF
  have KB : Hid (Below w.heap.size w W) := hB
  have hsz : Hid (w.heap.size ≤ v2.heap.size) := G_2.out.size
  clear hW hF hB A_2 G_2 cal ca0 ca1 ca2 ca3 ca4 caf f0 f1 f2 f3 hmk Qz HW
  go_loopw [37] (fun y wr => ∃ i : Nat, i ≤ 32 ∧ y = .int .i64 (i : Int) ∧ Hid (Wd4 wr v2.heap.size (wdN n)) ∧ Hid (Fil n (v2.heap.size + 1) i wr) ∧ Hid (Below w.heap.size w wr)) (fun y _ => 32 - (intOf y).toNat)
  case atStart => exact ⟨0, by omega, rfl, KW, KF, KB⟩
  case round =>
    obtain ⟨i, hi, rfl, hW, hF, hG⟩ := hrel
    obtain ⟨w0, hw0⟩ : ∃ w0, wr = w0 := ⟨_, rfl⟩
    subst hw0
    clear KW KF KB
    by_cases hlt : i < 32
    · obtain ⟨q, hq⟩ : ∃ q : Nat, (i : Int) / 8 = (q : Int) := ⟨i / 8, by omega⟩
      obtain ⟨r, hr⟩ : ∃ r : Nat, (i : Int) % 8 = (r : Int) := ⟨i % 8, by omega⟩
      have hq4 : (q : Int) < 4 := by omega
      have hq0 : (0 : Int) ≤ (q : Int) := by omega
      have hr8 : (r : Int) < 8 := by omega
      have hqr : 8 * q + r = i := by omega
      have c1 := hW.out.c q (by omega)
      have c3 := hW.out.lt
      have c4 := hF.out.cell i hlt
      rw [if_neg (by omega)] at c4
      have c5 := hF.out.free
      have c6 := hF.out.size
      have B := WB.out q r (by omega) (by omega)
      rw [hqr] at B
      obtain ⟨y, hy⟩ : ∃ y, wdN n q = y := ⟨_, rfl⟩
      obtain ⟨z, hz⟩ : ∃ z, byteAt n i = z := ⟨_, rfl⟩
      rw [hy] at c1 B
      rw [hz] at B
      have Z : Hid (byteAt n i = z) := hz
      have m1 : IntKind.i64.wrap (8 * (r : Int)) = 8 * (r : Int) := wrapI _ (by omega) (by omega)
      have m1' : IntKind.i64.wrap ((r : Int) * 8) = 8 * (r : Int) := by rw [Int.mul_comm]; exact m1
      have m2 : IntKind.i64.wrap (q : Int) = (q : Int) := wrapI _ (by omega) (by omega)
      have m3 : IntKind.i64.wrap (r : Int) = (r : Int) := wrapI _ (by omega) (by omega)
      have m6 : 0 ≤ 8 * (r : Int) := by omega
      have m7 : (8 * (r : Int)).toNat = 8 * r := by omega
      have hlt' : (i : Int) < 32 := by omega
      have I : Hid (i < 32) := hlt
      clear hy hz hqr hlt hi
      go_wp2_with fail
      go_roundw
      case rel =>
        refine ⟨i + 1, by have := I.out; omega, by go_num, ?_, ?_, ?_⟩
        · exact hW.out.other _ _ _ (by omega)
        · have := hF.out.step I.out
          rw [Z.out] at this
          exact this
        · exact hG.out.setCell (by simp; have := hsz.out; omega) _
      case measure => have := I.out; simp [intOf]; omega
    · obtain rfl : i = 32 := by omega
      go_wp2_with fail
      go_ret
      exact ⟨_, rfl, hF.out, by have := hsz.out; omega, hG.out⟩

end Go.Proofs.YtnebpleplogfeaaDoor
